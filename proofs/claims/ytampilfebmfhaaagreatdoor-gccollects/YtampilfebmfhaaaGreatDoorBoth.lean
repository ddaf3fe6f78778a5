/- A heap and the document's, side by side: each op answers the same of both. -/
import Derived.Test.YtampilfebmfhaaaGreatDoorMore
namespace Go.Proofs.YtampilfebmfhaaaGreatDoor
open Go.RowKit

/-- What the two heaps hold. -/
structure BSt where
  vw : Value
  vb : Value
  vo : Value
  used : Nat
  R : List (Ob × Value)

/-- The blocks of both. -/
def BSt.foot (s : BSt) (bh b br k : Nat) : Prop := k = bh ∨ k = b ∨ s.vw.ownBlock = some k ∨ s.vb.ownBlock = some k ∨ IsRf.mine br s.vo s.R k

structure Bo (n₀ bh b br lim : Nat) (w : World) (s : BSt) : Prop where
  hp : Hp n₀ bh b s.vw s.vb w lim s.used (s.R.map Prod.fst)
  rf : IsRf n₀ br s.vo w lim s.used s.R
  dis : ∀ x ∈ s.R, ∀ k, x.2.ownBlock = some k → s.vw.ownBlock ≠ some k

structure BStep (bh b br : Nat) (s : BSt) (w : World) (s' : BSt) (w' : World) : Prop where
  os : w'.os = w.os
  tape : w'.tape = w.tape
  output : w'.output = w.output
  size : w.heap.size ≤ w'.heap.size
  block : ∀ k, k < w.heap.size → ¬ s.foot bh b br k → w'.heap[k]? = w.heap[k]?
  foot : ∀ k, s'.foot bh b br k → s.foot bh b br k ∨ w.heap.size ≤ k

variable {n₀ bh b br lim : Nat} {w w1 w' : World} {s s' : BSt}

theorem BStep.trans {s2 : BSt} {w2 : World} (h : BStep bh b br s w s' w') (g : BStep bh b br s' w' s2 w2) : BStep bh b br s w s2 w2 := by
  refine ⟨g.os.trans h.os, g.tape.trans h.tape, g.output.trans h.output, Nat.le_trans h.size g.size, ?_, ?_⟩
  · intro k hk hf
    refine (g.block k (Nat.lt_of_lt_of_le hk h.size) (fun e => ?_)).trans (h.block k hk hf)
    rcases h.foot k e with e | e
    · exact hf e
    · omega
  · intro k e
    rcases g.foot k e with e | e
    · exact h.foot k e
    · exact .inr (Nat.le_trans h.size e)

theorem BStep.of_below (h : Below w.heap.size w w') : BStep bh b br s w s w' :=
  ⟨h.os, h.tape, h.output, h.size, fun k hk _ => h.block k hk, fun _ h => .inl h⟩

theorem BStep.refl (bh b br : Nat) (s : BSt) (w : World) : BStep bh b br s w s w := BStep.of_below (Below.refl _ _)

theorem BStep.ofH {vw' vb' : Value} {u : Nat} (h : Step b s.vw s.vb w vw' vb' w') : BStep bh b br s w { s with vw := vw', vb := vb', used := u } w' := by
  refine ⟨h.os, h.tape, h.output, h.size, ?_, ?_⟩
  · intro k hk hf
    exact h.block k hk (fun e => hf (.inr (.inl e))) (fun e => hf (.inr (.inr (.inl e.symm)))) (fun e => hf (.inr (.inr (.inr (.inl e.symm)))))
  · rintro k (e | e | e | e | e)
    · exact .inl (.inl e)
    · exact .inl (.inr (.inl e))
    · rcases h.fw k e with e | e
      · exact .inl (.inr (.inr (.inl e)))
      · exact .inr e
    · rcases h.fb k e with e | e
      · exact .inl (.inr (.inr (.inr (.inl e))))
      · exact .inr e
    · exact .inl (.inr (.inr (.inr (.inr e))))

theorem BStep.ofR {vo' : Value} {R' : List (Ob × Value)} {u : Nat} (h : RStep br s.vo s.R w vo' R' w') : BStep bh b br s w { s with vo := vo', R := R', used := u } w' := by
  refine ⟨h.os, h.tape, h.output, h.size, ?_, ?_⟩
  · intro k hk hf
    exact h.block k hk (fun e => hf (.inr (.inr (.inr (.inr e)))))
  · rintro k (e | e | e | e | e)
    · exact .inl (.inl e)
    · exact .inl (.inr (.inl e))
    · exact .inl (.inr (.inr (.inl e)))
    · exact .inl (.inr (.inr (.inr (.inl e))))
    · rcases h.mine k e with e | e
      · exact .inl (.inr (.inr (.inr (.inr e))))
      · exact .inr e

/-- Behind a step of the heap the document's is as it was. -/
theorem Bo.afterH (h : Bo n₀ bh b br lim w s) {vw' vb' : Value} (hS : Step b s.vw s.vb w vw' vb' w') : IsRf n₀ br s.vo w' lim s.used s.R ∧ (∀ x ∈ s.R, ∀ k, x.2.ownBlock = some k → vw'.ownBlock ≠ some k) := by
  obtain ⟨A, h1, h2, _, _⟩ := h.hp
  refine ⟨h.rf.kept (fun k hk => ?_), ?_⟩
  · obtain ⟨_, hlt, cur, t, hc, ht⟩ := h.rf.blocks hk
    refine hS.block k hlt ?_ ?_ ?_
    · rintro rfl; rw [h1.ar.blk] at hc; rcases ht with rfl | rfl | rfl <;> simp at hc
    · intro e
      obtain ⟨cur', hc'⟩ := IsAr.row_type h1.ar.rw e.symm
      rcases hk with rfl | e2 | ⟨x, hx, e2⟩
      · rw [h.rf.blk] at hc'; simp at hc'
      · obtain ⟨cur2, hc2⟩ := IsRf.row_type3 h.rf.row e2; rw [hc'] at hc2; simp at hc2
      · exact h.dis x hx k e2 e.symm
    · intro e
      obtain ⟨cur', hc'⟩ := IsAr.row_type h1.ar.rb e.symm
      rw [hc] at hc'; rcases ht with rfl | rfl | rfl <;> simp at hc'
  · intro x hx k e e2
    rcases hS.fw k e2 with e3 | e3
    · exact h.dis x hx k e e3
    · have := ((h.rf.wrds x hx).1.lt k e).2; omega

/-- Behind a step of the document's the heap is as it was. -/
theorem afterR {vw vb vo vo' : Value} {lim' used used' : Nat} {M : List Ob} {R R' : List (Ob × Value)} (hp : Hp n₀ bh b vw vb w lim used M) (rf : IsRf n₀ br vo w lim' used' R) (dis : ∀ x ∈ R, ∀ k, x.2.ownBlock = some k → vw.ownBlock ≠ some k)
    (hS : RStep br vo R w vo' R' w') : Hp n₀ bh b vw vb w' lim used M ∧ (∀ x ∈ R', ∀ k, x.2.ownBlock = some k → vw.ownBlock ≠ some k) := by
  obtain ⟨A, h1, h2, h3, h4⟩ := id hp
  refine ⟨hp.kept (fun k hk => ?_), ?_⟩
  · refine hS.block k (hp.blocks k hk).2.1 (fun hm => ?_)
    obtain ⟨_, hlt, cur, t, hc, ht⟩ := rf.blocks hm
    rcases hk with rfl | rfl | e | e
    · rw [h1.hblk] at hc; rcases ht with rfl | rfl | rfl <;> simp at hc
    · rw [h1.ar.blk] at hc; rcases ht with rfl | rfl | rfl <;> simp at hc
    · obtain ⟨cur', hc'⟩ := IsAr.row_type h1.ar.rw e
      rcases hm with rfl | e2 | ⟨x, hx, e2⟩
      · rw [rf.blk] at hc'; simp at hc'
      · obtain ⟨cur2, hc2⟩ := IsRf.row_type3 rf.row e2; rw [hc'] at hc2; simp at hc2
      · exact dis x hx k e2 e
    · obtain ⟨cur', hc'⟩ := IsAr.row_type h1.ar.rb e
      rw [hc] at hc'; rcases ht with rfl | rfl | rfl <;> simp at hc'
  · intro x hx k e e2
    rcases hS.wrds x hx with ⟨y, hy, e3⟩ | ⟨q, e3, e4⟩
    · exact dis y hy k (e3.trans e) e2
    · rw [e3] at e; cases e
      have := (h1.ar.rw.lt _ e2).2; omega

theorem Bo.below (h : Bo n₀ bh b br lim w s) (hB : Below w.heap.size w w') : Bo n₀ bh b br lim w' s := ⟨h.hp.below hB, h.rf.below hB, h.dis⟩

theorem Bo.size (h : Bo n₀ bh b br lim w s) : s.R.length ≤ s.used ∧ s.used ≤ lim ∧ lim ≤ 1048576 := by
  have h1 := h.hp.srt
  have := Srt.length_le h1.1 h1.2 (Nat.zero_le _)
  have := h.hp.le
  simp at *; omega

/-- Two calls, one after the other, that answer the same. -/
def Two (F G : Nat) (a1 a2 : Array Value) (w : World) (v : Value) (Mid Q : World → Prop) : Prop :=
  Calls Tryz.prog F a1 w fun e w1 => e = .returned v ∧ Mid w1 ∧ Calls Tryz.prog G a2 w1 fun e w2 => e = .returned v ∧ Q w2

/-- The world between the two calls of an op. -/
def Btw (bh b br : Nat) (s : BSt) (w w1 : World) : Prop := w.heap.size ≤ w1.heap.size ∧ ∀ k, k < w.heap.size → ¬ s.foot bh b br k → w1.heap[k]? = w.heap[k]?

theorem Btw.refl (bh b br : Nat) (s : BSt) (w : World) : Btw bh b br s w w := ⟨Nat.le_refl _, fun _ _ _ => rfl⟩

theorem Btw.below (h : Below w.heap.size w w1) : Btw bh b br s w w1 := ⟨h.size, fun k hk _ => h.block k hk⟩

theorem BStep.btw (h : BStep bh b br s w s' w') : Btw bh b br s w w' := ⟨h.size, h.block⟩

/-- What a heap has: how much is in use, its objects. -/
abbrev Has := Nat × List Ob

def BSt.has (s : BSt) : Has := (s.used, s.R.map Prod.fst)

/-- The state behind an op, by what the op does to what a heap has. -/
def Nxt (T : Has → Has) (n₀ bh b br lim : Nat) (s : BSt) (w w' : World) : Prop := ∃ s', Bo n₀ bh b br lim w' s' ∧ BStep bh b br s w s' w' ∧ s'.has = T s.has

theorem Nxt.refl {T : Has → Has} (h : Bo n₀ bh b br lim w s) (hT : s.has = T s.has) : Nxt T n₀ bh b br lim s w w := ⟨s, h, BStep.refl _ _ _ _ _, hT⟩

theorem Nxt.below {T : Has → Has} (h : Bo n₀ bh b br lim w s) (hB : Below w.heap.size w w') (hT : s.has = T s.has) : Nxt T n₀ bh b br lim s w w' := ⟨s, h.below hB, BStep.of_below hB, hT⟩

def allocT (lim k : Nat) (size : Int) (x : Has) : Has :=
  if 3 ≤ k ∧ k ≤ 8 ∧ 0 ≤ size ∧ x.1 + size.toNat + 1 ≤ lim then (x.1 + size.toNat + 1, x.2 ++ [⟨x.1, k, List.replicate size.toNat 0⟩]) else x

def writeT (i j : Int) (v : Nat) (x : Has) : Has :=
  (x.1, x.2.map (fun o => if (o.at_ : Int) = i ∧ 0 ≤ j ∧ j < o.ws.length then { o with ws := o.ws.set j.toNat v } else o))

def cutT (t : Int) (x : Has) : Has :=
  if 0 ≤ t ∧ t ≤ x.1 ∧ x.2.any (inOb t.toNat) = false then (t.toNat, x.2.filter (fun o => decide (o.at_ < t.toNat))) else x

def moveT (i t : Int) (x : Has) : Has :=
  if (∃ o ∈ x.2, (o.at_ : Int) = i) ∧ 0 ≤ t ∧ t ≤ i ∧ x.2.any (inOb t.toNat) = false then
    (x.1, x.2.filterMap (fun o => if (o.at_ : Int) = i then some { o with at_ := t.toNat } else if o.at_ < t.toNat ∨ i < o.at_ then some o else none)) else x

theorem writeT_same {i j : Int} {v : Nat} {x : Has} (h : ∀ o ∈ x.2, ¬ ((o.at_ : Int) = i ∧ 0 ≤ j ∧ j < o.ws.length)) : x = writeT i j v x := by
  unfold writeT
  obtain ⟨u, M⟩ := x
  congr 1
  have : M.map (fun o => if (o.at_ : Int) = i ∧ 0 ≤ j ∧ j < o.ws.length then ({ o with ws := o.ws.set j.toNat v } : Ob) else o) = M.map id := List.map_congr_left (fun o ho => by rw [if_neg (h o ho)]; rfl)
  rw [this]; simp

theorem writeT_at {l r : List Ob} {o : Ob} {lo u j v : Nat} (hs : Srt lo (l ++ o :: r)) (hj : j < o.ws.length) : writeT o.at_ j v (u, l ++ o :: r) = (u, l ++ { o with ws := o.ws.set j v } :: r) := by
  unfold writeT
  congr 1
  have hl : ∀ q ∈ l, q.at_ ≠ o.at_ := fun q hq => by have := Srt.apart hs q hq o (by simp); unfold Ob.end_ at this; omega
  have hr : ∀ q ∈ r, q.at_ ≠ o.at_ := fun q hq => by
    have := Srt.apart (l := l ++ [o]) (r := r) (by simpa using hs) o (by simp) q hq; unfold Ob.end_ at this; omega
  rw [List.map_append, List.map_cons, if_pos ⟨rfl, by omega, by omega⟩]
  congr 1
  · rw [List.map_congr_left (g := id) (fun q hq => by rw [if_neg (fun h => hl q hq (by omega))]; rfl)]; simp
  · congr 1
    rw [List.map_congr_left (g := id) (fun q hq => by rw [if_neg (fun h => hr q hq (by omega))]; rfl)]; simp

theorem moveT_at {l r : List Ob} {o : Ob} {lo u t : Nat} (hs : Srt lo (l ++ o :: r)) (ht : t ≤ o.at_) (hin : (l ++ o :: r).any (inOb t) = false) : moveT o.at_ t (u, l ++ o :: r) = (u, l.filter (fun q => decide (q.at_ < t)) ++ { o with at_ := t } :: r) := by
  unfold moveT
  rw [if_pos ⟨⟨o, by simp, rfl⟩, by omega, by omega, by simpa using hin⟩]
  congr 1
  have hl : ∀ q ∈ l, q.at_ < o.at_ := fun q hq => by have := Srt.apart hs q hq o (by simp); unfold Ob.end_ at this; omega
  have hr : ∀ q ∈ r, o.at_ < q.at_ := fun q hq => by
    have := Srt.apart (l := l ++ [o]) (r := r) (by simpa using hs) o (by simp) q hq; unfold Ob.end_ at this; omega
  rw [List.filterMap_append, List.filterMap_cons_some (b := { o with at_ := t }) (by simp)]
  congr 1
  · clear hs hin ht
    induction l with
    | nil => rfl
    | cons q l ih =>
      have hq := hl q (by simp)
      rw [List.filterMap_cons, List.filter_cons, ih (fun z hz => hl z (by simp [hz]))]
      rw [if_neg (by omega)]
      by_cases h : q.at_ < t
      · rw [if_pos (.inl (by simpa using h)), if_pos (by simpa using h)]
      · rw [if_neg (by simp; omega), if_neg (by simpa using h)]
  · congr 1
    clear hs hin ht hl
    induction r with
    | nil => rfl
    | cons q r ih =>
      have hq := hr q (by simp)
      rw [List.filterMap_cons_some (b := q) (by rw [if_neg (by omega), if_pos (.inr (by omega))]), ih (fun z hz => hr z (by simp [hz]))]

/-- Where an object is sought. -/
theorem find_cases (R : List (Ob × Value)) (hs : Srt 0 (R.map Prod.fst)) (i : Int) : (∀ x ∈ R, (x.1.at_ : Int) ≠ i) ∨ ∃ l x r, R = l ++ x :: r ∧ (x.1.at_ : Int) = i ∧ (∀ y ∈ l, (y.1.at_ : Int) ≠ x.1.at_) := by
  by_cases h : ∀ x ∈ R, (x.1.at_ : Int) ≠ i
  · exact .inl h
  · right
    simp only [Classical.not_forall] at h
    obtain ⟨x, hx, e⟩ := h
    obtain ⟨l, r, rfl⟩ := List.append_of_mem hx
    refine ⟨l, x, r, rfl, by simpa using e, ?_⟩
    intro y hy e2
    have := Srt.apart (l := l.map Prod.fst) (r := (x :: r).map Prod.fst) (by simpa using hs) y.1 (List.mem_map.2 ⟨y, hy, rfl⟩) x.1 (by simp)
    unfold Ob.end_ at this; omega

theorem within_eq (t : Nat) (R : List (Ob × Value)) : R.any (withinR t) = (R.map Prod.fst).any (inOb t) := by
  rw [List.any_map]
  congr 1
  funext x
  simp only [withinR, inOb, Ob.end_, Function.comp]
  congr 1
  simp
  omega

theorem op_alloc (h : Bo n₀ bh b br lim w s) (k : Nat) (size : Int) (hk : k < 256) : ∃ a e : Int,
    Two 107 108 #[.pointer (some ⟨bh, 0, none⟩), .int .u8 k, .int .i64 size] #[.pointer (some ⟨br, 0, none⟩), .int .u8 k, .int .i64 size] w (.tuple #[.int .i64 a, .int .i64 e]) (Btw bh b br s w) (Nxt (allocT lim k size) n₀ bh b br lim s w) := by
  have hsz := h.size
  by_cases hb : k < 3 ∨ 8 < k ∨ size < 0
  · refine ⟨0, 1, (allocM_bad h.hp k size hk hb).mono ?_⟩
    rintro e w' ⟨he, rfl⟩
    refine ⟨he, Btw.refl _ _ _ _ _, (ralloc_bad h.rf k size hk hb).mono ?_⟩
    rintro e w' ⟨he, rfl⟩
    exact ⟨he, Nxt.refl h (by unfold allocT; rw [if_neg (by omega)])⟩
  · obtain ⟨z, rfl⟩ : ∃ z : Nat, size = z := ⟨size.toNat, by omega⟩
    by_cases hf : s.used + z + 1 ≤ lim
    · refine ⟨s.used, 0, (allocM h.hp k z (by omega) (by omega) hf).mono ?_⟩
      rintro e w1 ⟨he, vw', vb', hp, hS⟩
      obtain ⟨r1, d1⟩ := h.afterH hS
      refine ⟨he, (BStep.ofH (u := s.used) hS).btw, (ralloc_ok r1 (by omega) k z (by omega) (by omega) hf).mono ?_⟩
      rintro e w2 ⟨he, vo', x, r2, hR⟩
      refine ⟨he, ⟨vw', vb', vo', s.used + z + 1, s.R ++ [(⟨s.used, k, List.replicate z 0⟩, x)]⟩, ⟨?_, r2, ?_⟩, ?_⟩
      · have := (afterR hp r1 d1 hR).1
        simpa using this
      · exact (afterR hp r1 d1 hR).2
      · refine ⟨(BStep.ofH (u := s.used) hS).trans (BStep.ofR (s := { s with vw := vw', vb := vb' }) hR), ?_⟩
        unfold allocT BSt.has
        rw [if_pos (by simp; omega)]
        simp
    · refine ⟨0, 7, (allocM_full h.hp k z (by omega) (by omega) (by omega) (by omega)).mono ?_⟩
      rintro e w1 ⟨he, q, rfl⟩
      have hB : Below w.heap.size w (w.drewN q) := below_drewN' (Below.refl _ _) q
      refine ⟨he, Btw.below hB, (ralloc_full (h.rf.drewN q) k z (by omega) (by omega) (by omega) (by omega)).mono ?_⟩
      rintro e w2 ⟨he, q2, rfl⟩
      exact ⟨he, Nxt.below h (below_drewN' hB q2) (by unfold allocT BSt.has; rw [if_neg (by simp; omega)])⟩

theorem map_split {R : List (Ob × Value)} {l r : List (Ob × Value)} {x : Ob × Value} (e : R = l ++ x :: r) : R.map Prod.fst = l.map Prod.fst ++ x.1 :: r.map Prod.fst := by rw [e]; simp

theorem op_write (h : Bo n₀ bh b br lim w s) (i j : Int) (v : Nat) (hv : v < 18446744073709551616) : ∃ e : Int,
    Two 109 110 #[.pointer (some ⟨bh, 0, none⟩), .int .i64 i, .int .i64 j, .int .u64 v] #[.pointer (some ⟨br, 0, none⟩), .int .i64 i, .int .i64 j, .int .u64 v] w (.int .i64 e) (Btw bh b br s w) (Nxt (writeT i j v) n₀ bh b br lim s w) := by
  rcases find_cases s.R h.hp.srt.1 i with hn | ⟨l, x, r, hR, rfl, hl⟩
  · refine ⟨1, (writeM_none h.hp i j v (by intro o ho; obtain ⟨x, hx, rfl⟩ := List.mem_map.1 ho; exact hn x hx)).mono ?_⟩
    rintro e w' ⟨he, rfl⟩
    refine ⟨he, Btw.refl _ _ _ _ _, (rwrite_none h.rf i j v (findR_none hn)).mono ?_⟩
    rintro e w' ⟨he, rfl⟩
    exact ⟨he, Nxt.refl h (writeT_same (fun o ho hh => by obtain ⟨x, hx, rfl⟩ := List.mem_map.1 ho; exact hn x hx hh.1))⟩
  · have hp := h.hp
    rw [map_split hR] at hp
    have rf := h.rf
    rw [hR] at rf
    by_cases hj : j < 0 ∨ (x.1.ws.length : Int) ≤ j
    · refine ⟨1, (writeM_out hp j v hj).mono ?_⟩
      rintro e w' ⟨he, rfl⟩
      refine ⟨he, Btw.refl _ _ _ _ _, (rwrite_out rf hl j v hj).mono ?_⟩
      rintro e w' ⟨he, rfl⟩
      refine ⟨he, Nxt.refl h (writeT_same (fun o ho hh => ?_))⟩
      have hs := h.hp.srt.1
      rw [map_split hR] at hs
      have ho' : o ∈ l.map Prod.fst ++ x.1 :: r.map Prod.fst := by rw [← map_split hR]; exact ho
      have : o = x.1 := by
        rcases List.mem_append.1 ho' with hm | hm
        · have := Srt.apart hs o hm x.1 (by simp); unfold Ob.end_ at this; omega
        · rcases List.mem_cons.1 hm with hm | hm
          · exact hm
          · have := Srt.apart (l := l.map Prod.fst ++ [x.1]) (r := r.map Prod.fst) (by simpa using hs) x.1 (by simp) o hm; unfold Ob.end_ at this; omega
      subst this
      omega
    · obtain ⟨q, rfl⟩ : ∃ q : Nat, j = q := ⟨j.toNat, by omega⟩
      refine ⟨0, (writeM hp q v (by omega) hv).mono ?_⟩
      rintro e w1 ⟨he, hp1, hS⟩
      obtain ⟨r1, d1⟩ := h.afterH hS
      rw [hR] at r1 d1
      refine ⟨he, (BStep.ofH (u := s.used) hS).btw, (rwrite_at r1 hl q v (by omega)).mono ?_⟩
      rintro e w2 ⟨he, r2, hRS⟩
      obtain ⟨hp2, d2⟩ := afterR hp1 r1 d1 hRS
      refine ⟨he, ⟨s.vw, s.vb, s.vo, s.used, _⟩, ⟨?_, r2, d2⟩, ?_⟩
      · simpa using hp2
      · refine ⟨(BStep.ofH (u := s.used) hS).trans (BStep.ofR (s := s) (by rw [hR]; exact hRS)), ?_⟩
        have hs := h.hp.srt.1
        rw [map_split hR] at hs
        have := writeT_at (u := s.used) (v := v) hs (show q < x.1.ws.length by omega)
        unfold BSt.has
        rw [map_split hR, this]
        simp

theorem op_cut (h : Bo n₀ bh b br lim w s) (t : Int) : ∃ e : Int,
    Two 99 113 #[.pointer (some ⟨bh, 0, none⟩), .int .i64 t] #[.pointer (some ⟨br, 0, none⟩), .int .i64 t] w (.int .i64 e) (Btw bh b br s w) (Nxt (cutT t) n₀ bh b br lim s w) := by
  by_cases ht : t < 0 ∨ (s.used : Int) < t
  · refine ⟨1, (cutM_out h.hp t ht).mono ?_⟩
    rintro e w' ⟨he, rfl⟩
    refine ⟨he, Btw.refl _ _ _ _ _, (rcut_bad h.rf t ht).mono ?_⟩
    rintro e w' ⟨he, hB⟩
    exact ⟨he, Nxt.below h hB (by unfold cutT BSt.has; rw [if_neg (by simp only; omega)])⟩
  · obtain ⟨q, rfl⟩ : ∃ q : Nat, t = q := ⟨t.toNat, by omega⟩
    have hw := within_eq q s.R
    cases hin : (s.R.map Prod.fst).any (inOb q) with
    | true =>
      refine ⟨1, (cutM_in h.hp q (by omega) hin).mono ?_⟩
      rintro e w1 ⟨he, hB⟩
      refine ⟨he, Btw.below hB, (rcut_in (h.rf.below hB) q (by omega) (hw.trans hin)).mono ?_⟩
      rintro e w2 ⟨he, hB2⟩
      exact ⟨he, Nxt.below h (hB.trans (hB2.mono hB.size)) (by unfold cutT BSt.has; rw [if_neg (by simp only [Int.toNat_natCast, hin]; simp)])⟩
    | false =>
      refine ⟨0, (cutM_ct h.hp q (by omega) hin).mono ?_⟩
      rintro e w1 ⟨he, vw', vb', hp, hS⟩
      obtain ⟨r1, d1⟩ := h.afterH hS
      refine ⟨he, (BStep.ofH (u := s.used) hS).btw, (rcut_ok r1 q (by omega) (hw.trans hin)).mono ?_⟩
      rintro e w2 ⟨he, vo', r2, hRS⟩
      obtain ⟨hp2, d2⟩ := afterR hp r1 d1 hRS
      refine ⟨he, ⟨vw', vb', vo', q, s.R.filter (ahR q)⟩, ⟨?_, r2, d2⟩, ?_⟩
      · rw [List.filter_map] at hp2
        exact hp2
      · refine ⟨(BStep.ofH (u := s.used) hS).trans (BStep.ofR (s := { s with vw := vw', vb := vb' }) hRS), ?_⟩
        unfold cutT BSt.has
        rw [if_pos (by simp only [Int.toNat_natCast, hin]; simp; omega)]
        simp only [Int.toNat_natCast]
        rw [List.filter_map]
        rfl

theorem mvR_map {l r : List (Ob × Value)} {x : Ob × Value} {t : Nat} (hs : Srt 0 ((l ++ x :: r).map Prod.fst)) :
    (mvR t x.1.at_ l.length 0 (l ++ x :: r)).map Prod.fst = (l.map Prod.fst).filter (fun q => decide (q.at_ < t)) ++ { x.1 with at_ := t } :: r.map Prod.fst := by
  rw [mvR_append]
  have h1 : ∀ (l' : List (Ob × Value)) (j : Nat), j + l'.length ≤ l.length → (∀ y ∈ l', y.1.at_ < x.1.at_) → mvR t x.1.at_ l.length j l' = l'.filter (fun y => decide (y.1.at_ < t)) := by
    intro l'
    induction l' with
    | nil => intro j _ _; rfl
    | cons y l' ih =>
      intro j hj hy
      simp at hj
      rw [mvR, ih (j + 1) (by omega) (fun z hz => hy z (by simp [hz])), mvOne, if_neg (by omega)]
      have := hy y (by simp)
      by_cases hyt : y.1.at_ < t
      · rw [if_pos (.inl hyt)]; simp [hyt]
      · rw [if_neg (by omega)]; simp [hyt]
  have h2 : ∀ (r' : List (Ob × Value)) (j : Nat), l.length < j → (∀ y ∈ r', x.1.at_ < y.1.at_) → mvR t x.1.at_ l.length j r' = r' := by
    intro r'
    induction r' with
    | nil => intro j _ _; rfl
    | cons y r' ih =>
      intro j hj hy
      rw [mvR, ih (j + 1) (by omega) (fun z hz => hy z (by simp [hz])), mvOne, if_neg (by omega), if_pos (.inr (hy y (by simp)))]
      rfl
  have hl : ∀ y ∈ l, y.1.at_ < x.1.at_ := by
    intro y hy
    have := Srt.apart (l := l.map Prod.fst) (r := (x :: r).map Prod.fst) (by simpa using hs) y.1 (List.mem_map.2 ⟨y, hy, rfl⟩) x.1 (by simp)
    unfold Ob.end_ at this; omega
  have hr : ∀ y ∈ r, x.1.at_ < y.1.at_ := by
    intro y hy
    have := Srt.apart (l := (l ++ [x]).map Prod.fst) (r := r.map Prod.fst) (by simpa using hs) x.1 (by simp) y.1 (List.mem_map.2 ⟨y, hy, rfl⟩)
    unfold Ob.end_ at this; omega
  rw [h1 l 0 (by omega) hl, Nat.zero_add, mvR, h2 r _ (by omega) hr, mvOne, if_pos rfl]
  simp [List.filter_map, Function.comp_def]

theorem op_move (h : Bo n₀ bh b br lim w s) (i t : Int) : ∃ e : Int,
    Two 111 112 #[.pointer (some ⟨bh, 0, none⟩), .int .i64 i, .int .i64 t] #[.pointer (some ⟨br, 0, none⟩), .int .i64 i, .int .i64 t] w (.int .i64 e) (Btw bh b br s w) (Nxt (moveT i t) n₀ bh b br lim s w) := by
  rcases find_cases s.R h.hp.srt.1 i with hn | ⟨l, x, r, hR, rfl, hl⟩
  · refine ⟨1, (moveM_none h.hp i t (by intro o ho; obtain ⟨x, hx, rfl⟩ := List.mem_map.1 ho; exact hn x hx)).mono ?_⟩
    rintro e w' ⟨he, rfl⟩
    refine ⟨he, Btw.refl _ _ _ _ _, (rmove_none h.rf i t (findR_none hn)).mono ?_⟩
    rintro e w' ⟨he, hB⟩
    refine ⟨he, Nxt.below h hB ?_⟩
    unfold moveT
    rw [if_neg]
    rintro ⟨⟨o, ho, e⟩, _⟩
    obtain ⟨x, hx, rfl⟩ := List.mem_map.1 ho
    exact hn x hx e
  · have hp := h.hp
    rw [map_split hR] at hp
    have hf : findR x.1.at_ s.R = l.length := by rw [hR]; exact findR_at hl rfl
    by_cases ht : t < 0 ∨ (x.1.at_ : Int) < t
    · refine ⟨1, (moveM_out hp t ht).mono ?_⟩
      rintro e w' ⟨he, rfl⟩
      refine ⟨he, Btw.refl _ _ _ _ _, (rmove_out h.rf _ t l.length hf ht).mono ?_⟩
      rintro e w' ⟨he, hB⟩
      exact ⟨he, Nxt.below h hB (by unfold moveT; rw [if_neg (by rintro ⟨_, h1, h2, _⟩; omega)])⟩
    · obtain ⟨q, rfl⟩ : ∃ q : Nat, t = q := ⟨t.toNat, by omega⟩
      have hw := within_eq q s.R
      rw [map_split hR] at hw
      cases hin : (l.map Prod.fst ++ x.1 :: r.map Prod.fst).any (inOb q) with
      | true =>
        refine ⟨1, (moveM_in hp q (by omega) hin).mono ?_⟩
        rintro e w1 ⟨he, hB⟩
        refine ⟨he, Btw.below hB, (rmove_in (h.rf.below hB) _ q l.length hf (by omega) (hw.trans hin)).mono ?_⟩
        rintro e w2 ⟨he, hB2⟩
        refine ⟨he, Nxt.below h (hB.trans (hB2.mono hB.size)) ?_⟩
        unfold moveT BSt.has
        rw [if_neg]
        rintro ⟨_, _, _, h4⟩
        simp only [Int.toNat_natCast] at h4
        rw [map_split hR, hin] at h4
        simp at h4
      | false =>
        refine ⟨0, (moveM_mv hp q (by omega) hin).mono ?_⟩
        rintro e w1 ⟨he, hp1, hS⟩
        obtain ⟨r1, d1⟩ := h.afterH hS
        refine ⟨he, (BStep.ofH (u := s.used) hS).btw, (rmove_ok r1 _ q l.length hf (by omega) (h.rf.bnd x (by rw [hR]; simp)).1 (hw.trans hin)).mono ?_⟩
        rintro e w2 ⟨he, vo', r2, hRS⟩
        obtain ⟨hp2, d2⟩ := afterR hp1 r1 d1 hRS
        refine ⟨he, ⟨s.vw, s.vb, vo', s.used, mvR q x.1.at_ l.length 0 s.R⟩, ⟨?_, r2, d2⟩, ?_⟩
        · have e2 := mvR_map (l := l) (r := r) (x := x) (t := q) (by have := h.hp.srt.1; rw [hR] at this; exact this)
          dsimp only
          rw [hR, e2]
          exact hp2
        · refine ⟨(BStep.ofH (u := s.used) hS).trans (BStep.ofR (s := s) hRS), ?_⟩
          have hs := h.hp.srt.1
          have e2 := mvR_map (l := l) (r := r) (x := x) (t := q) (by have := hs; rw [hR] at this; exact this)
          rw [map_split hR] at hs
          have e3 := moveT_at (u := s.used) hs (show q ≤ x.1.at_ by omega) hin
          unfold BSt.has
          rw [map_split hR, e3]
          dsimp only
          rw [hR, e2]

theorem op_read (h : Bo n₀ bh b br lim w s) (i j : Int) : ∃ a e : Int,
    Two 34 114 #[.pointer (some ⟨bh, 0, none⟩), .int .i64 i, .int .i64 j] #[.pointer (some ⟨br, 0, none⟩), .int .i64 i, .int .i64 j] w (.tuple #[.int .u64 a, .int .i64 e]) (fun w' => w' = w) (fun w' => w' = w) := by
  rcases find_cases s.R h.hp.srt.1 i with hn | ⟨l, x, r, hR, rfl, hl⟩
  · refine ⟨0, 1, (readM_none h.hp i j (by intro o ho; obtain ⟨x, hx, rfl⟩ := List.mem_map.1 ho; exact hn x hx)).mono ?_⟩
    rintro e w' ⟨he, rfl⟩
    exact ⟨he, rfl, rread_none h.rf i j (findR_none hn)⟩
  · have hp := h.hp
    rw [map_split hR] at hp
    have rf := h.rf
    rw [hR] at rf
    by_cases hj : j < 0 ∨ (x.1.ws.length : Int) ≤ j
    · refine ⟨0, 1, (readM_out hp j hj).mono ?_⟩
      rintro e w' ⟨he, rfl⟩
      exact ⟨he, rfl, rread_out rf hl j hj⟩
    · obtain ⟨q, rfl⟩ : ∃ q : Nat, j = q := ⟨j.toNat, by omega⟩
      obtain ⟨y, hy⟩ : ∃ y, x.1.ws[q]? = some y := ⟨x.1.ws[q]'(by omega), by simp⟩
      refine ⟨y, 0, (readM hp q y hy).mono ?_⟩
      rintro e w' ⟨he, rfl⟩
      exact ⟨he, rfl, rread_at rf hl q y hy⟩

theorem op_kind (h : Bo n₀ bh b br lim w s) (i : Int) : ∃ a e : Int,
    Two 32 115 #[.pointer (some ⟨bh, 0, none⟩), .int .i64 i] #[.pointer (some ⟨br, 0, none⟩), .int .i64 i] w (.tuple #[.int .u8 a, .int .i64 e]) (fun w' => w' = w) (fun w' => w' = w) := by
  rcases find_cases s.R h.hp.srt.1 i with hn | ⟨l, x, r, hR, rfl, hl⟩
  · refine ⟨0, 1, (kindM_none h.hp i (by intro o ho; obtain ⟨x, hx, rfl⟩ := List.mem_map.1 ho; exact hn x hx)).mono ?_⟩
    rintro e w' ⟨he, rfl⟩
    exact ⟨he, rfl, rkind_none h.rf i (findR_none hn)⟩
  · have hp := h.hp
    rw [map_split hR] at hp
    have rf := h.rf
    rw [hR] at rf
    refine ⟨x.1.kind, 0, (kindM hp).mono ?_⟩
    rintro e w' ⟨he, rfl⟩
    exact ⟨he, rfl, rkind_at rf hl⟩

theorem op_size (h : Bo n₀ bh b br lim w s) (i : Int) : ∃ a e : Int,
    Two 33 116 #[.pointer (some ⟨bh, 0, none⟩), .int .i64 i] #[.pointer (some ⟨br, 0, none⟩), .int .i64 i] w (.tuple #[.int .i64 a, .int .i64 e]) (fun w' => w' = w) (fun w' => w' = w) := by
  rcases find_cases s.R h.hp.srt.1 i with hn | ⟨l, x, r, hR, rfl, hl⟩
  · refine ⟨0, 1, (sizeM_none h.hp i (by intro o ho; obtain ⟨x, hx, rfl⟩ := List.mem_map.1 ho; exact hn x hx)).mono ?_⟩
    rintro e w' ⟨he, rfl⟩
    exact ⟨he, rfl, rsize_none h.rf i (findR_none hn)⟩
  · have hp := h.hp
    rw [map_split hR] at hp
    have rf := h.rf
    rw [hR] at rf
    refine ⟨x.1.ws.length, 0, (sizeM hp).mono ?_⟩
    rintro e w' ⟨he, rfl⟩
    exact ⟨he, rfl, rsize_at rf hl⟩

end Go.Proofs.YtampilfebmfhaaaGreatDoor
