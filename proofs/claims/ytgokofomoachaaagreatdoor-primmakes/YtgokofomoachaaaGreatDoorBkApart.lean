/- The book of stores: a store more. -/
import Derived.Test.YtgokofomoachaaaGreatDoorBvLook
import Derived.Test.YtgokofomoachaaaGreatDoorBoLook
import Derived.Test.YtgokofomoachaaaGreatDoorBkIdle
namespace Go.Proofs.YtgokofomoachaaaGreatDoor
set_option linter.unusedVariables false
set_option linter.unusedSimpArgs false
open Go.RowKit

namespace Bk

variable {n₀ bk N : Nat} {vp op : Value} {w : World} {H O : List He}

/-- The whole book. -/
structure Bok (n₀ bk N : Nat) (vp op : Value) (w : World) (H O : List He) : Prop where
  v : Bv.IsBk N op n₀ bk vp w H
  o : Bo.IsBk N vp n₀ bk op w O

/-- A block of values (or of objects), or of what the book holds of them. -/
def isV (w : World) (k : Nat) : Prop := ∃ cur t, w.heap[k]? = some (.cells cur t (0, 0)) ∧ (t = 27 ∨ t = 171)

def isO (w : World) (k : Nat) : Prop := ∃ cur t, w.heap[k]? = some (.cells cur t (0, 0)) ∧ (t = 96 ∨ t = 187)

section
variable {S : Nat → Prop} {w' : World}

theorem stepV_o (hK : KStep S w w') (hS : ∀ k, S k → isV w k) (h : Bo.IsBk N vp n₀ bk op w O) : Bo.IsBk N vp n₀ bk op w' O := by
  refine h.kept (fun k hk => ?_)
  obtain ⟨_, hlt, cur, t, h1, h2⟩ := h.blocks hk
  refine hK.block k hlt (fun e => ?_)
  obtain ⟨cur', t', h3, h4⟩ := hS k e
  rw [h1] at h3
  rcases h2 with rfl | rfl <;> rcases h4 with rfl | rfl <;> simp at h3

theorem stepO_v (hK : KStep S w w') (hS : ∀ k, S k → isO w k) (h : Bv.IsBk N op n₀ bk vp w H) : Bv.IsBk N op n₀ bk vp w' H := by
  refine h.kept (fun k hk => ?_)
  obtain ⟨_, hlt, cur, t, h1, h2⟩ := h.blocks hk
  refine hK.block k hlt (fun e => ?_)
  obtain ⟨cur', t', h3, h4⟩ := hS k e
  rw [h1] at h3
  rcases h2 with rfl | rfl <;> rcases h4 with rfl | rfl <;> simp at h3

theorem no_vo {cur : Array Value} {k : Nat} (hS : isV w k) (h : w.heap[k]? = some (.cells cur 96 (0, 0))) : False := by
  obtain ⟨cur', t', h3, h4⟩ := hS
  rw [h] at h3
  rcases h4 with rfl | rfl <;> simp at h3

theorem no_ov {cur : Array Value} {k : Nat} (hS : isO w k) (h : w.heap[k]? = some (.cells cur 27 (0, 0))) : False := by
  obtain ⟨cur', t', h3, h4⟩ := hS
  rw [h] at h3
  rcases h4 with rfl | rfl <;> simp at h3

theorem stepV_A (hK : KStep S w w') (hS : ∀ k, S k → isV w k) (h : ∀ x ∈ O, Bo.HA n₀ w x) : ∀ x ∈ O, Bo.HA n₀ w' x := fun x hx => (h x hx).kept (fun k hk => by
  obtain ⟨_, hlt, _, cur, hc⟩ := (h x hx).blocks hk
  exact hK.block k hlt (fun e => no_vo (hS k e) hc))

theorem stepV_B (hK : KStep S w w') (hS : ∀ k, S k → isV w k) (h : ∀ x ∈ O, Bo.HB n₀ w x) : ∀ x ∈ O, Bo.HB n₀ w' x := fun x hx => (h x hx).kept (fun k hk => by
  obtain ⟨_, hlt, _, cur, hc⟩ := (h x hx).ha.blocks hk
  exact hK.block k hlt (fun e => no_vo (hS k e) hc))

theorem stepO_B (hK : KStep S w w') (hS : ∀ k, S k → isO w k) (h : ∀ x ∈ H, Bv.HB n₀ w x) : ∀ x ∈ H, Bv.HB n₀ w' x := fun x hx => (h x hx).kept (fun k hk => by
  obtain ⟨_, hlt, _, cur, hc⟩ := (h x hx).ha.blocks hk
  exact hK.block k hlt (fun e => no_ov (hS k e) hc))

theorem stepO_C (hK : KStep S w w') (hS : ∀ k, S k → isO w k) (h : ∀ x ∈ H, Bv.HC n₀ w x) : ∀ x ∈ H, Bv.HC n₀ w' x := fun x hx => (h x hx).kept (fun k hk => by
  obtain ⟨_, hlt, cur, hc⟩ := (h x hx).blocks hk
  exact hK.block k hlt (fun e => no_ov (hS k e) hc))
end

theorem Bok.vals (h : Bok n₀ bk N vp op w H O) (hH : H.length < 400000) (hM : N < 400000) (p : Option Addr) (n c : Nat) (hn : n ≤ 1048576) : Calls Tryz.prog 36 #[.pointer (some ⟨bk, 0, none⟩), .slice p n c] w fun e w' => e = .returned (.tuple #[]) ∧
    ∃ vp', Bok n₀ bk (N + 1) vp' op w' (H ++ [⟨.slice p n c, .slice none 0 0, N + 1, n⟩]) O ∧ KStep (Bv.IsBk.own bk vp) w w' ∧ (∀ k, vp'.ownBlock = some k → vp.ownBlock = some k ∨ w.heap.size ≤ k) := by
  have a := Bv.keep_val h.v hH hM p n c hn
  have HO : Hid (Bok n₀ bk N vp op w H O) := h
  clear h
  go_enter Tryz.func36, Tryz.ntmps36
  go_wp2_with (go_at_call 78; refine a.mono ?_; clear a; rintro e w' ⟨rfl, vp', h1, h2, h3⟩)
  go_end0
  refine ⟨rfl, vp', ⟨h1, HO.out.o.base, h1.blk, ?_, HO.out.o.le, HO.out.o.num⟩, h2, h3⟩
  have hr := HO.out.o.row
  refine row_kept hr (fun k hk => ?_)
  obtain ⟨cur, hc⟩ := row_obj hr hk
  refine h2.block k (hr.lt k hk).2 (fun e => ?_)
  obtain ⟨_, _, cur', t, g1, g2⟩ := HO.out.v.blocks e
  rw [hc] at g1
  rcases g2 with rfl | rfl <;> simp at g1

set_option maxRecDepth 20000 in
set_option maxHeartbeats 1000000 in
theorem Bok.obj (h : Bok n₀ bk N vp op w H O) (hH : H.length < 400000) (hM : N < 400000) (p : Option Addr) (n c : Nat) (hn : n ≤ 1048576) (k : Nat) (s : ByteArray) (r f : Int) : Calls Tryz.prog 188 #[.pointer (some ⟨bk, 0, none⟩), .agg #[.int .u8 k, .string s, .slice p n c, .int .i64 r, .int .i64 f]] w fun e w' => e = .returned (.tuple #[]) ∧
    ∃ vp', Bok n₀ bk (N + 1) vp' op w' (H ++ [⟨.slice p n c, .slice none 0 0, N + 1, n⟩]) O ∧ KStep (Bv.IsBk.own bk vp) w w' ∧ (∀ k, vp'.ownBlock = some k → vp.ownBlock = some k ∨ w.heap.size ≤ k) := by
  have hA := below1 w (.cells #[.int .u8 k, .string s, .slice p n c, .int .i64 r, .int .i64 f] 96)
  have hz := heap_alloc_new w (.cells #[.int .u8 k, .string s, .slice p n c, .int .i64 r, .int .i64 f] 96)
  have h' : Bok n₀ bk N vp op (w.alloc (.cells #[.int .u8 k, .string s, .slice p n c, .int .i64 r, .int .i64 f] 96)) H O := ⟨h.v.kept (fun k hk => hA.block k (h.v.blocks hk).2.1), h.o.kept (fun k hk => hA.block k (h.o.blocks hk).2.1)⟩
  have a := h'.vals hH hM p n c hn
  clear h h'
  have c2 := (cell_row5 hz).1.2.2.1
  clear hz
  go_enter Tryz.func188, Tryz.ntmps188
  go_wp2_with (go_at_call 36; refine a.mono ?_; clear a; rintro e w' ⟨rfl, vp', h1, h2, h3⟩)
  go_end0
  exact ⟨rfl, vp', h1, (KStep.of_below hA).trans h2, fun k e => (h3 k e).imp (fun x => x) (fun x => by have := hA.size; omega)⟩

/-- What is held of a store's objects. -/
def heV (N : Nat) : List Po → List He
  | [] => []
  | x :: r => ⟨x.lv, .slice none 0 0, N + 1, x.o.l.length⟩ :: heV (N + 1) r

theorem heV_len : ∀ (l : List Po) (N : Nat), (heV N l).length = l.length
  | [], _ => rfl
  | x :: r, N => by simp [heV, heV_len r]

theorem heV_snoc : ∀ (l : List Po) (N : Nat) (x : Po), heV N (l ++ [x]) = heV N l ++ [⟨x.lv, .slice none 0 0, N + l.length + 1, x.o.l.length⟩]
  | [], N, x => by simp [heV]
  | y :: r, N, x => by simp [heV, heV_snoc r]; omega

theorem heV_mem : ∀ (l : List Po) (N : Nat) (y : He), y ∈ heV N l → ∃ x ∈ l, y.l = x.lv ∧ y.long = .slice none 0 0 ∧ y.len = x.o.l.length
  | [], _, y, h => by simp [heV] at h
  | x :: r, N, y, h => by
    simp [heV] at h
    rcases h with rfl | h
    · exact ⟨x, by simp, rfl, rfl, rfl⟩
    · obtain ⟨z, hz, q⟩ := heV_mem r (N + 1) y h
      exact ⟨z, by simp [hz], q⟩

theorem heV_apt : ∀ (l : List Po) (N : Nat), (∀ (i j : Nat) (x y : Po) (k : Nat), l[i]? = some x → l[j]? = some y → x.lv.ownBlock = some k → y.lv.ownBlock = some k → i = j) → Apt (heV N l)
  | [], _, _ => by simp [heV, Apt]
  | x :: r, N, h => by
    refine List.pairwise_cons.2 ⟨?_, heV_apt r (N + 1) (fun i j a b k ha hb e1 e2 => by have := h (i + 1) (j + 1) a b k (by simpa using ha) (by simpa using hb) e1 e2; omega)⟩
    intro y hy k hk hk2
    obtain ⟨z, hz, q1, q2, -⟩ := heV_mem r (N + 1) y hy
    obtain ⟨j, hj⟩ := List.getElem?_of_mem hz
    have e1 : x.lv.ownBlock = some k := by rcases hk with e | e; exact e; simp [Value.ownBlock] at e
    have e2 : z.lv.ownBlock = some k := by
      rcases hk2 with e | e
      · rw [← q1]; exact e
      · rw [q2] at e; simp [Value.ownBlock] at e
    have := h 0 (j + 1) x z k (by simp) (by simpa using hj) e1 e2
    omega

end Bk

end Go.Proofs.YtgokofomoachaaaGreatDoor

namespace Go.Proofs.YtgokofomoachaaaGreatDoor
set_option linter.unusedVariables false
set_option linter.unusedSimpArgs false
open Go.RowKit

namespace Bk

variable {n₀ bk N : Nat} {vp op : Value} {w : World} {H O : List He}

/-- The book's own blocks. -/
def own2 (bk : Nat) (vp op : Value) (k : Nat) : Prop := k = bk ∨ vp.ownBlock = some k ∨ op.ownBlock = some k

theorem Bok.blk (h : Bok n₀ bk N vp op w H O) {k : Nat} (hk : own2 bk vp op k) : n₀ ≤ k ∧ k < w.heap.size ∧ ∃ cur t, w.heap[k]? = some (.cells cur t (0, 0)) ∧ t ≠ 27 ∧ t ≠ 96 := by
  rcases hk with e | e | e
  · obtain ⟨h1, h2, cur, t, h3, h4⟩ := h.v.blocks (.inl e)
    exact ⟨h1, h2, cur, t, h3, by rcases h4 with rfl | rfl <;> decide, by rcases h4 with rfl | rfl <;> decide⟩
  · obtain ⟨h1, h2, cur, t, h3, h4⟩ := h.v.blocks (.inr e)
    exact ⟨h1, h2, cur, t, h3, by rcases h4 with rfl | rfl <;> decide, by rcases h4 with rfl | rfl <;> decide⟩
  · obtain ⟨h1, h2, cur, t, h3, h4⟩ := h.o.blocks (.inr e)
    exact ⟨h1, h2, cur, t, h3, by rcases h4 with rfl | rfl <;> decide, by rcases h4 with rfl | rfl <;> decide⟩

/-- A store is none of the book's. -/
theorem Bok.away (h : Bok n₀ bk N vp op w H O) {base : Nat} {v : Value} {ts : List Po} (hs : OwnSt base v ts w) {w' : World} (hK : KStep (own2 bk vp op) w w') : OwnSt base v ts w' := by
  refine ⟨row_kept hs.row (fun k e => ?_), fun x hx => row_kept (hs.lst x hx) (fun k e => ?_), hs.one⟩
  · refine hK.block k (hs.row.lt k e).2 (fun he => ?_)
    obtain ⟨_, _, cur, t, h1, h2, h3⟩ := h.blk he
    obtain ⟨cur', h4⟩ := row_obj hs.row e
    rw [h1] at h4; simp at h4; exact h3 h4.2
  · refine hK.block k ((hs.lst x hx).lt k e).2 (fun he => ?_)
    obtain ⟨_, _, cur, t, h1, h2, h3⟩ := h.blk he
    obtain ⟨cur', h4⟩ := row_obj (hs.lst x hx) e
    rw [h1] at h4; simp at h4; exact h2 h4.2

set_option maxRecDepth 20000 in
set_option maxHeartbeats 2000000 in
theorem Bok.objs (h : Bok n₀ bk N vp op w H O) {base : Nat} {v : Value} {ts : List Po} (hs : OwnSt base v ts w) (hH : H.length + ts.length < 400000) (hN : N + ts.length < 400000) (hO : O.length < 400000) (hl : ∀ x ∈ ts, x.o.l.length ≤ 1048576) :
    Calls Tryz.prog 79 #[.pointer (some ⟨bk, 0, none⟩), v] w fun e w' => e = .returned (.tuple #[]) ∧
    ∃ vp' op', Bok n₀ bk (N + ts.length + 1) vp' op' w' (H ++ heV N ts) (O ++ [⟨v, .slice none 0 0, N + ts.length + 1, ts.length⟩]) ∧ KStep (own2 bk vp op) w w' ∧ (∀ k, vp'.ownBlock = some k → vp.ownBlock = some k ∨ w.heap.size ≤ k) ∧ (∀ k, op'.ownBlock = some k → op.ownBlock = some k ∨ w.heap.size ≤ k) := by
  obtain ⟨n, hn⟩ : ∃ n, ts.length = n := ⟨_, rfl⟩
  obtain ⟨p, c, hv, hc0, hp, -⟩ := own_slice hs.row
  rw [hn] at hv hp hH hN
  subst hv
  have HB : Hid (Bok n₀ bk N vp op w H O) := h
  have HS : Hid (OwnSt base (.slice p n c) ts w) := hs
  have HE : Hid (ts.length = n) := hn
  have hn9 : n < 400000 := by omega
  clear h hs
  go_enter Tryz.func79, Tryz.ntmps79
  go_wp2
  clear hn
  go_loopw [4] (fun k wr => ∃ (l r : List Po) (vp' : Value), ts = l ++ r ∧ k = .int .i64 l.length ∧ Bok n₀ bk (N + l.length) vp' op wr (H ++ heV N l) O ∧ KStep (own2 bk vp op) w wr ∧ (∀ k, vp'.ownBlock = some k → vp.ownBlock = some k ∨ w.heap.size ≤ k)) (fun k _ => n - (intOf k).toNat)
  case atStart => exact ⟨[], ts, vp, rfl, rfl, by simpa [heV] using HB.out, KStep.refl _ _, fun k e => .inl e⟩
  case round =>
    obtain ⟨l, r, vp', hts, rfl, hb, hK, hv'⟩ := hrel
    have hll : l.length + r.length = n := by rw [← HE.out, hts]; simp
    cases r with
    | nil =>
      have hl0 : l.length = n := by simpa using hll
      have htl : ts = l := by simpa using hts
      have H1 := Bo.keep_obj hb.o (by omega) (by omega) p n c (by omega)
      have E1 : Hid (l.length = n ∧ ts = l) := ⟨hl0, htl⟩
      have hq : ¬ ((l.length : Int) < (n : Int)) := by omega
      have Hb : Hid _ := hb
      clear hl0 htl hts hb hll hp
      go_wp2_with (go_at_call 189; refine H1.mono ?_; clear H1; rintro e w' ⟨rfl, op', g1, g2, g3⟩)
      go_end0
      obtain ⟨e1, e2⟩ := E1.out
      subst e2
      have hb := Hb.out
      have hsz := hK.size
      refine ⟨rfl, vp', op', ?_, ?_, ?_, ?_⟩
      · refine ⟨⟨hb.v.base, g1.blk, ?_, hb.v.le, hb.v.num⟩, by rw [e1] at g1; rw [e1]; exact g1⟩
        have hr := hb.v.row
        refine row_kept hr (fun k hk => ?_)
        obtain ⟨cur, hc⟩ := row_obj hr hk
        refine g2.block k (hr.lt k hk).2 (fun e => ?_)
        obtain ⟨_, _, cur', t, q1, q2⟩ := hb.o.blocks e
        rw [hc] at q1
        rcases q2 with rfl | rfl <;> simp at q1
      · refine hK.trans' g2 (fun k e => ?_)
        rcases e with e | e
        · exact .inl (.inl e)
        · exact .inl (.inr (.inr e))
      · exact hv'
      · intro k e
        rcases g3 k e with q | q
        · exact .inl q
        · exact .inr (by omega)
    | cons x r =>
      have hlt : l.length < n := by simp at hll; omega
      obtain ⟨g, rfl⟩ := hp (by omega)
      have hsw := HB.out.away HS.out hK
      have hx : ts[l.length]? = some x := by rw [hts]; simp
      have hxm := List.mem_of_getElem? hx
      obtain ⟨q, cq, hlv, -, -⟩ := own_valsP (hsw.lst x hxm)
      have hgt := pcells_get ts l.length x hx
      have hrow := hsw.row
      rw [HE.out] at hrow
      have d0 : wr.cell? ⟨g, l.length * 5, none⟩ = some (.int .u8 x.o.k) := by rw [hrow.cellAt _ (by omega)]; have := hgt 0 (by omega); simpa [pcell] using this
      have d1 : wr.cell? ⟨g, l.length * 5 + 1, none⟩ = some (.string x.o.s) := by rw [hrow.cellAt _ (by omega), hgt 1 (by omega)]; rfl
      have d2 : wr.cell? ⟨g, l.length * 5 + 2, none⟩ = some (.slice q x.o.l.length cq) := by rw [hrow.cellAt _ (by omega), hgt 2 (by omega)]; simp [pcell, hlv]
      have d3 : wr.cell? ⟨g, l.length * 5 + 3, none⟩ = some (.int .i64 x.o.room) := by rw [hrow.cellAt _ (by omega), hgt 3 (by omega)]; rfl
      have d4 : wr.cell? ⟨g, l.length * 5 + 4, none⟩ = some (.int .i64 x.o.fn) := by rw [hrow.cellAt _ (by omega), hgt 4 (by omega)]; rfl
      have H1 := hb.obj (by simp [heV_len]; omega) (by omega) q x.o.l.length cq (hl x hxm) x.o.k x.o.s x.o.room x.o.fn
      have HX : Hid (ts = l ++ x :: r ∧ x.lv = .slice q x.o.l.length cq) := ⟨hts, hlv⟩
      have hjq : (l.length : Int) < (n : Int) := by omega
      clear hts hlv hsw hx hxm hgt hrow hll hb
      go_wp2_with (go_at_call 188; refine H1.mono ?_; clear H1; rintro e w' ⟨rfl, vp2, g1, g2, g3⟩)
      go_roundw
      case rel =>
        obtain ⟨e1, e2⟩ := HX.out
        have hsz := hK.size
        have e3 : (((l ++ [x]).length : Nat) : Int) = l.length + 1 := by simp
        refine ⟨l ++ [x], r, vp2, by simpa using e1, by rw [e3], ?_, ?_, ?_⟩
        · rw [heV_snoc, e2, ← List.append_assoc]
          simpa [Nat.add_assoc] using g1
        · refine hK.trans' g2 (fun k e => ?_)
          rcases e with e | e
          · exact .inl (.inl e)
          · rcases hv' k e with q | q
            · exact .inl (.inr (.inl q))
            · exact .inr q
        · intro k e
          rcases g3 k e with q | q
          · exact hv' k q
          · exact .inr (by omega)
      case measure => simp [intOf]; omega

theorem Bok.store (h : Bok n₀ bk N vp op w H O) {base : Nat} {v : Value} {ts : List Po} (hs : OwnSt base v ts w) (hH : H.length + ts.length < 400000) (hN : N + ts.length < 400000) (hO : O.length < 400000) (hl : ∀ x ∈ ts, x.o.l.length ≤ 1048576) :
    Calls Tryz.prog 37 #[.pointer (some ⟨bk, 0, none⟩), v] w fun e w' => e = .returned (.tuple #[]) ∧
    ∃ vp' op', Bok n₀ bk (N + ts.length + 1) vp' op' w' (H ++ heV N ts) (O ++ [⟨v, .slice none 0 0, N + ts.length + 1, ts.length⟩]) ∧ KStep (own2 bk vp op) w w' ∧ (∀ k, vp'.ownBlock = some k → vp.ownBlock = some k ∨ w.heap.size ≤ k) ∧ (∀ k, op'.ownBlock = some k → op.ownBlock = some k ∨ w.heap.size ≤ k) := by
  have a := h.objs hs hH hN hO hl
  clear h hs
  go_enter Tryz.func37, Tryz.ntmps37
  go_wp2_with (go_at_call 79; refine a.mono ?_; clear a; rintro e w' ⟨rfl, hh⟩)
  go_end0
  exact ⟨rfl, hh⟩

end Bk

end Go.Proofs.YtgokofomoachaaaGreatDoor

namespace Go.Proofs.YtgokofomoachaaaGreatDoor
set_option linter.unusedVariables false
set_option linter.unusedSimpArgs false
open Go.RowKit

namespace Bk

variable {n₀ bk N : Nat} {vp op : Value} {w w' : World} {H O : List He}

theorem mineV (h : ∀ x ∈ H, Bv.HA n₀ w x) : ∀ k, mineH H k → isV w k ∧ n₀ ≤ k := by
  rintro k ⟨x, hx, e⟩
  obtain ⟨h1, _, _, cur, hc⟩ := (h x hx).blocks e
  exact ⟨⟨cur, _, hc, .inl rfl⟩, h1⟩

theorem mineO (h : ∀ x ∈ O, Bo.HA n₀ w x) : ∀ k, mineH O k → isO w k ∧ n₀ ≤ k := by
  rintro k ⟨x, hx, e⟩
  obtain ⟨h1, _, _, cur, hc⟩ := (h x hx).blocks e
  exact ⟨⟨cur, _, hc, .inl rfl⟩, h1⟩

theorem mineV2 (hb : Bv.IsBk N op n₀ bk vp w H) (h : ∀ x ∈ H, Bv.HB n₀ w x) : ∀ k, mineH H k ∨ vp.ownBlock = some k → isV w k ∧ n₀ ≤ k := by
  rintro k (e | e)
  · exact mineV (fun x hx => (h x hx).ha) k e
  · obtain ⟨cur, hc⟩ := row_obj hb.row e
    exact ⟨⟨cur, _, hc, .inr rfl⟩, (hb.row.lt k e).1⟩

theorem mineO2 (hb : Bo.IsBk N vp n₀ bk op w O) (h : ∀ x ∈ O, Bo.HB n₀ w x) : ∀ k, mineH O k ∨ op.ownBlock = some k → isO w k ∧ n₀ ≤ k := by
  rintro k (e | e)
  · exact mineO (fun x hx => (h x hx).ha) k e
  · obtain ⟨cur, hc⟩ := row_obj hb.row e
    exact ⟨⟨cur, _, hc, .inr rfl⟩, (hb.row.lt k e).1⟩

/-- A type that no list of a store has, nor the book's rows. -/
def Oth (t : TypeId) : Prop := t ≠ 27 ∧ t ≠ 171 ∧ t ≠ 96 ∧ t ≠ 187

/-- Blocks of other types stay. -/
def KeepT (w w' : World) : Prop := ∀ (k : Nat) (cur : Array Value) (t : TypeId), k < w.heap.size → w.heap[k]? = some (.cells cur t (0, 0)) → Oth t → w'.heap[k]? = w.heap[k]?

theorem KeepT.trans {a b c : World} (h : KeepT a b) (hs : a.heap.size ≤ b.heap.size) (g : KeepT b c) : KeepT a c := fun k cur t hk hc ht => by
  have e := h k cur t hk hc ht
  exact (g k cur t (by omega) (e.trans hc) ht).trans e

theorem KeepT.of_below {a b : World} (h : Below a.heap.size a b) : KeepT a b := fun k _ _ hk _ _ => h.block k hk

theorem KeepT.of_step {S : Nat → Prop} {a b : World} (h : KStep S a b) (hS : ∀ k, S k → isV a k ∨ isO a k) : KeepT a b := fun k cur t hk hc ht => by
  refine h.block k hk (fun hs => ?_)
  rcases hS k hs with ⟨cu, t', h1, h2⟩ | ⟨cu, t', h1, h2⟩
  · rw [h1] at hc; cases hc
    rcases h2 with e | e
    · exact ht.1 e
    · exact ht.2.1 e
  · rw [h1] at hc; cases hc
    rcases h2 with e | e
    · exact ht.2.2.1 e
    · exact ht.2.2.2 e

section
variable {w0 : World}

theorem after_1 (h : Bok n₀ bk N vp op w H O) (hA : ∀ x ∈ H, Bv.HA n₀ w x) (hB : ∀ x ∈ O, Bo.HA n₀ w x) (hT : Bo.TabN n₀ w) (hb : n₀ ≤ w.heap.size) (hK : KStep (mineH H) w w') :
    Below n₀ w w' ∧ w.heap.size ≤ w'.heap.size ∧ Bo.IsBk N vp n₀ bk op w' O ∧ (∀ x ∈ O, Bo.HA n₀ w' x) ∧ Bo.TabN n₀ w' ∧ KeepT w w' := by
  have s := hK.below (fun k e => (mineV hA k e).2) hb
  exact ⟨s, hK.size, stepV_o hK (fun k e => (mineV hA k e).1) h.o, stepV_A hK (fun k e => (mineV hA k e).1) hB, hT.step s, KeepT.of_step hK (fun k e => .inl (mineV hA k e).1)⟩

theorem after2 (hA : ∀ x ∈ O, Bo.HA n₀ w x) (hv : Bv.IsBk N op n₀ bk vp w H) (hB : ∀ x ∈ H, Bv.HB n₀ w x) (hT : Bo.TabN n₀ w) (hb : n₀ ≤ w.heap.size) (hK : KStep (mineH O) w w') :
    Below n₀ w w' ∧ w.heap.size ≤ w'.heap.size ∧ Bv.IsBk N op n₀ bk vp w' H ∧ (∀ x ∈ H, Bv.HB n₀ w' x) ∧ Bo.TabN n₀ w' ∧ KeepT w w' := by
  have s := hK.below (fun k e => (mineO hA k e).2) hb
  exact ⟨s, hK.size, stepO_v hK (fun k e => (mineO hA k e).1) hv, stepO_B hK (fun k e => (mineO hA k e).1) hB, hT.step s, KeepT.of_step hK (fun k e => .inr (mineO hA k e).1)⟩

theorem after3 (hv : Bv.IsBk N op n₀ bk vp w H) (hB : ∀ x ∈ H, Bv.HB n₀ w x) (ho : Bo.IsBk N vp n₀ bk op w O) (hO : ∀ x ∈ O, Bo.HB n₀ w x) (hT : Bo.TabN n₀ w) (hb : n₀ ≤ w.heap.size) (hK : KStep (fun k => mineH H k ∨ vp.ownBlock = some k) w w') :
    Below n₀ w w' ∧ w.heap.size ≤ w'.heap.size ∧ Bo.IsBk N vp n₀ bk op w' O ∧ (∀ x ∈ O, Bo.HB n₀ w' x) ∧ Bo.TabN n₀ w' ∧ KeepT w w' := by
  have s := hK.below (fun k e => (mineV2 hv hB k e).2) hb
  exact ⟨s, hK.size, stepV_o hK (fun k e => (mineV2 hv hB k e).1) ho, stepV_B hK (fun k e => (mineV2 hv hB k e).1) hO, hT.step s, KeepT.of_step hK (fun k e => .inl (mineV2 hv hB k e).1)⟩

theorem after4 (ho : Bo.IsBk N vp n₀ bk op w O) (hO : ∀ x ∈ O, Bo.HB n₀ w x) (hv : Bv.IsBk N op n₀ bk vp w H) (hC : ∀ x ∈ H, Bv.HC n₀ w x) (hT : Bo.TabN n₀ w) (hb : n₀ ≤ w.heap.size) (hK : KStep (fun k => mineH O k ∨ op.ownBlock = some k) w w') :
    Below n₀ w w' ∧ w.heap.size ≤ w'.heap.size ∧ Bv.IsBk N op n₀ bk vp w' H ∧ (∀ x ∈ H, Bv.HC n₀ w' x) ∧ Bo.TabN n₀ w' ∧ KeepT w w' := by
  have s := hK.below (fun k e => (mineO2 ho hO k e).2) hb
  exact ⟨s, hK.size, stepO_v hK (fun k e => (mineO2 ho hO k e).1) hv, stepO_C hK (fun k e => (mineO2 ho hO k e).1) hC, hT.step s, KeepT.of_step hK (fun k e => .inr (mineO2 ho hO k e).1)⟩
end

set_option maxRecDepth 20000 in
set_option maxHeartbeats 4000000 in
theorem apart_all (h : Bok n₀ bk N vp op w H O) (hA : ∀ x ∈ H, Bv.HA n₀ w x) (hB : ∀ x ∈ O, Bo.HA n₀ w x) (hP : Apt H) (hQ : Apt O) (hT : Bo.TabN n₀ w) : Calls Tryz.prog 38 #[.pointer (some ⟨bk, 0, none⟩)] w fun e w' => e = .returned (.bool true) ∧ Below n₀ w w' ∧ KeepT w w' := by
  have hb : n₀ ≤ w.heap.size := Nat.le_trans h.v.base (Nat.le_of_lt h.v.lt)
  have a1 := Bv.fill_val h.v hA hP
  have after1 : ∀ {w'}, KStep (mineH H) w w' → _ := fun {w'} hK => after_1 (w' := w') h hA hB hT hb hK
  have bb := h.v.blk
  clear h hA hB hT
  go_enter Tryz.func38, Tryz.ntmps38
  go_wp2_with ((go_at_call 80; refine (fill1 bb).mono ?_; rintro e W ⟨rfl, rfl⟩))
  go_wp2_with ((go_at_call 81; refine (fill2 bb).mono ?_; rintro e W ⟨rfl, rfl⟩))
  go_wp2_with ((go_at_call 82; refine (fill3 bb).mono ?_; rintro e W ⟨rfl, rfl⟩))
  go_wp2_with ((go_at_call 83; refine a1.mono ?_; clear a1; rintro e w1 ⟨rfl, hv1, hB1, hK1⟩; obtain ⟨s1, b1, ho1, hA1, t1, q1⟩ := after1 hK1; have a2 := Bo.fill_obj ho1 hA1 hQ t1; clear bb; have bb := hv1.blk))
  go_wp2_with ((go_at_call 84; refine a2.mono ?_; clear a2; rintro e w2 ⟨rfl, ho2, hB2, hK2⟩; obtain ⟨s2, b2, hv2, hV2, t2, q2⟩ := after2 hA1 hv1 hB1 t1 (Nat.le_trans hb b1) hK2; have a3 := Bv.grow_val hv2 hV2 hP; clear bb; have bb := ho2.blk))
  go_wp2_with ((go_at_call 85; refine (fill6 bb).mono ?_; rintro e W ⟨rfl, rfl⟩))
  go_wp2_with ((go_at_call 86; refine (fill7 bb).mono ?_; rintro e W ⟨rfl, rfl⟩))
  go_wp2_with ((go_at_call 87; refine (fill8 bb).mono ?_; rintro e W ⟨rfl, rfl⟩))
  go_wp2_with ((go_at_call 88; refine (fill9 bb).mono ?_; rintro e W ⟨rfl, rfl⟩))
  go_wp2_with ((go_at_call 89; refine (fill10 bb).mono ?_; rintro e W ⟨rfl, rfl⟩))
  go_wp2_with ((go_at_call 90; refine (fill11 bb).mono ?_; rintro e W ⟨rfl, rfl⟩))
  go_wp2_with ((go_at_call 91; refine (fill12 bb).mono ?_; rintro e W ⟨rfl, rfl⟩))
  go_wp2_with ((go_at_call 92; refine (fill13 bb).mono ?_; rintro e W ⟨rfl, rfl⟩))
  go_wp2_with ((go_at_call 93; refine (fill14 bb).mono ?_; rintro e W ⟨rfl, rfl⟩))
  go_wp2_with ((go_at_call 94; refine (fill15 bb).mono ?_; rintro e W ⟨rfl, rfl⟩))
  go_wp2_with ((go_at_call 95; refine (fill16 bb).mono ?_; rintro e W ⟨rfl, rfl⟩))
  go_wp2_with ((go_at_call 96; refine (fill17 bb).mono ?_; rintro e W ⟨rfl, rfl⟩))
  go_wp2_with ((go_at_call 97; refine (fill18 bb).mono ?_; rintro e W ⟨rfl, rfl⟩))
  go_wp2_with ((go_at_call 98; refine (fill19 bb).mono ?_; rintro e W ⟨rfl, rfl⟩))
  go_wp2_with ((go_at_call 99; refine (fill20 bb).mono ?_; rintro e W ⟨rfl, rfl⟩))
  go_wp2_with ((go_at_call 100; refine (grow1 bb).mono ?_; rintro e W ⟨rfl, rfl⟩))
  go_wp2_with ((go_at_call 101; refine (grow2 bb).mono ?_; rintro e W ⟨rfl, rfl⟩))
  go_wp2_with ((go_at_call 102; refine (grow3 bb).mono ?_; rintro e W ⟨rfl, rfl⟩))
  go_wp2_with ((go_at_call 103; refine a3.mono ?_; clear a3; rintro e w3 ⟨rfl, H3, hv3, hC3, hK3⟩; obtain ⟨s3, b3, ho3, hO3, t3, q3⟩ := after3 hv2 hV2 ho2 hB2 t2 (Nat.le_trans (Nat.le_trans hb b1) b2) hK3; have a4 := Bo.grow_obj ho3 hO3 hQ t3; clear bb; have bb := hv3.blk))
  go_wp2_with ((go_at_call 104; refine a4.mono ?_; clear a4; rintro e w4 ⟨rfl, O4, ho4, hC4, hK4⟩; obtain ⟨s4, b4, hv4, hV4, t4, q4⟩ := after4 ho3 hO3 hv3 hC3 t3 (Nat.le_trans (Nat.le_trans (Nat.le_trans hb b1) b2) b3) hK4; have a5 := Bv.look_val hv4 hV4; clear bb; have bb := ho4.blk))
  go_wp2_with ((go_at_call 105; refine (grow6 bb).mono ?_; rintro e W ⟨rfl, rfl⟩))
  go_wp2_with ((go_at_call 106; refine (grow7 bb).mono ?_; rintro e W ⟨rfl, rfl⟩))
  go_wp2_with ((go_at_call 107; refine (grow8 bb).mono ?_; rintro e W ⟨rfl, rfl⟩))
  go_wp2_with ((go_at_call 108; refine (grow9 bb).mono ?_; rintro e W ⟨rfl, rfl⟩))
  go_wp2_with ((go_at_call 109; refine (grow10 bb).mono ?_; rintro e W ⟨rfl, rfl⟩))
  go_wp2_with ((go_at_call 110; refine (grow11 bb).mono ?_; rintro e W ⟨rfl, rfl⟩))
  go_wp2_with ((go_at_call 111; refine (grow12 bb).mono ?_; rintro e W ⟨rfl, rfl⟩))
  go_wp2_with ((go_at_call 112; refine (grow13 bb).mono ?_; rintro e W ⟨rfl, rfl⟩))
  go_wp2_with ((go_at_call 113; refine (grow14 bb).mono ?_; rintro e W ⟨rfl, rfl⟩))
  go_wp2_with ((go_at_call 114; refine (grow15 bb).mono ?_; rintro e W ⟨rfl, rfl⟩))
  go_wp2_with ((go_at_call 115; refine (grow16 bb).mono ?_; rintro e W ⟨rfl, rfl⟩))
  go_wp2_with ((go_at_call 116; refine (grow17 bb).mono ?_; rintro e W ⟨rfl, rfl⟩))
  go_wp2_with ((go_at_call 117; refine (grow18 bb).mono ?_; rintro e W ⟨rfl, rfl⟩))
  go_wp2_with ((go_at_call 118; refine (grow19 bb).mono ?_; rintro e W ⟨rfl, rfl⟩))
  go_wp2_with ((go_at_call 119; refine (grow20 bb).mono ?_; rintro e W ⟨rfl, rfl⟩))
  go_wp2_with ((go_at_call 120; refine (look1 bb).mono ?_; rintro e W ⟨rfl, rfl⟩))
  go_wp2_with ((go_at_call 121; refine (look2 bb).mono ?_; rintro e W ⟨rfl, rfl⟩))
  go_wp2_with ((go_at_call 122; refine (look3 bb).mono ?_; rintro e W ⟨rfl, rfl⟩))
  go_wp2_with ((go_at_call 123; refine a5.mono ?_; clear a5; rintro e w5 ⟨rfl, hB5⟩; have a6 := Bo.look_obj (ho4.kept (fun k hk => hB5.block k (ho4.blocks hk).2.1)) (fun x hx => (hC4 x hx).kept (fun k hk => hB5.block k ((hC4 x hx).blocks hk).2.1)) (t4.step (hB5.mono (Nat.le_trans (Nat.le_trans (Nat.le_trans (Nat.le_trans hb b1) b2) b3) b4))); clear bb; have bb := (hB5.block _ ho4.lt).trans ho4.blk))
  go_wp2_with ((go_at_call 124; refine a6.mono ?_; clear a6; rintro e w6 ⟨rfl, hB6⟩; have b6 := hB5.size; clear bb; have bb := ((hB6.block _ (Nat.lt_of_lt_of_le ho4.lt hB5.size)).trans (hB5.block _ ho4.lt)).trans ho4.blk))
  go_wp2_with ((go_at_call 125; refine (look6 bb).mono ?_; rintro e W ⟨rfl, rfl⟩))
  go_wp2_with ((go_at_call 126; refine (look7 bb).mono ?_; rintro e W ⟨rfl, rfl⟩))
  go_wp2_with ((go_at_call 127; refine (look8 bb).mono ?_; rintro e W ⟨rfl, rfl⟩))
  go_wp2_with ((go_at_call 128; refine (look9 bb).mono ?_; rintro e W ⟨rfl, rfl⟩))
  go_wp2_with ((go_at_call 129; refine (look10 bb).mono ?_; rintro e W ⟨rfl, rfl⟩))
  go_wp2_with ((go_at_call 130; refine (look11 bb).mono ?_; rintro e W ⟨rfl, rfl⟩))
  go_wp2_with ((go_at_call 131; refine (look12 bb).mono ?_; rintro e W ⟨rfl, rfl⟩))
  go_wp2_with ((go_at_call 132; refine (look13 bb).mono ?_; rintro e W ⟨rfl, rfl⟩))
  go_wp2_with ((go_at_call 133; refine (look14 bb).mono ?_; rintro e W ⟨rfl, rfl⟩))
  go_wp2_with ((go_at_call 134; refine (look15 bb).mono ?_; rintro e W ⟨rfl, rfl⟩))
  go_wp2_with ((go_at_call 135; refine (look16 bb).mono ?_; rintro e W ⟨rfl, rfl⟩))
  go_wp2_with ((go_at_call 136; refine (look17 bb).mono ?_; rintro e W ⟨rfl, rfl⟩))
  go_wp2_with ((go_at_call 137; refine (look18 bb).mono ?_; rintro e W ⟨rfl, rfl⟩))
  go_wp2_with ((go_at_call 138; refine (look19 bb).mono ?_; rintro e W ⟨rfl, rfl⟩))
  go_wp2_with ((go_at_call 139; refine (look20 bb).mono ?_; rintro e W ⟨rfl, rfl⟩))
  go_ret
  exact ⟨rfl, ((((s1.trans s2).trans s3).trans s4).trans (hB5.mono (by omega))).trans (hB6.mono (by omega)), ((((q1.trans b1 q2).trans (by omega) q3).trans (by omega) q4).trans (by omega) (KeepT.of_below hB5)).trans (by omega) (KeepT.of_below hB6)⟩

end Bk

end Go.Proofs.YtgokofomoachaaaGreatDoor
