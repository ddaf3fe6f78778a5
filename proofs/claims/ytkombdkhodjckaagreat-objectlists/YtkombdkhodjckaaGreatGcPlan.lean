/- gc's plan, place and slide: where objects come to lie. -/
import Derived.Test.YtkombdkhodjckaaGreatStay
import Derived.Test.YtkombdkhodjckaaGreatGcSlide
import Derived.Maps.OwnSet
namespace Go.Proofs.YtkombdkhodjckaaGreat
set_option linter.unusedVariables false
set_option linter.unusedSimpArgs false
open Go.RowKit Go.Maps

variable {n₀ bh b lim used : Nat} {vw vb : Value} {w : World} {M : List Ob}

theorem lawK : Keyed Tryz.prog 2 := int_keyed Tryz.underlying2

theorem zeroK (w : World) : (zeroValue 2).run Tryz.prog w = .ok (.int .i64 0) w := by kernel_rfl

theorem wfK {x : Int} (h : -9223372036854775808 ≤ x ∧ x ≤ 9223372036854775807) : (Lit.int .i64 x).wf = true := by
  exact WalkArith.wf_i64 (by omega)

/-- The map of new places. -/
def IsMv (w : World) (bM n : Nat) (d : Nat → Nat) : Prop :=
  ∃ D : DataW Unit, w.ownsMap Tryz.prog 2 (plainElem Tryz.prog 2) bM n D ∧ ∀ p : Nat, Maps.has D (.int .i64 p) = decide (d p ≠ p) ∧ (d p ≠ p → D.atKey (.int .i64 p) (.lit (.int .i64 0)) = .lit (.int .i64 (d p : Nat)))

theorem IsMv.kept {bM n : Nat} {d : Nat → Nat} (h : IsMv w bM n d) {w' : World} (hk : w'.heap[bM]? = w.heap[bM]?) : IsMv w' bM n d := by
  obtain ⟨D, ⟨es, cl, h1, h2⟩, h3⟩ := h
  exact ⟨D, ⟨es, cl, hk.trans h1, h2⟩, h3⟩

theorem IsMv.lt {bM n : Nat} {d : Nat → Nat} (h : IsMv w bM n d) : bM < w.heap.size := by
  obtain ⟨D, h1, _⟩ := h; exact h1.lt

theorem IsMv.below {bM n : Nat} {d : Nat → Nat} (h : IsMv w bM n d) {w' : World} (hB : Below w.heap.size w w') : IsMv w' bM n d := h.kept (hB.block _ h.lt)

theorem IsMv.isMap {bM n : Nat} {d : Nat → Nat} (h : IsMv w bM n d) : ∃ es cl, w.heap[bM]? = some (.map es cl) := by
  obtain ⟨D, ⟨es, cl, h1, h2⟩, h3⟩ := h; exact ⟨es, cl, h1⟩

/-- The blocks of a heap are no map. -/
theorem IsMv.step {bM n : Nat} {d : Nat → Nat} (h : IsMv w bM n d) (hp : Hp n₀ bh b vw vb w lim used M) {vw' vb' : Value} {w' : World} (hS : Step b vw vb w vw' vb' w') : IsMv w' bM n d := by
  obtain ⟨es, cl, hm⟩ := h.isMap
  have no : ∀ k, (k = bh ∨ k = b ∨ vw.ownBlock = some k ∨ vb.ownBlock = some k) → bM ≠ k := by
    rintro k hk rfl
    obtain ⟨_, _, cur, t, hc, _⟩ := hp.blocks _ hk
    rw [hm] at hc; cases hc
  refine h.kept (hS.block bM h.lt (no b (.inr (.inl rfl))) (fun e => ?_) (fun e => ?_))
  · exact no bM (.inr (.inr (.inl e.symm))) rfl
  · exact no bM (.inr (.inr (.inr e.symm))) rfl

/-- What a walk over the map needs, at a place. -/
theorem IsMv.look {bM n : Nat} {d : Nat → Nat} (h : IsMv w bM n d) (p : Nat) (hp : p ≤ 1048576) (hd : d p ≤ 1048576) :
    ∃ c : Int, (Instr.lookup 75 (.map (some bM)) (.int .i64 p) true).run Tryz.prog w = .ok (.tuple #[.int .i64 c, .bool (decide (d p ≠ p))]) w ∧ (d p ≠ p → c = (d p : Nat)) := by
  obtain ⟨D, h1, h2⟩ := h
  have hkey : keyOf Tryz.prog 2 (.int .i64 (p : Int)) = some (.int .i64 (p : Int)) := keyOf_int_mk Tryz.underlying2 (wfK (by omega))
  obtain ⟨v, ps, hrun, hv⟩ := h1.look_ok lawK Tryz.underlying75 (zeroK w) (plainElem_int Tryz.underlying2 (wfK (by omega))) hkey
  obtain ⟨c, rfl, hc, hwc⟩ := plainElem_int_inv Tryz.underlying2 hv
  refine ⟨c, by rw [hrun, (h2 p).1], fun hne => ?_⟩
  have := (h2 p).2 hne
  rw [show D.atKey (.int .i64 (p : Int)) (.lit (.int .i64 0)) = .lit (.int .i64 c) from congrArg Prod.fst hc] at this
  simpa using this

set_option maxHeartbeats 400000 in
theorem place_in {bM n : Nat} {d : Nat → Nat} (h : IsMv w bM n d) (p : Nat) (hp : p ≤ 1048576) (hd : d p ≤ 1048576) :
    Calls Tryz.prog 79 #[.map (some bM), .int .i64 p] w fun e w' => e = .returned (.int .i64 (d p : Nat)) ∧ w' = w := by
  obtain ⟨c, hrun, hc⟩ := h.look p hp hd
  by_cases hne : d p = p
  · have e0 : decide (d p ≠ p) = false := by simp [hne]
    rw [e0] at hrun
    rw [hne]
    clear hc e0
    go_enter Tryz.func79, Tryz.ntmps79
    go_wp2
    go_ret
    exact ⟨rfl, rfl⟩
  · have e0 : decide (d p ≠ p) = true := by simp [hne]
    rw [e0, hc hne] at hrun
    clear hc e0
    go_enter Tryz.func79, Tryz.ntmps79
    go_wp2
    go_ret
    exact ⟨rfl, rfl⟩

/-- The plan, one object on. -/
theorem plan_other {pre : List Ob} {o : Ob} {lo p : Nat} (hs : Srt lo (pre ++ [o])) (hp : p ≠ o.at_) : dst 0 (pre ++ [o]) p = dst 0 pre p := by
  by_cases h : ∃ q ∈ pre, q.at_ = p
  · exact dst_append_some h
  · have h' : ∀ q ∈ pre, q.at_ ≠ p := fun q hq e => h ⟨q, hq, e⟩
    rw [dst_append_none h', dst_none h']
    simp only [dst]
    rw [if_neg (fun e => hp e.symm)]

theorem plan_here {pre : List Ob} {o : Ob} {lo : Nat} (hs : Srt lo (pre ++ [o])) : dst 0 (pre ++ [o]) o.at_ = sumO pre := by
  have := dst_at (l := pre) (o := o) (r := []) (e := 0) hs
  simpa using this

theorem plan_before {pre : List Ob} {o : Ob} {lo : Nat} (hs : Srt lo (pre ++ [o])) : dst 0 pre o.at_ = o.at_ :=
  dst_none (fun q hq e => by have := Srt.apart hs q hq o (by simp); unfold Ob.end_ at this; omega)

theorem IsMv.same {bM n : Nat} {d d' : Nat → Nat} (h : IsMv w bM n d) (e : ∀ p, d' p = d p) : IsMv w bM n d' := by
  have : d' = d := funext e
  rw [this]; exact h

theorem IsMv.put {bM n : Nat} {d d' : Nat → Nat} {D : DataW Unit} {w1 : World} {q t : Nat} (hm : IsMap D) (h2 : ∀ p : Nat, Maps.has D (.int .i64 p) = decide (d p ≠ p) ∧ (d p ≠ p → D.atKey (.int .i64 p) (.lit (.int .i64 0)) = .lit (.int .i64 (d p : Nat))))
    (h1 : w1.ownsMap Tryz.prog 2 (plainElem Tryz.prog 2) bM n (D.put (.int .i64 q) (.lit (.int .i64 t)))) (hne : t ≠ q) (eq : d' q = t) (eo : ∀ p, p ≠ q → d' p = d p) : IsMv w1 bM n d' := by
  refine ⟨_, h1, fun p => ?_⟩
  by_cases hp : p = q
  · subst hp
    rw [has_put_same hm (by simp [WideAt.IsKeyLit]), eq]
    refine ⟨by simp [hne], fun _ => ?_⟩
    rw [atKey_put_same hm (by simp [WideAt.IsKeyLit])]
  · have hk : (Lit.int .i64 (p : Int)) ≠ Lit.int .i64 (q : Int) := by
      intro e
      injection e with _ e
      exact hp (by omega)
    rw [has_put_other hk, atKey_put_other hk, eo p hp]
    exact h2 p

set_option maxRecDepth 20000 in
set_option maxHeartbeats 1000000 in
theorem plan_in (h : Hp n₀ bh b vw vb w lim used M) {L : List Ob} (hL : ∀ o ∈ L, o ∈ M) (hs : Srt 0 L) (q : Option Addr) (c base : Nat) (hrow : w.ownsRow base 2 1 (.slice q L.length c) L.length (L.map (fun o => pv o.at_))) :
    Calls Tryz.prog 35 #[.pointer (some ⟨bh, 0, none⟩), .slice q L.length c] w fun e w' => e = .returned (.tuple #[.map (some w.heap.size), .int .i64 (sumO L : Nat)]) ∧ IsMv w' w.heap.size L.length (dst 0 L) ∧ Below w.heap.size w w' := by
  have hmm := @run_makeMap Tryz.prog
  have hle := h.le
  have hsum := Srt.sum_used hs (fun o ho => h.srt.2 o (hL o ho)) (Nat.zero_le _)
  have hlen := Srt.length_le hs (fun o ho => h.srt.2 o (hL o ho)) (Nat.zero_le _)
  have hlt := h.lt
  go_enter Tryz.func35, Tryz.ntmps35
  go_wp2
  go_loopw [7, 13] (fun t k wr => ∃ (pre rest : List Ob), L = pre ++ rest ∧ t = .int .i64 (sumO pre : Nat) ∧ k = .int .i64 pre.length ∧ IsMv wr w.heap.size pre.length (dst 0 pre) ∧ Below w.heap.size w wr) (fun _ k _ => L.length - (intOf k).toNat)
  case atStart =>
    refine ⟨[], L, rfl, rfl, rfl, ⟨.map [], World.ownsMap_made _ _ _ _, fun p => ⟨?_, fun h => (h rfl).elim⟩⟩, below1 _ _⟩
    simp [has_eq, dst]
  case round =>
    obtain ⟨pre, rest, hR, rfl, rfl, hmv, hB⟩ := hrel
    cases rest with
    | nil =>
      have hR' : L = pre := by simpa using hR
      have hq : ¬ ((pre.length : Int) < (L.length : Int)) := by rw [hR']; omega
      have HR : Hid _ := And.intro hR' hmv
      clear hR hR' hmv
      go_wp2
      go_ret2
      obtain ⟨q1, q2⟩ := HR.out
      rw [q1]
      exact ⟨rfl, q2, hB⟩
    | cons o rest =>
      have hom : o ∈ L := by rw [hR]; simp
      have hlR : pre.length < L.length := by rw [hR]; simp
      obtain ⟨lq, rq, hM⟩ := List.append_of_mem (hL o hom)
      have hrw := row_kept hrow (fun k hk => hB.block k (hrow.lt k hk).2)
      have H3 := fun w2 (hB2 : Below w.heap.size w w2) => taken_in (o := o) (l := lq) (r := rq) (by have := h.below hB2; rw [hM] at this; exact this)
      obtain ⟨g, rfl⟩ := row_where hrow (by omega)
      have d1 : wr.cell? ⟨g, pre.length, none⟩ = some (.int .i64 o.at_) := row_cell hrw (by rw [hR]; simp [pv]) hlR
      have hwo := h.srt.2 o (hL o hom)
      have hs1 : Srt 0 (pre ++ [o]) := by rw [show L = (pre ++ [o]) ++ rest by rw [hR]; simp, Srt_append] at hs; exact hs.1
      have hsm := hs1.sum_le
      have e1 : (((pre ++ [o]).length : Nat) : Int) = pre.length + 1 := by simp
      have e2 : ((sumO (pre ++ [o]) : Nat) : Int) = sumO pre + (o.ws.length + 1 : Nat) := by rw [sumO_snoc]; simp
      unfold Ob.end_ at hwo
      have HR : Hid _ := hR
      by_cases hne : o.at_ = sumO pre
      · have hnb : ((o.at_ : Int) == (sumO pre : Int)) = true := by simp; omega
        have hmv' : IsMv wr w.heap.size (pre ++ [o]).length (dst 0 (pre ++ [o])) := by
          obtain ⟨D, g1, g2⟩ := hmv.same (d' := dst 0 (pre ++ [o])) (fun p => by
            by_cases hp : p = o.at_
            · rw [hp, plan_here hs1, plan_before hs1, hne]
            · exact plan_other hs1 hp)
          exact ⟨D, g1.mono (by simp), g2⟩
        clear hR hM hs1 hne hmv
        go_wp2_with (first
          | (go_at_call 78; refine (H3 _ hB).mono ?_; clear H3; rintro e w' ⟨rfl, rfl⟩))
        go_roundw
        case rel =>
          refine ⟨pre ++ [o], rest, by have := HR.out; simpa using this, ?_, by rw [e1], hmv', hB⟩
          rw [e2]
          try rfl
        case measure => simp [intOf]; omega
      · have hnb : ((o.at_ : Int) == (sumO pre : Int)) = false := by simp; omega
        obtain ⟨D, g1, g2⟩ := hmv
        have hkey : keyOf Tryz.prog 2 (.int .i64 (o.at_ : Int)) = some (.int .i64 (o.at_ : Int)) := keyOf_int_mk Tryz.underlying2 (wfK (by omega))
        have hms := g1.isMap
        have HN : Hid _ := hne
        clear hR hM hne
        go_wp2_with (first
          | (at_mapUpdate; refine wpList_mapUpdate_own _ rfl _ _ _ 75 rfl 2 2 lawK Tryz.underlying75 _ w.heap.size pre.length _ rfl g1 (by unfold maxLen; omega) _ _ _ rfl rfl hkey _ [] (plainElem_int Tryz.underlying2 (wfK (by omega))) ?_; intro w1 hown1 hgrow1; have hB1 := hB.grown hgrow1 hB.size (fun j hj => by cases hj; exact Nat.le_refl _))
          | (go_at_call 78; refine (H3 _ hB1).mono ?_; clear H3; rintro e w' ⟨rfl, rfl⟩)
          | go_in)
        go_roundw
        case rel =>
          refine ⟨pre ++ [o], rest, by have := HR.out; simpa using this, ?_, by rw [e1], ?_, hB1⟩
          · rw [e2]
            try rfl
          · have := IsMv.put (d := dst 0 pre) (d' := dst 0 (pre ++ [o])) hms g2 hown1 (fun e => HN.out e.symm) (plan_here hs1) (fun p hp => plan_other hs1 hp)
            simpa using this
        case measure => simp [intOf]; omega

end Go.Proofs.YtkombdkhodjckaaGreat
