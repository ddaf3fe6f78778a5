/- All of a list may be held; NewList. -/
import Derived.Test.YtkombdkhodjckaaGreatObNewRow
namespace Go.Proofs.YtkombdkhodjckaaGreat
set_option linter.unusedVariables false
set_option linter.unusedSimpArgs false
open Go.RowKit

variable {n₀ bh b lim used : Nat} {vw vb : Value} {w : World} {M : List Ob}

set_option maxRecDepth 20000 in
set_option maxHeartbeats 1000000 in
theorem may1_in (h : Hp n₀ bh b vw vb w lim used M) (k : Nat) (n : Int) (hm : MayHeld M k n) {Bm : Nat} (g1 : w.heap[Bm]? = some (.cells #[.pointer (some ⟨bh, 0, none⟩)] 54 (0, 0))) :
    Calls Tryz.prog 51 #[.agg #[.int .u8 k, .int .i64 n], .pointer (some ⟨Bm, 0, none⟩)] w fun e w' => e = .returned (.bool false) ∧ Below w.heap.size w w' := by
  have hb := below1 w (.cells #[.int .u8 k, .int .i64 n] 29)
  have c1 := cell_row1 (alloc_keeps g1 (.cells #[.int .u8 k, .int .i64 n] 29))
  have H1 := mayBeHeld_yes (h.below hb) k n hm
  unfold mem at H1
  go_enter Tryz.func51, Tryz.ntmps51
  go_wp2_with (first
    | (go_at_call 26; refine H1.mono ?_; clear H1; rintro e w1 ⟨rfl, hB1⟩))
  go_ret
  exact ⟨rfl, hb.trans (hB1.mono hb.size)⟩

set_option maxRecDepth 20000 in
set_option maxHeartbeats 1000000 in
theorem indexFunc_no (h : Hp n₀ bh b vw vb w lim used M) {p : Option Addr} {vs : List Vl} (c : Nat) (hv : Vals w p vs) (hl : vs.length ≤ 1000000) (hm : ∀ v ∈ vs, MayHeld M v.k v.n) {Bm : Nat} (g1 : w.heap[Bm]? = some (.cells #[.pointer (some ⟨bh, 0, none⟩)] 54 (0, 0))) :
    Calls Tryz.prog 90 #[.slice p vs.length c, .func (.func 51) #[] #[.pointer (some ⟨Bm, 0, none⟩)]] w fun e w' => e = .returned (.int .i64 (-1)) ∧ Below w.heap.size w w' := by
  go_enter Tryz.func90, Tryz.ntmps90
  go_wp2
  have HM : Hid _ := hm
  clear hm
  go_loopw [8] (fun k wr => ∃ (pre rest : List Vl), k = .int .i64 pre.length ∧ Hid (vs = pre ++ rest) ∧ Below w.heap.size w wr) (fun k _ => vs.length - (intOf k).toNat)
  case atStart => exact ⟨[], vs, rfl, rfl, Below.refl _ _⟩
  case round =>
    obtain ⟨pre, rest, rfl, hR, hB⟩ := hrel
    cases rest with
    | nil =>
      have hR' : ¬ ((pre.length : Int) < (vs.length : Int)) := by have := hR.out; rw [this]; simp
      go_wp2
      go_ret
      exact ⟨rfl, hB⟩
    | cons v rest =>
      have hlR : pre.length < vs.length := by rw [hR.out]; simp
      have hlR' : (pre.length : Int) < (vs.length : Int) := by omega
      obtain ⟨b0, off, hp0, c0, c1⟩ := hv.below hB pre.length v (by rw [hR.out]; simp)
      have H1 := may1_in (h.below hB) v.k v.n (HM.out v (by rw [hR.out]; simp)) ((hB.block _ (Array.getElem?_eq_some_iff.1 g1).1).trans g1)
      have e1 : (((pre ++ [v]).length : Nat) : Int) = pre.length + 1 := by simp
      subst hp0
      go_wp2_with (first
        | (go_at_call 51; refine H1.mono ?_; clear H1; rintro e w2 ⟨rfl, hB2⟩))
      go_roundw
      case rel => exact ⟨pre ++ [v], rest, by rw [e1], by have := hR.out; show vs = _; simpa using this, hB.trans (hB2.mono hB.size)⟩
      case measure => simp [intOf]; omega

set_option maxRecDepth 20000 in
set_option maxHeartbeats 1000000 in
theorem containsFunc_no (h : Hp n₀ bh b vw vb w lim used M) {p : Option Addr} {vs : List Vl} (c : Nat) (hv : Vals w p vs) (hl : vs.length ≤ 1000000) (hm : ∀ v ∈ vs, MayHeld M v.k v.n) {Bm : Nat} (g1 : w.heap[Bm]? = some (.cells #[.pointer (some ⟨bh, 0, none⟩)] 54 (0, 0))) :
    Calls Tryz.prog 50 #[.slice p vs.length c, .func (.func 51) #[] #[.pointer (some ⟨Bm, 0, none⟩)]] w fun e w' => e = .returned (.bool false) ∧ Below w.heap.size w w' := by
  have H1 := indexFunc_no h c hv hl hm g1
  go_enter Tryz.func50, Tryz.ntmps50
  go_wp2_with (first
    | (go_at_call 90; refine H1.mono ?_; clear H1; rintro e w1 ⟨rfl, hB1⟩))
  go_ret
  exact ⟨rfl, hB1⟩

set_option maxRecDepth 20000 in
set_option maxHeartbeats 1000000 in
theorem allMay_yes (h : Hp n₀ bh b vw vb w lim used M) {p : Option Addr} {vs : List Vl} (c : Nat) (hv : Vals w p vs) (hl : vs.length ≤ 1000000) (hm : ∀ v ∈ vs, MayHeld M v.k v.n) :
    Calls Tryz.prog 20 #[mem bh, .slice p vs.length c] w fun e w' => e = .returned (.bool true) ∧ Below w.heap.size w w' := by
  have hb := below1 w (.cells #[.pointer (some ⟨bh, 0, none⟩)] 54)
  have H1 := containsFunc_no (h.below hb) c (hv.below hb) hl hm (heap_alloc_new w _)
  unfold mem
  go_enter Tryz.func20, Tryz.ntmps20
  go_wp2_with (first
    | (go_at_call 50; refine H1.mono ?_; clear H1; rintro e w1 ⟨rfl, hB1⟩))
  go_ret
  exact ⟨rfl, hb.trans (hB1.mono hb.size)⟩

set_option maxRecDepth 20000 in
set_option maxHeartbeats 1000000 in
theorem NewList_ok (h : Hp n₀ bh b vw vb w lim used M) (hl1 : 1 ≤ lim) {p : Option Addr} {vs : List Vl} (c : Nat) (hv : ValsT w p vs) (hk8 : ∀ v ∈ vs, v.k < 256) (hl : vs.length ≤ 4096) (hm : ∀ v ∈ vs, MayHeld M v.k v.n) (h0 : 0 < vs.length) (hf : used + 4 + 2 * vs.length ≤ lim) :
    Calls Tryz.prog 7 #[.pointer (some ⟨bh, 0, none⟩), .slice p vs.length c] w fun e w' => e = .returned (.tuple #[.agg #[.int .u8 4, .int .i64 used], .int .i64 0]) ∧
      ∃ vw' vb', Hp n₀ bh b vw' vb' w' lim (used + 4 + 2 * vs.length) (M ++ [⟨used, 4, [vs.length, used + 4]⟩] ++ [⟨used + 3, 8, lays (List.replicate (2 * vs.length) 0) 0 vs⟩]) ∧ Step b vw vb w vw' vb' w' := by
  have hb2 := below2' w (.cells #[.int .u8 0, .int .i64 0] 29) (.cells #[.pointer (some ⟨bh, 0, none⟩)] 54)
  have HV : Hid (∀ k, vw.ownBlock = some k → k < w.heap.size) := fun k e => (h.blocks k (.inr (.inr (.inl e)))).2.1
  have H1 := fun w' (hB : Below w.heap.size w w') => othere_in (h.below hB) hl1
  have H2 := fun w' (hB : Below w.heap.size w w') => allMay_yes (h.below hB) c (hv.vals.below hB) (by omega) hm
  have H3 := fun w' (hB : Below w.heap.size w w') => newRow_ok (h.below hB) 4 (.inl rfl) vs.length c (hv.below hB) hk8 h0 (Nat.le_refl _) hf
  have hl' : ¬ (4096 : Int) < (vs.length : Int) := by omega
  unfold mem at H1 H2 H3
  clear hm hk8
  go_enter Tryz.func7, Tryz.ntmps7
  go_wp2_with (first
    | (go_at_call 19; refine (H1 _ hb2).mono ?_; clear H1; rintro e w1 ⟨rfl, hB1⟩; obtain ⟨m1, m2, hBz⟩ := laterR hB1; have c2 := cell_row1 m2)
    | (go_at_call 20; refine (H2 _ hBz).mono ?_; clear H2; rintro e w2 ⟨rfl, hB2⟩; have hBy := hBz.trans (hB2.mono hBz.size); have n1 := (hB2.block _ (Array.getElem?_eq_some_iff.1 m1).1).trans m1; have n2 := (hB2.block _ (Array.getElem?_eq_some_iff.1 m2).1).trans m2; have c3 := cell_row1 n2)
    | (go_at_call 21; refine (H3 _ hBy).mono ?_; clear H3; rintro e w3 ⟨rfl, vw', vb', hp3, hS3⟩; have m5 := ((h.below hBy).stays hS3 n1 (fun cur t e => by cases e; decide)).trans n1; obtain ⟨⟨x0, x1⟩, f0, f1⟩ := cell_row2f m5))
  refine bodyPost_ret (results_row_tmp (by rfl) _ _ w.heap.size 29 #[.int .u8 4, .int .i64 used] (0, 0) _ (by rfl) (set2_row m5) Tryz.underlying29 (by rfl) infoVal2) (by rfl) ?_
  refine ⟨rfl, vw', vb', hp3.kept (fun k hk => ?_), step_set2 (Step.belowL hBy hS3 HV.out) (by omega) _ _⟩
  have hne : k ≠ w.heap.size := fun e => hp3.other m5 (fun cur t e => by cases e; decide) (by rw [← e]; exact hk)
  rw [heap_setCell_other _ ⟨w.heap.size, 1, none⟩ k _ hne, heap_setCell_other _ ⟨w.heap.size, 0, none⟩ k _ hne]

end Go.Proofs.YtkombdkhodjckaaGreat
