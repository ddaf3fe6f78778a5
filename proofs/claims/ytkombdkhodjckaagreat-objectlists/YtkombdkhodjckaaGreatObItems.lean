/- The values of a list or a map, in new memory; Items, Len, Get. -/
import Derived.Test.YtkombdkhodjckaaGreatObGrow
import Derived.Test.YtkombdkhodjckaaGreatObNewMap
namespace Go.Proofs.YtkombdkhodjckaaGreat
set_option linter.unusedVariables false
set_option linter.unusedSimpArgs false
open Go.RowKit

variable {n₀ bh b lim used : Nat} {vw vb : Value} {w : World} {M : List Ob}

set_option maxRecDepth 20000 in
set_option maxHeartbeats 1000000 in
theorem values1_in (i k n : Nat) (x : Int) {base B0 : Nat} {t : Value} {xs : List Value} (w : World) (g : w.heap[B0]? = some (.cells #[t] 26 (0, 0))) (hr : w.ownsRow base 29 2 t n xs) (hB : base ≤ B0) (hn : n ≤ 1048576) :
    Calls Tryz.prog 63 #[.int .i64 i, .agg #[.int .u8 k, .int .i64 x], .pointer (some ⟨B0, 0, none⟩)] w fun e w' => e = .returned (.bool true) ∧ (∃ t', w'.heap[B0]? = some (.cells #[t'] 26 (0, 0)) ∧ w'.ownsRow base 29 2 t' (n + 1) (xs ++ [.int .u8 k, .int .i64 x])) ∧ Below base w w' ∧ KeepT w w' := by
  obtain ⟨i0, hi, hz0, hz1, hz2⟩ := info_parts infoV
  have hlt := (Array.getElem?_eq_some_iff.1 g).1
  have hb1 := below1 w (.cells #[.int .u8 k, .int .i64 x] 29)
  have g1 := alloc_keeps g (.cells #[.int .u8 k, .int .i64 x] 29)
  have c0 := cell_row1 g1
  have ⟨d0, d1⟩ := cell_row2 (heap_alloc_new w (.cells #[.int .u8 k, .int .i64 x] 29))
  have f0 := frozen_of_row (w.alloc (.cells #[.int .u8 k, .int .i64 x] 29)) B0 0 _ _ g1
  have hr1 := hr.alloc (.cells #[.int .u8 k, .int .i64 x] 29)
  have hbb : base ≤ w.heap.size := by omega
  go_enter Tryz.func63, Tryz.ntmps63
  go_wp2_with (first
    | (at_builtin; refine wpList_append_own _ rfl _ _ 26 rfl base 29 i0 (.agg #[.int .u8 0, .int .i64 0]) 2 16 Tryz.underlying26 hi hz0 hz1 hz2 rfl (by decide) _ n _ rfl (hr1.alloc _) ⟨w.heap.size + 1, 0, none⟩ 1 1 [.int .u8 k, .int .i64 x] rfl rfl (World.news_of_block (cs := #[.int .u8 k, .int .i64 x]) (t := 29) (fr := (0, 0)) (heap_two w _ _)) (by simp [Value.oneCell']) (by unfold maxLen; omega) (by omega) (by simp; omega) ?_; intro v4 w4 hown4 hgrow4 _; refine halt_here ?_))
  unfold Halted
  have hg4 : w.grownBy w4 t.ownBlock := ((World.grownBy_alloc _ _ _).trans (World.grownBy_alloc _ _ _)).trans hgrow4
  have hne : some B0 ≠ t.ownBlock := fun e => by
    obtain ⟨cur, hc⟩ := row_typ hr e.symm
    rw [g] at hc; simp at hc
  have g4 := (hg4.block _ hlt hne).trans g
  have c4 := cell_row1 g4
  have f4 := frozen_of_row w4 B0 0 _ _ g4
  obtain ⟨p4, c4', hv4, _, _⟩ := row_form2 hown4
  subst hv4
  clear hgrow4 c0 d0 d1 f0 g1 hr1
  go_wp2
  go_ret
  have hs := heap_setCell_same w4 B0 0 _ _ (.slice p4 (n + 1) c4') g4
  have ho : ∀ q, q ≠ B0 → (w4.setCell ⟨B0, 0, none⟩ (.slice p4 (n + 1) c4')).heap[q]? = w4.heap[q]? := fun q hq => heap_setCell_other _ ⟨B0, 0, none⟩ q _ hq
  have hvB : Value.ownBlock (.slice p4 (n + 1) c4') ≠ some B0 := fun e => by
    obtain ⟨cur, hc⟩ := row_typ hown4 e
    rw [g4] at hc; simp at hc
  refine ⟨rfl, ⟨_, by simpa using hs, row_kept hown4 (fun q hq => ho q (fun e => hvB (by rw [← e]; exact hq)))⟩, ⟨hg4.os, hg4.tape, hg4.output, by simpa [World.setCell] using hg4.size, fun q hq => ?_⟩, fun q cur ty hq hty => ?_⟩
  · rw [ho q (by omega)]
    exact hg4.block q (by omega) (fun e => by have := (hr.lt q e.symm).1; omega)
  · have hqB : q ≠ B0 := fun e => by
      rw [e, g] at hq
      simp at hq
      obtain ⟨_, rfl⟩ := hq
      rcases hty with h | h <;> simp at h
    rw [ho q hqB]
    refine hg4.block q (Array.getElem?_eq_some_iff.1 hq).1 (fun e => ?_)
    obtain ⟨cur', hc⟩ := row_typ hr e.symm
    rw [hq] at hc
    simp at hc
    obtain ⟨_, rfl⟩ := hc
    rcases hty with h | h <;> simp at h

theorem vcells_take {vs : List Vl} {i : Nat} {v : Vl} (h : vs[i]? = some v) : vcells (vs.take (i + 1)) = vcells (vs.take i) ++ [.int .u8 v.k, .int .i64 v.n] := by
  rw [List.take_add_one, h, vcells_append]
  rfl

set_option maxRecDepth 20000 in
set_option maxHeartbeats 1000000 in
theorem Rw.values {at_ kind room inn : Nat} {vs : List Vl} (r : Rw M at_ kind vs room inn) (h : Hp n₀ bh b vw vb w lim used M) (hl : vs.length ≤ 131072) :
    Calls Tryz.prog 25 #[mem bh, .agg #[.int .i64 vs.length, .int .i64 room, .int .i64 inn, .int .i64 0]] w fun e w' => ∃ p c, e = .returned (.slice p vs.length c) ∧ w'.ownsRow w.heap.size 29 2 (.slice p vs.length c) vs.length (vcells vs) ∧ Below w.heap.size w w' := by
  have hb2 := below2' w (.cells #[.pointer (some ⟨bh, 0, none⟩)] 54) (.cells #[.int .i64 vs.length, .int .i64 room, .int .i64 inn, .int .i64 0] 58)
  have H1 := grow_in vs.length (by omega) ((w.alloc (.cells #[.pointer (some ⟨bh, 0, none⟩)] 54)).alloc (.cells #[.int .i64 vs.length, .int .i64 room, .int .i64 inn, .int .i64 0] 58))
  have HE := fun (B0 : Nat) (hB0 : w.heap.size ≤ B0) (W : World) (hW : ∃ t, W.heap[B0]? = some (.cells #[t] 26 (0, 0)) ∧ W.ownsRow w.heap.size 29 2 t 0 (vcells (vs.take 0)) ∧ Below w.heap.size w W) =>
    each_values1 bh vs.length room inn 0 (by omega) B0 (fun i W => ∃ t, W.heap[B0]? = some (.cells #[t] 26 (0, 0)) ∧ W.ownsRow w.heap.size 29 2 t i (vcells (vs.take i)) ∧ Below w.heap.size w W) (fun _ _ => False) (fun i => (vs.getD i ⟨0, 0⟩).k) (fun i => (vs.getD i ⟨0, 0⟩).n) W hW
      (fun i w' w'' ⟨t, r1, r2, r3⟩ hB => ⟨t, (hB.block _ (Array.getElem?_eq_some_iff.1 r1).1).trans r1, row_kept r2 (fun k e => hB.block k (r2.lt k e).2), r3.trans (hB.mono r3.size)⟩)
      (fun i w' hic ⟨t, r1, r2, r3⟩ => by
        have hv : vs[i]? = some (vs.getD i ⟨0, 0⟩) := by rw [List.getD_eq_getElem?_getD, List.getElem?_eq_getElem hic]; rfl
        exact (r.value (h.below r3) hv (by omega)).mono (fun e w'' ⟨h1, hB⟩ => ⟨h1, ⟨t, (hB.block _ (Array.getElem?_eq_some_iff.1 r1).1).trans r1, row_kept r2 (fun k e => hB.block k (r2.lt k e).2), r3.trans (hB.mono r3.size)⟩, KeepT.below hB⟩))
      (fun i w' hic ⟨t, r1, r2, r3⟩ => by
        have hv : vs[i]? = some (vs.getD i ⟨0, 0⟩) := by rw [List.getD_eq_getElem?_getD, List.getElem?_eq_getElem hic]; rfl
        refine (values1_in i _ i _ w' r1 r2 hB0 (by omega)).mono ?_
        rintro e w'' ⟨he, ⟨t', q1, q2⟩, hB, hK⟩
        refine ⟨.inl ⟨he, t', q1, ?_, ⟨hB.os.trans r3.os, hB.tape.trans r3.tape, hB.output.trans r3.output, Nat.le_trans r3.size hB.size, fun k hk => (hB.block k hk).trans (r3.block k hk)⟩⟩, hK⟩
        rw [vcells_take hv]
        exact q2)
  unfold mem at HE ⊢
  simp only [show ((0 : Nat) : Int) = 0 from rfl] at HE
  clear r
  go_enter Tryz.func25, Tryz.ntmps25
  go_wp2_with (first
    | (go_at_call 61; refine H1.mono ?_; clear H1; rintro e w1 ⟨t, rfl, hrow1, hB1⟩; obtain ⟨pt, ct, hvt, _, _⟩ := row_form2 hrow1; subst hvt; obtain ⟨m1, m2, hBz⟩ := later2o hB1
       have k1 := alloc_keeps m1 (.cells #[.slice pt 0 ct] 26); have k2 := alloc_keeps m2 (.cells #[.slice pt 0 ct] 26); have c0 := cell_row1 k1; have ⟨⟨d0, d1, d2, d3⟩, _⟩ := cell_row4 k2
       have HE1 := HE w1.heap.size hBz.size (w1.alloc (.cells #[.slice pt 0 ct] 26)) ⟨.slice pt 0 ct, heap_alloc_new w1 _, row_mono2 (hrow1.alloc _) hb2.size, hBz.alloc hBz.size _⟩; clear HE)
    | (go_at_call 62; refine HE1.mono ?_; clear HE1; rintro e w2 ⟨⟨rfl, t2, q1, q2, q3⟩ | ⟨_, _, _, hF⟩, hK2⟩; obtain ⟨p2, c2, hv2, _, _⟩ := row_form2 q2; subst hv2; have c9 := cell_row1 q1))
  go_ret
  rw [List.take_of_length_le (Nat.le_refl _)] at q2
  exact ⟨p2, c2, rfl, q2, q3⟩

end Go.Proofs.YtkombdkhodjckaaGreat
