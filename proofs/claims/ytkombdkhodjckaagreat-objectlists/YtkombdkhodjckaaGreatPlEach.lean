/- each, over Plain's own function. (Written by tools/mkeach.py's program.) -/
import Derived.Test.YtkombdkhodjckaaGreatObEach
namespace Go.Proofs.YtkombdkhodjckaaGreat
set_option linter.unusedVariables false
set_option linter.unusedSimpArgs false
open Go.RowKit

set_option maxRecDepth 20000 in
set_option maxHeartbeats 1000000 in
theorem each_through1 (bh cnt room inn first : Nat) (hc : cnt ≤ 1048576) (B0 B1 : Nat) (R : Nat → World → Prop) (S : Nat → World → Prop) (K : Nat → Nat) (N : Nat → Int) (w : World) (hw : R 0 w) (hRB : ∀ i w' w'', R i w' → Below w'.heap.size w' w'' → R i w'')
    (Hval : ∀ (i : Nat) w', i < cnt → R i w' → Calls Tryz.prog 47 #[mem bh, .agg #[.int .i64 cnt, .int .i64 room, .int .i64 inn, .int .i64 first], .int .i64 i] w' fun e w'' => e = .returned (.agg #[.int .u8 (K i), .int .i64 (N i)]) ∧ R i w'' ∧ KeepT w' w'')
    (Hdo : ∀ (i : Nat) w', i < cnt → R i w' → Calls Tryz.prog 102 #[.int .i64 i, .agg #[.int .u8 (K i), .int .i64 (N i)], .pointer (some ⟨B0, 0, none⟩), .pointer (some ⟨B1, 0, none⟩)] w' fun e w'' => ((e = .returned (.bool true) ∧ R (i + 1) w'') ∨ (e = .returned (.bool false) ∧ S i w'')) ∧ KeepT w' w'') :
    Calls Tryz.prog 62 #[mem bh, .agg #[.int .i64 cnt, .int .i64 room, .int .i64 inn, .int .i64 first], .func (.func 102) #[] #[.pointer (some ⟨B0, 0, none⟩), .pointer (some ⟨B1, 0, none⟩)]] w fun e w' => ((e = .returned (.bool true) ∧ R cnt w') ∨ (∃ i : Nat, i < cnt ∧ e = .returned (.bool false) ∧ S i w')) ∧ KeepT w w' := by
  have hb2 := below2' w (.cells #[.pointer (some ⟨bh, 0, none⟩)] 54) (.cells #[.int .i64 cnt, .int .i64 room, .int .i64 inn, .int .i64 first] 58)
  unfold mem at Hval ⊢
  go_enter Tryz.func62, Tryz.ntmps62
  go_wp2
  go_loopw [10] (fun t wr => ∃ i : Nat, t = .int .i64 i ∧ i ≤ cnt ∧ R i wr ∧ KeepT w wr ∧ wr.heap[w.heap.size]? = some (.cells #[.pointer (some ⟨bh, 0, none⟩)] 54 (0, 0)) ∧ wr.heap[w.heap.size + 1]? = some (.cells #[.int .i64 cnt, .int .i64 room, .int .i64 inn, .int .i64 first] 58 (0, 0))) (fun t _ => cnt - (intOf t).toNat)
  case atStart => exact ⟨0, rfl, by omega, hRB 0 _ _ hw hb2, KeepT.below hb2, alloc_keeps (heap_alloc_new w _) _, heap_two w _ _⟩
  case round =>
    obtain ⟨i, rfl, hi, hR, hK, m1, m2⟩ := hrel
    have c0 := cell_row1 m1
    obtain ⟨⟨d0, d1, d2, d3⟩, _⟩ := cell_row4 m2
    by_cases hic : i < cnt
    · have hic' : (i : Int) < (cnt : Int) := by omega
      have H1 := Hval i wr hic hR
      have e1 : (((i + 1 : Nat)) : Int) = i + 1 := by simp
      go_wp2_with (first
        | (go_at_call 47; refine H1.mono ?_; clear H1; rintro e w1 ⟨rfl, hR1, hK1⟩; have n1 := hK1.mem m1; have n2 := hK1.body m2)
        | (go_at_call 102; refine (Hdo i _ hic hR1).mono ?_; rintro e w2 ⟨⟨rfl, hR2⟩ | ⟨rfl, hS2⟩, hK2⟩))
      · go_roundw
        case rel => exact ⟨i + 1, by rw [e1], by omega, hR2, (hK.trans hK1).trans hK2, hK2.mem n1, hK2.body n2⟩
        case measure => simp [intOf]; omega
      · go_ret
        exact ⟨.inr ⟨i, hic, rfl, hS2⟩, (hK.trans hK1).trans hK2⟩
    · have hic' : ¬ (i : Int) < (cnt : Int) := by omega
      obtain rfl : i = cnt := by omega
      go_wp2
      go_ret
      exact ⟨.inl ⟨rfl, hR⟩, hK⟩

end Go.Proofs.YtkombdkhodjckaaGreat
