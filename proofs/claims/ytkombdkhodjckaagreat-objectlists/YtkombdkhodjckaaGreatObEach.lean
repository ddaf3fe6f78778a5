/- each, as its callers ask it. (Written by tools/mkeach.py.) -/
import Derived.Test.YtkombdkhodjckaaGreatObBody
namespace Go.Proofs.YtkombdkhodjckaaGreat
set_option linter.unusedVariables false
set_option linter.unusedSimpArgs false
open Go.RowKit

/-- Boxes of memories and bodies are as they were. -/
def KeepT (w w' : World) : Prop := ∀ (k : Nat) (cur : Array Value) (t : TypeId), w.heap[k]? = some (.cells cur t (0, 0)) → (t = 54 ∨ t = 58) → w'.heap[k]? = w.heap[k]?

theorem KeepT.below {w w' : World} (h : Below w.heap.size w w') : KeepT w w' := fun k cur t hk _ => h.block k (Array.getElem?_eq_some_iff.1 hk).1

theorem KeepT.trans {w w' w'' : World} (h : KeepT w w') (h' : KeepT w' w'') : KeepT w w'' := fun k cur t hk ht => (h' k cur t ((h k cur t hk ht).trans hk) ht).trans (h k cur t hk ht)

theorem KeepT.mem {w w' : World} (h : KeepT w w') {k : Nat} {cur : Array Value} (hk : w.heap[k]? = some (.cells cur 54 (0, 0))) : w'.heap[k]? = some (.cells cur 54 (0, 0)) := (h k _ _ hk (.inl rfl)).trans hk

theorem KeepT.body {w w' : World} (h : KeepT w w') {k : Nat} {cur : Array Value} (hk : w.heap[k]? = some (.cells cur 58 (0, 0))) : w'.heap[k]? = some (.cells cur 58 (0, 0)) := (h k _ _ hk (.inr rfl)).trans hk

set_option maxRecDepth 20000 in
set_option maxHeartbeats 1000000 in
theorem each_moved1 (bh cnt room inn first : Nat) (hc : cnt ≤ 1048576) (B0 B1 : Nat) (R : Nat → World → Prop) (S : Nat → World → Prop) (K : Nat → Nat) (N : Nat → Int) (w : World) (hw : R 0 w) (hRB : ∀ i w' w'', R i w' → Below w'.heap.size w' w'' → R i w'')
    (Hval : ∀ (i : Nat) w', i < cnt → R i w' → Calls Tryz.prog 47 #[mem bh, .agg #[.int .i64 cnt, .int .i64 room, .int .i64 inn, .int .i64 first], .int .i64 i] w' fun e w'' => e = .returned (.agg #[.int .u8 (K i), .int .i64 (N i)]) ∧ R i w'' ∧ KeepT w' w'')
    (Hdo : ∀ (i : Nat) w', i < cnt → R i w' → Calls Tryz.prog 120 #[.int .i64 i, .agg #[.int .u8 (K i), .int .i64 (N i)], .pointer (some ⟨B0, 0, none⟩), .pointer (some ⟨B1, 0, none⟩)] w' fun e w'' => ((e = .returned (.bool true) ∧ R (i + 1) w'') ∨ (e = .returned (.bool false) ∧ S i w'')) ∧ KeepT w' w'') :
    Calls Tryz.prog 62 #[mem bh, .agg #[.int .i64 cnt, .int .i64 room, .int .i64 inn, .int .i64 first], .func (.func 120) #[] #[.pointer (some ⟨B0, 0, none⟩), .pointer (some ⟨B1, 0, none⟩)]] w fun e w' => ((e = .returned (.bool true) ∧ R cnt w') ∨ (∃ i : Nat, i < cnt ∧ e = .returned (.bool false) ∧ S i w')) ∧ KeepT w w' := by
  have hb2 := below2' w (.cells #[.pointer (some ⟨bh, 0, none⟩)] 54) (.cells #[.int .i64 cnt, .int .i64 room, .int .i64 inn, .int .i64 first] 58)
  unfold mem at Hval ⊢
  go_enter Tryz.func62, Tryz.ntmps62
  go_wp2
  go_loopw [10] (fun t wr => ∃ i : Nat, t = .int .i64 i ∧ i ≤ cnt ∧ R i wr ∧ KeepT w wr ∧ wr.heap[w.heap.size]? = some (.cells #[.pointer (some ⟨bh, 0, none⟩)] 54 (0, 0)) ∧ wr.heap[w.heap.size + 1]? = some (.cells #[.int .i64 cnt, .int .i64 room, .int .i64 inn, .int .i64 first] 58 (0, 0))) (fun t _ => cnt - (intOf t).toNat)
  case atStart => exact ⟨0, rfl, by omega, hRB 0 _ _ hw hb2, KeepT.below hb2, alloc_keeps (heap_alloc_new w _) _, heap_two w _ _⟩
  case round =>
    obtain ⟨i, rfl, hi, hR, hK, m1, m2⟩ := hrel
    have c0 := cell_row1 m1
    obtain ⟨⟨d0, d1, d2, d3⟩, _⟩ := cell_row4 m2
    by_cases hic : i < cnt
    · have hic' : (i : Int) < (cnt : Int) := by omega
      have H1 := Hval i wr hic hR
      have e1 : (((i + 1 : Nat)) : Int) = i + 1 := by simp
      go_wp2_with (first
        | (go_at_call 47; refine H1.mono ?_; clear H1; rintro e w1 ⟨rfl, hR1, hK1⟩; have n1 := hK1.mem m1; have n2 := hK1.body m2)
        | (go_at_call 120; refine (Hdo i _ hic hR1).mono ?_; rintro e w2 ⟨⟨rfl, hR2⟩ | ⟨rfl, hS2⟩, hK2⟩))
      · go_roundw
        case rel => exact ⟨i + 1, by rw [e1], by omega, hR2, (hK.trans hK1).trans hK2, hK2.mem n1, hK2.body n2⟩
        case measure => simp [intOf]; omega
      · go_ret
        exact ⟨.inr ⟨i, hic, rfl, hS2⟩, (hK.trans hK1).trans hK2⟩
    · have hic' : ¬ (i : Int) < (cnt : Int) := by omega
      obtain rfl : i = cnt := by omega
      go_wp2
      go_ret
      exact ⟨.inl ⟨rfl, hR⟩, hK⟩

set_option maxRecDepth 20000 in
set_option maxHeartbeats 1000000 in
theorem each_values1 (bh cnt room inn first : Nat) (hc : cnt ≤ 1048576) (B0 : Nat) (R : Nat → World → Prop) (S : Nat → World → Prop) (K : Nat → Nat) (N : Nat → Int) (w : World) (hw : R 0 w) (hRB : ∀ i w' w'', R i w' → Below w'.heap.size w' w'' → R i w'')
    (Hval : ∀ (i : Nat) w', i < cnt → R i w' → Calls Tryz.prog 47 #[mem bh, .agg #[.int .i64 cnt, .int .i64 room, .int .i64 inn, .int .i64 first], .int .i64 i] w' fun e w'' => e = .returned (.agg #[.int .u8 (K i), .int .i64 (N i)]) ∧ R i w'' ∧ KeepT w' w'')
    (Hdo : ∀ (i : Nat) w', i < cnt → R i w' → Calls Tryz.prog 63 #[.int .i64 i, .agg #[.int .u8 (K i), .int .i64 (N i)], .pointer (some ⟨B0, 0, none⟩)] w' fun e w'' => ((e = .returned (.bool true) ∧ R (i + 1) w'') ∨ (e = .returned (.bool false) ∧ S i w'')) ∧ KeepT w' w'') :
    Calls Tryz.prog 62 #[mem bh, .agg #[.int .i64 cnt, .int .i64 room, .int .i64 inn, .int .i64 first], .func (.func 63) #[] #[.pointer (some ⟨B0, 0, none⟩)]] w fun e w' => ((e = .returned (.bool true) ∧ R cnt w') ∨ (∃ i : Nat, i < cnt ∧ e = .returned (.bool false) ∧ S i w')) ∧ KeepT w w' := by
  have hb2 := below2' w (.cells #[.pointer (some ⟨bh, 0, none⟩)] 54) (.cells #[.int .i64 cnt, .int .i64 room, .int .i64 inn, .int .i64 first] 58)
  unfold mem at Hval ⊢
  go_enter Tryz.func62, Tryz.ntmps62
  go_wp2
  go_loopw [10] (fun t wr => ∃ i : Nat, t = .int .i64 i ∧ i ≤ cnt ∧ R i wr ∧ KeepT w wr ∧ wr.heap[w.heap.size]? = some (.cells #[.pointer (some ⟨bh, 0, none⟩)] 54 (0, 0)) ∧ wr.heap[w.heap.size + 1]? = some (.cells #[.int .i64 cnt, .int .i64 room, .int .i64 inn, .int .i64 first] 58 (0, 0))) (fun t _ => cnt - (intOf t).toNat)
  case atStart => exact ⟨0, rfl, by omega, hRB 0 _ _ hw hb2, KeepT.below hb2, alloc_keeps (heap_alloc_new w _) _, heap_two w _ _⟩
  case round =>
    obtain ⟨i, rfl, hi, hR, hK, m1, m2⟩ := hrel
    have c0 := cell_row1 m1
    obtain ⟨⟨d0, d1, d2, d3⟩, _⟩ := cell_row4 m2
    by_cases hic : i < cnt
    · have hic' : (i : Int) < (cnt : Int) := by omega
      have H1 := Hval i wr hic hR
      have e1 : (((i + 1 : Nat)) : Int) = i + 1 := by simp
      go_wp2_with (first
        | (go_at_call 47; refine H1.mono ?_; clear H1; rintro e w1 ⟨rfl, hR1, hK1⟩; have n1 := hK1.mem m1; have n2 := hK1.body m2)
        | (go_at_call 63; refine (Hdo i _ hic hR1).mono ?_; rintro e w2 ⟨⟨rfl, hR2⟩ | ⟨rfl, hS2⟩, hK2⟩))
      · go_roundw
        case rel => exact ⟨i + 1, by rw [e1], by omega, hR2, (hK.trans hK1).trans hK2, hK2.mem n1, hK2.body n2⟩
        case measure => simp [intOf]; omega
      · go_ret
        exact ⟨.inr ⟨i, hic, rfl, hS2⟩, (hK.trans hK1).trans hK2⟩
    · have hic' : ¬ (i : Int) < (cnt : Int) := by omega
      obtain rfl : i = cnt := by omega
      go_wp2
      go_ret
      exact ⟨.inl ⟨rfl, hR⟩, hK⟩

end Go.Proofs.YtkombdkhodjckaaGreat
