/- Put and Get of a list. -/
import Derived.Test.YtkombdkhodjckaaGreatObPush
namespace Go.Proofs.YtkombdkhodjckaaGreat
set_option linter.unusedVariables false
set_option linter.unusedSimpArgs false
open Go.RowKit

variable {n₀ bh b lim used : Nat} {vw vb : Value} {w : World} {M : List Ob}

theorem kinds2 (W : World) (a b : Nat) (g : Nat) (t : TypeId) (h : W.heap[g]? = some (.cells #[.int .u8 a, .int .u8 b] t (0, 0))) : Kinds W (some ⟨g, 0, none⟩) [a, b] := by
  intro j k hj
  rcases j with _ | _ | j
  · simp at hj; subst hj; exact ⟨g, 0, rfl, by rw [Nat.zero_add, cell_of_row W g 0 _ _ _ h]; rfl⟩
  · simp at hj; subst hj; exact ⟨g, 0, rfl, by rw [Nat.zero_add, cell_of_row W g 1 _ _ _ h]; rfl⟩
  · simp at hj

set_option maxRecDepth 20000 in
set_option maxHeartbeats 1000000 in
theorem Put_grow (h : Hp n₀ bh b vw vb w lim used M) (hl1 : 1 ≤ lim) {o q : Ob} {n : Nat} (hr : RowOb M o q n n) (hk4 : o.kind = 4) (hoq : o.at_ ≠ q.at_) (hn6 : n < 65536) (k : Nat) (x : Int) (hm : MayHeld M k x) (hk8 : k < 256) (hf : used + 2 * (max 4 (2 * n)) + 1 ≤ lim) :
    Calls Tryz.prog 8 #[.pointer (some ⟨bh, 0, none⟩), .agg #[.int .u8 4, .int .i64 o.at_], .agg #[.int .u8 2, .int .i64 n], .agg #[.int .u8 k, .int .i64 x]] w fun e w' => e = .returned (.int .i64 0) ∧
      ∃ vw' vb', Hp n₀ bh b vw' vb' w' lim (used + 2 * (max 4 (2 * n)) + 1) (grown M used (max 4 (2 * n)) o q n [⟨k, x⟩]) ∧ Step b vw vb w vw' vb' w' := by
  have H1 := fun w' (hB : Below w.heap.size w w') p (hk : Kinds w' p [4, 5]) => take_row (h.below hB) hl1 (fun w'' hB' => find_list ((h.below hB).below hB') hr (by omega) hk4) 2 hk (by simp) (by simp)
  have H2 := fun w' (hB : Below w.heap.size w w') => putItem_grow (h.below hB) hr hoq rfl hn6 k x hm hk8 hf
  have HV : Hid (∀ k, vw.ownBlock = some k → k < w.heap.size) := fun k e => (h.blocks k (.inr (.inr (.inl e)))).2.1
  unfold mem at H1 H2
  go_enter Tryz.func8, Tryz.ntmps8
  go_wp2_with (first
    | (go_at_call 22; go_loud (refine (H1 _ (below5' _ _ _ _ _ _) _ (kinds2 _ _ _ _ _ (heap5_4 _ _ _ _ _ _))).mono ?_; clear H1; rintro e w1 ⟨rfl, hB1⟩; obtain ⟨⟨m1, m2, m3, m4⟩, hBz⟩ := later5o hB1)
       have k1 := alloc_keeps m1 (.cells #[.int .i64 n, .int .i64 n, .int .i64 q.at_, .int .i64 0] 58); have k2 := alloc_keeps m2 (.cells #[.int .i64 n, .int .i64 n, .int .i64 q.at_, .int .i64 0] 58); have k3 := alloc_keeps m3 (.cells #[.int .i64 n, .int .i64 n, .int .i64 q.at_, .int .i64 0] 58); have k4 := alloc_keeps m4 (.cells #[.int .i64 n, .int .i64 n, .int .i64 q.at_, .int .i64 0] 58)
       have ⟨d0, d1⟩ := cell_row2 k1; have ⟨d2, d3⟩ := cell_row2 k2; have ⟨d5, d6⟩ := cell_row2 k3; have d4 := cell_row1 k4; have hBy := hBz.alloc hBz.size (.cells #[.int .i64 n, .int .i64 n, .int .i64 q.at_, .int .i64 0] 58))
    | (go_at_call 24; refine (H2 _ hBy).mono ?_; clear H2; rintro e w2 ⟨rfl, vw', vb', hp2, hS2⟩))
  go_ret
  exact ⟨rfl, vw', vb', hp2, Step.belowL hBy hS2 HV.out⟩

set_option maxRecDepth 20000 in
set_option maxHeartbeats 1000000 in
theorem Get_over (h : Hp n₀ bh b vw vb w lim used M) (hl1 : 1 ≤ lim) {o q : Ob} {n room : Nat} (hr : RowOb M o q n room) (hk4 : o.kind = 4) (hn6 : n < 65536) (i : Nat) (hi : n ≤ i) :
    Calls Tryz.prog 18 #[.pointer (some ⟨bh, 0, none⟩), .agg #[.int .u8 4, .int .i64 o.at_], .agg #[.int .u8 2, .int .i64 i]] w fun e w' => e = .returned (.tuple #[.agg #[.int .u8 0, .int .i64 0], .int .i64 1]) ∧ Below w.heap.size w w' := by
  have H1 := fun w' (hB : Below w.heap.size w w') p (hk : Kinds w' p [3, 4, 5]) => take_row (h.below hB) hl1 (fun w'' hB' => find_list ((h.below hB).below hB') hr (by omega) hk4) 3 hk (by simp) (by simp)
  unfold mem at H1
  have hi' : ¬ (i : Int) < (n : Int) := by omega
  have hi2 : (n : Int) ≤ (i : Int) := by omega
  go_enter Tryz.func18, Tryz.ntmps18
  go_wp2_with (first
    | (go_at_call 22; go_loud (refine (H1 _ (below5' _ _ _ _ _ _) _ (kinds3 _ _ _ _ _ _ (heap5_4 _ _ _ _ _ _))).mono ?_; clear H1; rintro e w1 ⟨rfl, hB1⟩; obtain ⟨⟨m1, m2, m3, m4⟩, hBz⟩ := later5o hB1)
       have k1 := alloc_keeps m1 (.cells #[.int .i64 n, .int .i64 room, .int .i64 q.at_, .int .i64 0] 58); have k2 := alloc_keeps m2 (.cells #[.int .i64 n, .int .i64 room, .int .i64 q.at_, .int .i64 0] 58); have k3 := alloc_keeps m3 (.cells #[.int .i64 n, .int .i64 room, .int .i64 q.at_, .int .i64 0] 58); have k4 := alloc_keeps m4 (.cells #[.int .i64 n, .int .i64 room, .int .i64 q.at_, .int .i64 0] 58)
       have ⟨d0, d1⟩ := cell_row2 k1; have ⟨d2, d3⟩ := cell_row2 k2; have ⟨⟨d5, d6⟩, f0, f1⟩ := cell_row2f k3; have d4 := cell_row1 k4; have hBy := hBz.alloc hBz.size (.cells #[.int .i64 n, .int .i64 room, .int .i64 q.at_, .int .i64 0] 58)))
  refine bodyPost_ret (results_row_tmp (by rfl) _ _ (w.heap.size + 1 + 1) 29 #[.int .u8 0, .int .i64 0] (0, 0) _ (by rfl) (set2_row k3) Tryz.underlying29 (by rfl) infoVal2) (by rfl) ?_
  exact ⟨rfl, below_set (below_set hBy (by omega) _) (by omega) _⟩

end Go.Proofs.YtkombdkhodjckaaGreat
