/- find of a map. -/
import Derived.Test.YtkombdkhodjckaaGreatObBody
namespace Go.Proofs.YtkombdkhodjckaaGreat
set_option linter.unusedVariables false
set_option linter.unusedSimpArgs false
open Go.RowKit

variable {n₀ bh b lim used : Nat} {vw vb : Value} {w : World} {M : List Ob}

theorem cell_drew {W : World} (a : Addr) : W.drew.cell? a = W.cell? a := rfl

theorem cell_set4d {W : World} {g : Nat} {x y z u : Value} {a : Addr} (h : a.block ≠ g) : ((((W.setCell ⟨g, 0, none⟩ x).setCell ⟨g, 1, none⟩ y).setCell ⟨g, 2, none⟩ z).setCell ⟨g, 3, none⟩ u).drew.cell? a = W.cell? a := (cell_drew a).trans (cell_set4 h)

set_option maxRecDepth 20000 in
set_option maxHeartbeats 1000000 in
theorem find_map (h : Hp n₀ bh b vw vb w lim used M) {o q : Ob} {n room : Nat} (hr : RowOb M o q (2 * n) room) (hn : n ≤ 65536) (hk : o.kind = 5) :
    Calls Tryz.prog 57 #[mem bh, .agg #[.int .u8 5, .int .i64 o.at_]] w fun e w' => e = .returned (.tuple #[.agg #[.int .i64 (2 * n : Nat), .int .i64 room, .int .i64 q.at_, .int .i64 0], .bool true]) ∧ Below w.heap.size w w' := by
  have hb3 := below3' w (.cells #[.pointer (some ⟨bh, 0, none⟩)] 54) (.cells #[.int .u8 5, .int .i64 o.at_] 29) (.cells #[.int .i64 0, .int .i64 0, .int .i64 0, .int .i64 0] 58)
  have H1 := oleads_in (h.below hb3) 5 (o.at_ : Int)
  have ed : decide (Leads M 5 (o.at_ : Int)) = true := by
    simp only [decide_eq_true_eq]
    exact ⟨by omega, by omega, o, hr.mem, rfl, hk⟩
  rw [ed] at H1
  have H2 := fun w' (hB : Below w.heap.size w w') => rowBody_in (h.below hB) hr 131072 (by omega) (by omega)
  have em : (((2 * n : Nat) : Int).tmod 2 == 0) = true := by rw [Int.tmod_eq_emod_of_nonneg (by omega)]; simp
  have hle := hr.le
  have hsz := hr.size
  have hq20 := at_lt h hr.memq
  obtain ⟨N, hN⟩ : ∃ N, 2 * n = N := ⟨_, rfl⟩
  rw [hN] at H2 em ⊢
  have HN : Hid _ := hN
  clear ed hN
  unfold mem at H1 H2 ⊢
  go_enter Tryz.func57, Tryz.ntmps57
  go_wp2_with (first
    | (go_at_call 64; go_loud (refine H1.mono ?_; clear H1; rintro e w1 ⟨rfl, hB1⟩; obtain ⟨c0, ⟨c1, c2⟩, m2, hBz⟩ := later3 hB1))
    | (go_at_call 96; refine (H2 _ hBz).mono ?_; clear H2; rintro e w2 ⟨rfl, hB2⟩; have m3 := (hB2.block _ (Array.getElem?_eq_some_iff.1 m2).1).trans m2; have m4 := alloc_keeps m3 (.cells #[.int .i64 N, .int .i64 room, .int .i64 q.at_, .int .i64 0] 58); obtain ⟨⟨q0, q1, q2, q3⟩, f0, f1, f2, f3⟩ := cell_row4 m4; have hBx := hBz.trans (hB2.mono hBz.size); have hBy := hBx.alloc hBx.size (.cells #[.int .i64 N, .int .i64 room, .int .i64 q.at_, .int .i64 0] 58)))
  have ⟨⟨r0, r1, r2, r3⟩, _⟩ := cell_row4 (heap_alloc_new w2 (.cells #[.int .i64 N, .int .i64 room, .int .i64 q.at_, .int .i64 0] 58))
  have hne : w2.heap.size ≠ w.heap.size + 1 + 1 := by have := (Array.getElem?_eq_some_iff.1 m3).1; omega
  have EM : Hid _ := em
  clear em hle hsz hq20 hr hk h hb3 hB1 hB2 m2 hBx hBz c0 c1 c2
  go_region_held3 (fun W => W.cell? ⟨w2.heap.size, 0, none⟩ = some (.int .i64 N) ∧ W.cell? ⟨w2.heap.size, 1, none⟩ = some (.int .i64 room) ∧ W.cell? ⟨w2.heap.size, 2, none⟩ = some (.int .i64 q.at_) ∧ W.cell? ⟨w2.heap.size, 3, none⟩ = some (.int .i64 0)) (first | with_reducible exact ⟨r0, r1, r2, r3⟩ | with_reducible exact ⟨(cell_set4 hne).trans r0, (cell_set4 hne).trans r1, (cell_set4 hne).trans r2, (cell_set4 hne).trans r3⟩ | with_reducible exact ⟨(cell_set4d hne).trans r0, (cell_set4d hne).trans r1, (cell_set4d hne).trans r2, (cell_set4d hne).trans r3⟩ | with_reducible exact ⟨(cell_drew _).trans r0, (cell_drew _).trans r1, (cell_drew _).trans r2, (cell_drew _).trans r3⟩) (fail)
  all_goals
    go_wp2
    refine bodyPost_ret (results_row_tmp (by rfl) _ _ (w.heap.size + 1 + 1) 58 #[.int .i64 N, .int .i64 room, .int .i64 q.at_, .int .i64 0] (0, 0) _ (by rfl) (set4_row m4) Tryz.underlying58 (by rfl) infoBody) (by rfl) ?_
    refine ⟨?_, below_drew (below_set4 hBy (by omega) _ _ _ _)⟩
    rw [← EM.out]
    rfl

end Go.Proofs.YtkombdkhodjckaaGreat
