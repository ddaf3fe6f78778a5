/- A list or a map that may be: rowBody, find, take. -/
import Derived.Test.YtkombdkhodjckaaGreatObMay
namespace Go.Proofs.YtkombdkhodjckaaGreat
set_option linter.unusedVariables false
set_option linter.unusedSimpArgs false
open Go.RowKit

variable {n₀ bh b lim used : Nat} {vw vb : Value} {w : World} {M : List Ob}

/-- A list or a map with its values in other words. -/
structure RowOb (M : List Ob) (o q : Ob) (n room : Nat) : Prop where
  mem : o ∈ M
  memq : q ∈ M
  ws : o.ws = [n, q.at_ + 1]
  kindq : q.kind = 8
  size : q.ws.length = 2 * room
  le : n ≤ room

theorem cell_set4 {W : World} {g : Nat} {x y z u : Value} {a : Addr} (h : a.block ≠ g) : ((((W.setCell ⟨g, 0, none⟩ x).setCell ⟨g, 1, none⟩ y).setCell ⟨g, 2, none⟩ z).setCell ⟨g, 3, none⟩ u).cell? a = W.cell? a :=
  (World.cell?_setCell_other _ _ _ _ (fun e => h (by cases e; rfl))).trans ((World.cell?_setCell_other _ _ _ _ (fun e => h (by cases e; rfl))).trans (cell_set2 h))

theorem word_at (h : Hp n₀ bh b vw vb w lim used M) {o : Ob} (ho : o ∈ M) (i : Nat) : Calls Tryz.prog 89 #[mem bh, .int .i64 o.at_, .int .i64 i] w fun e w' => e = .returned (.int .u64 (o.ws.getD i 0 : Nat)) ∧ Below w.heap.size w w' := by
  obtain ⟨l, r, rfl⟩ := List.append_of_mem ho
  exact oword_in h i

theorem size_at (h : Hp n₀ bh b vw vb w lim used M) {o : Ob} (ho : o ∈ M) : Calls Tryz.prog 98 #[.pointer (some ⟨bh, 0, none⟩), .int .i64 o.at_] w fun e w' => e = .returned (.tuple #[.int .i64 o.ws.length, .int .i64 0]) ∧ w' = w := by
  obtain ⟨l, r, rfl⟩ := List.append_of_mem ho
  exact sizeM h

theorem kind_at (h : Hp n₀ bh b vw vb w lim used M) {o : Ob} (ho : o ∈ M) : Calls Tryz.prog 101 #[.pointer (some ⟨bh, 0, none⟩), .int .i64 o.at_] w fun e w' => e = .returned (.tuple #[.int .u8 o.kind, .int .i64 0]) ∧ w' = w := by
  obtain ⟨l, r, rfl⟩ := List.append_of_mem ho
  exact kindM h

theorem at_lt (h : Hp n₀ bh b vw vb w lim used M) {o : Ob} (ho : o ∈ M) : o.at_ + o.ws.length < 1048576 := by
  have := h.srt.2 o ho; have := h.le; unfold Ob.end_ at *; omega

set_option maxRecDepth 20000 in
set_option maxHeartbeats 1000000 in
theorem rowBody_in (h : Hp n₀ bh b vw vb w lim used M) {o q : Ob} {n room : Nat} (hr : RowOb M o q n room) (most : Nat) (hn : n ≤ most) (hm : most ≤ 131072) :
    Calls Tryz.prog 96 #[mem bh, .int .i64 o.at_, .int .u64 most] w fun e w' => e = .returned (.tuple #[.agg #[.int .i64 n, .int .i64 room, .int .i64 q.at_, .int .i64 0], .bool true]) ∧ Below w.heap.size w w' := by
  have hb2 := below2' w (.cells #[.pointer (some ⟨bh, 0, none⟩)] 54) (.cells #[.int .i64 0, .int .i64 0, .int .i64 0, .int .i64 0] 58)
  have hq20 := at_lt h hr.memq
  have H1 := fun w' (hB : Below w.heap.size w w') => size_at (h.below hB) hr.mem
  have H2 := fun w' (hB : Below w.heap.size w w') => word_at (h.below hB) hr.mem 0
  have H3 := fun w' (hB : Below w.heap.size w w') => word_at (h.below hB) hr.mem 1
  have H4 := fun w' (hB : Below w.heap.size w w') => kind_at (h.below hB) hr.memq
  have H5 := fun w' (hB : Below w.heap.size w w') => size_at (h.below hB) hr.memq
  rw [hr.ws] at H1 H2 H3
  rw [hr.kindq] at H4
  rw [hr.size] at H5
  simp only [List.getD_cons_zero, List.getD_cons_succ, List.length_cons, List.length_nil, Int.natCast_add, Int.natCast_mul, show ((0 : Nat) : Int) = 0 from rfl, show ((1 : Nat) : Int) = 1 from rfl, show ((2 : Nat) : Int) = 2 from rfl, Nat.zero_add, Nat.reduceAdd] at H1 H2 H3 H4 H5
  have hn' : ¬ (most : Int) < (n : Int) := by omega
  have hsz := hr.size
  have hle := hr.le
  unfold mem at H2 H3 ⊢
  go_enter Tryz.func96, Tryz.ntmps96
  go_wp2_with (first
    | (go_at_call 98; refine (H1 _ hb2).mono ?_; rintro e w' ⟨rfl, hw'⟩; obtain rfl := hw'.symm))
  have c0 := cell_row1 (alloc_keeps (heap_alloc_new w (.cells #[.pointer (some ⟨bh, 0, none⟩)] 54)) (.cells #[.int .i64 0, .int .i64 0, .int .i64 0, .int .i64 0] 58))
  go_region_held3 (fun W => W.cell? ⟨w.heap.size, 0, none⟩ = some (.pointer (some ⟨bh, 0, none⟩))) (first | exact c0 | exact c1 | exact c2 | go_keep)
    ((first
      | (go_at_call 89; refine (H2 _ (below_drew hb2)).mono ?_; clear H2; rintro e w1 ⟨rfl, hB1⟩; obtain ⟨m1, m2, hBz⟩ := later2o (w := w) (w1 := w1) ⟨hB1.os, hB1.tape, hB1.output, hB1.size, hB1.block⟩; have c1 := cell_row1 m1)
      | (go_at_call 89; refine (H3 _ hBz).mono ?_; clear H3; rintro e w2 ⟨rfl, hB2⟩; have hBy := hBz.trans (hB2.mono hBz.size); have n1 := (hB2.block _ (Array.getElem?_eq_some_iff.1 m1).1).trans m1; have n2 := (hB2.block _ (Array.getElem?_eq_some_iff.1 m2).1).trans m2; have c2 := cell_row1 n1)))
  all_goals
    obtain ⟨⟨x0, x1, x2, x3⟩, f0, f1, f2, f3⟩ := cell_row4 n2
    go_wp2_with (first
      | (go_at_call 101; refine (H4 _ hBy).mono ?_; rintro e w' ⟨rfl, hw'⟩; obtain rfl := hw'.symm)
      | (go_at_call 98; refine (H5 _ hBy).mono ?_; rintro e w' ⟨rfl, hw'⟩; obtain rfl := hw'.symm))
    refine bodyPost_ret (results_row_tmp (by rfl) _ _ (w.heap.size + 1) 58 #[.int .i64 n, .int .i64 room, .int .i64 q.at_, .int .i64 0] (0, 0) _ (by rfl) (set4_row n2) Tryz.underlying58 (by rfl) infoBody) (by rfl) ?_
    exact ⟨rfl, below_set4 hBy (by omega) _ _ _ _⟩

set_option maxRecDepth 20000 in
set_option maxHeartbeats 1000000 in
theorem find_list (h : Hp n₀ bh b vw vb w lim used M) {o q : Ob} {n room : Nat} (hr : RowOb M o q n room) (hn : n ≤ 65536) (hk : o.kind = 4) :
    Calls Tryz.prog 57 #[mem bh, .agg #[.int .u8 4, .int .i64 o.at_]] w fun e w' => e = .returned (.tuple #[.agg #[.int .i64 n, .int .i64 room, .int .i64 q.at_, .int .i64 0], .bool true]) ∧ Below w.heap.size w w' := by
  have hb3 := below3' w (.cells #[.pointer (some ⟨bh, 0, none⟩)] 54) (.cells #[.int .u8 4, .int .i64 o.at_] 29) (.cells #[.int .i64 0, .int .i64 0, .int .i64 0, .int .i64 0] 58)
  have H1 := oleads_in (h.below hb3) 4 (o.at_ : Int)
  have ed : decide (Leads M 4 (o.at_ : Int)) = true := by
    simp only [decide_eq_true_eq]
    exact ⟨by omega, by omega, o, hr.mem, rfl, hk⟩
  rw [ed] at H1
  have H2 := fun w' (hB : Below w.heap.size w w') => rowBody_in (h.below hB) hr 65536 hn (by omega)
  unfold mem at H1 H2 ⊢
  clear ed
  go_enter Tryz.func57, Tryz.ntmps57
  go_wp2_with (first
    | (go_at_call 64; go_loud (refine H1.mono ?_; clear H1; rintro e w1 ⟨rfl, hB1⟩; obtain ⟨c0, ⟨c1, c2⟩, m2, hBz⟩ := later3 hB1))
    | (go_at_call 96; refine (H2 _ hBz).mono ?_; clear H2; rintro e w2 ⟨rfl, hB2⟩; have m3 := (hB2.block _ (Array.getElem?_eq_some_iff.1 m2).1).trans m2; obtain ⟨⟨q0, q1, q2, q3⟩, f0, f1, f2, f3⟩ := cell_row4 m3; have hBy := hBz.trans (hB2.mono hBz.size)))
  refine bodyPost_ret (results_row_tmp (by rfl) _ _ (w.heap.size + 1 + 1) 58 #[.int .i64 n, .int .i64 room, .int .i64 q.at_, .int .i64 0] (0, 0) _ (by rfl) (set4_row m3) Tryz.underlying58 (by rfl) infoBody) (by rfl) ?_
  exact ⟨rfl, below_set4 hBy (by omega) _ _ _ _⟩

set_option maxRecDepth 20000 in
set_option maxHeartbeats 1000000 in
/-- take of what find finds. -/
theorem take_row {k at_ n room inn : Nat} {w : World} (h : Hp n₀ bh b vw vb w lim used M) (hl1 : 1 ≤ lim) (H3 : ∀ w', Below w.heap.size w w' → Calls Tryz.prog 57 #[mem bh, .agg #[.int .u8 k, .int .i64 at_]] w' fun e w'' => e = .returned (.tuple #[.agg #[.int .i64 n, .int .i64 room, .int .i64 inn, .int .i64 0], .bool true]) ∧ Below w'.heap.size w' w'')
    {p : Option Addr} {ks : List Nat} (c : Nat) (hk : Kinds w p ks) (hl : ks.length ≤ 10) (hm : k ∈ ks) :
    Calls Tryz.prog 22 #[mem bh, .agg #[.int .u8 k, .int .i64 at_], .slice p ks.length c] w fun e w' => e = .returned (.tuple #[.agg #[.int .i64 n, .int .i64 room, .int .i64 inn, .int .i64 0], .int .i64 0]) ∧ Below w.heap.size w w' := by
  have hb3 := below3' w (.cells #[.pointer (some ⟨bh, 0, none⟩)] 54) (.cells #[.int .u8 k, .int .i64 at_] 29) (.cells #[.int .i64 0, .int .i64 0, .int .i64 0, .int .i64 0] 58)
  have H1 := othere_in (h.below hb3) hl1
  have H2 := fun w' (hB : Below w.heap.size w w') => contains_yes c (hk.below hB) hl k hm
  unfold mem at H1 H3 ⊢
  go_enter Tryz.func22, Tryz.ntmps22
  go_wp2_with (first
    | (go_at_call 19; refine H1.mono ?_; clear H1; rintro e w1 ⟨rfl, hB1⟩; obtain ⟨c0, ⟨c1, c2⟩, m2, hBz⟩ := later3 hB1)
    | (go_at_call 56; refine (H2 _ hBz).mono ?_; clear H2; rintro e w' ⟨rfl, hw'⟩; obtain rfl := hw'.symm)
    | (go_at_call 57; refine (H3 _ hBz).mono ?_; clear H3; rintro e w2 ⟨rfl, hB2⟩; have m3 := (hB2.block _ (Array.getElem?_eq_some_iff.1 m2).1).trans m2; have m4 := alloc_keeps m3 (.cells #[.int .i64 n, .int .i64 room, .int .i64 inn, .int .i64 0] 58); obtain ⟨⟨q0, q1, q2, q3⟩, f0, f1, f2, f3⟩ := cell_row4 m4; have hBy := (hBz.trans (hB2.mono hBz.size)).alloc (hBz.trans (hB2.mono hBz.size)).size (.cells #[.int .i64 n, .int .i64 room, .int .i64 inn, .int .i64 0] 58)))
  refine bodyPost_ret (results_row_tmp (by rfl) _ _ (w.heap.size + 1 + 1) 58 #[.int .i64 n, .int .i64 room, .int .i64 inn, .int .i64 0] (0, 0) _ (by rfl) (set4_row m4) Tryz.underlying58 (by rfl) infoBody) (by rfl) ?_
  exact ⟨rfl, below_set4 hBy (by omega) _ _ _ _⟩

end Go.Proofs.YtkombdkhodjckaaGreat
