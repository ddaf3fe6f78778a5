/- Same: textOf, likeness. -/
import Derived.Test.YtkombdkhodjckaaGreatObLike
namespace Go.Proofs.YtkombdkhodjckaaGreat
set_option linter.unusedVariables false
set_option linter.unusedSimpArgs false
open Go.RowKit

variable {n₀ bh b lim used : Nat} {vw vb : Value} {w : World} {M : List Ob}

def strW (ws : List Nat) (n : Nat) : ByteArray := strOfNums ((bytesW ws n).map (fun (n : Nat) => (n : Int)))

theorem bytesW_lt (ws : List Nat) (n : Nat) : ∀ x ∈ bytesW ws n, x < 256 := by
  intro x hx
  simp only [bytesW, List.mem_map] at hx
  obtain ⟨j, _, rfl⟩ := hx
  unfold byteW; omega

theorem bts_strW (ws : List Nat) (n : Nat) : bts (strW ws n) = bytesW ws n := bts_str _ (bytesW_lt ws n)

theorem strW_size (ws : List Nat) (n : Nat) : (strW ws n).size = n := by rw [← bts_len, bts_strW, bytesW_len]

set_option maxRecDepth 20000 in
set_option maxHeartbeats 1000000 in
theorem textOf_yes {l r : List Ob} {o : Ob} (h : Hp n₀ bh b vw vb w lim used (l ++ o :: r)) {n : Nat} (ht : TextOb o n) :
    Calls Tryz.prog 114 #[mem bh, .agg #[.int .u8 3, .int .i64 o.at_]] w fun e w' => e = .returned (.tuple #[.string (strW o.ws n), .bool true]) ∧ Below w.heap.size w w' := by
  have H1 := fun w' (hB : Below w.heap.size w w') => find_text (h.below hB) ht
  have H2 := fun w' (hB : Below w.heap.size w w') => said_in (h.below hB) n ht.most
  unfold mem at H1 H2 ⊢
  go_enter Tryz.func114, Tryz.ntmps114
  go_wp2_with (first
    | (go_at_call 57; refine (H1 _ (below2' _ _ _)).mono ?_; clear H1; rintro e w1 ⟨rfl, hB1⟩; obtain ⟨m1, m2, hBz⟩ := later2o hB1
       have k1 := alloc_keeps m1 (.cells #[.int .i64 n, .int .i64 0, .int .i64 0, .int .i64 0] 58); have k2 := alloc_keeps m2 (.cells #[.int .i64 n, .int .i64 0, .int .i64 0, .int .i64 0] 58)
       have d0 := cell_row1 k1; have ⟨d1, d2⟩ := cell_row2 k2; have hBy := hBz.alloc hBz.size (.cells #[.int .i64 n, .int .i64 0, .int .i64 0, .int .i64 0] 58))
    | (go_at_call 45; refine (H2 _ hBy).mono ?_; clear H2; rintro e w2 ⟨rfl, hB2⟩))
  go_ret2
  exact ⟨rfl, hBy.trans (hB2.mono hBy.size)⟩

set_option maxRecDepth 20000 in
set_option maxHeartbeats 1000000 in
theorem textOf_no (k : Nat) (n : Int) (hk : k ≠ 3) (w : World) :
    Calls Tryz.prog 114 #[mem bh, .agg #[.int .u8 k, .int .i64 n]] w fun e w' => e = .returned (.tuple #[.string ⟨#[]⟩, .bool false]) ∧ Below w.heap.size w w' := by
  have hk' : ((k : Int) == 3) = false := by simp; omega
  unfold mem
  clear hk
  go_enter Tryz.func114, Tryz.ntmps114
  go_wp2
  go_ret2
  exact ⟨rfl, below2' _ _ _⟩

set_option maxRecDepth 20000 in
set_option maxHeartbeats 1000000 in
theorem like_text {l r : List Ob} {o : Ob} (h : Hp n₀ bh b vw vb w lim used (l ++ o :: r)) {n : Nat} (ht : TextOb o n) :
    Calls Tryz.prog 117 #[mem bh, .agg #[.int .u8 3, .int .i64 o.at_]] w fun e w' => ∃ Bm Bs, w.heap.size ≤ Bm ∧ w.heap.size ≤ Bs ∧ e = .returned (.func (.func 131) #[] #[.pointer (some ⟨Bm, 0, none⟩), .pointer (some ⟨Bs, 0, none⟩)]) ∧
      w'.heap[Bm]? = some (.cells #[.pointer (some ⟨bh, 0, none⟩)] 54 (0, 0)) ∧ w'.heap[Bs]? = some (.cells #[.string (strW o.ws n)] 9 (0, 0)) ∧ Below w.heap.size w w' := by
  have H1 := fun w' (hB : Below w.heap.size w w') => textOf_yes (h.below hB) ht
  unfold mem at H1 ⊢
  go_enter Tryz.func117, Tryz.ntmps117
  go_wp2_with (first
    | (go_at_call 114; refine (H1 _ (below2' _ _ _)).mono ?_; clear H1; rintro e w1 ⟨rfl, hB1⟩; obtain ⟨m1, m2, hBz⟩ := later2o hB1))
  go_ret
  exact ⟨w.heap.size, w1.heap.size, Nat.le_refl _, hBz.size, rfl, alloc_keeps m1 _, heap_alloc_new w1 _, hBz.alloc hBz.size _⟩

set_option maxRecDepth 20000 in
set_option maxHeartbeats 1000000 in
theorem like_plain (k : Nat) (n : Int) (hk : k ≠ 3) (hk0 : k ≠ 0) (w : World) :
    Calls Tryz.prog 117 #[mem bh, .agg #[.int .u8 k, .int .i64 n]] w fun e w' => ∃ Ba, w.heap.size ≤ Ba ∧ e = .returned (.func (.func 133) #[] #[.pointer (some ⟨Ba, 0, none⟩)]) ∧
      w'.heap[Ba]? = some (.cells #[.int .u8 k, .int .i64 n] 29 (0, 0)) ∧ Below w.heap.size w w' := by
  have H1 := fun w => textOf_no (bh := bh) k n hk w
  have hk' : ((k : Int) == 0) = false := by simp; omega
  clear hk hk0
  unfold mem at H1 ⊢
  go_enter Tryz.func117, Tryz.ntmps117
  go_wp2_with (first
    | (go_at_call 114; refine (H1 _).mono ?_; clear H1; rintro e w1 ⟨rfl, hB1⟩; obtain ⟨m1, m2, hBz⟩ := later2o hB1))
  go_ret
  exact ⟨w.heap.size + 1, by omega, rfl, alloc_keeps m2 _, hBz.alloc hBz.size _⟩

set_option maxRecDepth 20000 in
set_option maxHeartbeats 1000000 in
/-- The likeness of a text, asked of a text. -/
theorem like2_in {l r : List Ob} {o : Ob} (h : Hp n₀ bh b vw vb w lim used (l ++ o :: r)) {n : Nat} (ht : TextOb o n) {Bm Bs : Nat} (s : ByteArray) (hs : s.size < 9223372036854775808) (g1 : w.heap[Bm]? = some (.cells #[.pointer (some ⟨bh, 0, none⟩)] 54 (0, 0))) (g2 : w.heap[Bs]? = some (.cells #[.string s] 9 (0, 0))) :
    Calls Tryz.prog 131 #[.agg #[.int .u8 3, .int .i64 o.at_], .pointer (some ⟨Bm, 0, none⟩), .pointer (some ⟨Bs, 0, none⟩)] w fun e w' => e = .returned (.bool (decide (bytesW o.ws n = bts s))) ∧ Below w.heap.size w w' := by
  have c1 := cell_row1 (alloc_keeps g1 (.cells #[.int .u8 3, .int .i64 o.at_] 29))
  have c2 := cell_row1 (alloc_keeps g2 (.cells #[.int .u8 3, .int .i64 o.at_] 29))
  have hb := below1 w (.cells #[.int .u8 3, .int .i64 o.at_] 29)
  have H1 := fun w' (hB : Below w.heap.size w w') => says_in (h.below hB) ht s hs
  unfold mem at H1
  clear g1 g2
  go_enter Tryz.func131, Tryz.ntmps131
  go_wp2_with (first
    | (go_at_call 132; refine (H1 _ hb).mono ?_; clear H1; rintro e w1 ⟨rfl, hB1⟩))
  go_ret
  exact ⟨rfl, hb.trans (hB1.mono hb.size)⟩

set_option maxRecDepth 20000 in
set_option maxHeartbeats 1000000 in
/-- The likeness of what is no text. -/
theorem like3_in (k k' : Nat) (n n' : Int) {Ba : Nat} (w : World) (g1 : w.heap[Ba]? = some (.cells #[.int .u8 k, .int .i64 n] 29 (0, 0))) :
    Calls Tryz.prog 133 #[.agg #[.int .u8 k', .int .i64 n'], .pointer (some ⟨Ba, 0, none⟩)] w fun e w' => e = .returned (.bool (decide (k = k' ∧ n = n'))) ∧ Below w.heap.size w w' := by
  have ⟨c1, c2⟩ := cell_row2 (alloc_keeps g1 (.cells #[.int .u8 k', .int .i64 n'] 29))
  clear g1
  go_enter Tryz.func133, Tryz.ntmps133
  go_wp2
  all_goals
    go_ret
    refine ⟨?_, below1 _ _⟩
    first
      | exact congrArg (fun b => Ending.returned (.bool b)) (show true = decide _ by simp; omega)
      | exact congrArg (fun b => Ending.returned (.bool b)) (show false = decide _ by simp; omega)

theorem cell_later {W W' : World} {a : Addr} {v : Value} (h : W.cell? a = some v) (hB : Below W.heap.size W W') : W'.cell? a = some v := (hB.cell (World.block_lt_of_cell? W a h)).trans h

/-- What Same's region reads. -/
def Five (g : Nat) (x0 x1 y0 y1 m : Value) (W : World) : Prop :=
  W.cell? ⟨g, 0, none⟩ = some x0 ∧ W.cell? ⟨g, 1, none⟩ = some x1 ∧ W.cell? ⟨g + 1, 0, none⟩ = some y0 ∧ W.cell? ⟨g + 1, 1, none⟩ = some y1 ∧ W.cell? ⟨g + 1 + 1, 0, none⟩ = some m

theorem Five.later {g : Nat} {x0 x1 y0 y1 m : Value} {W W' : World} (h : Five g x0 x1 y0 y1 m W) (hB : Below W.heap.size W W') : Five g x0 x1 y0 y1 m W' :=
  ⟨cell_later h.1 hB, cell_later h.2.1 hB, cell_later h.2.2.1 hB, cell_later h.2.2.2.1 hB, cell_later h.2.2.2.2 hB⟩

theorem Five.start (w : World) (x0 x1 y0 y1 m : Value) (t1 t2 t3 : TypeId) : Five w.heap.size x0 x1 y0 y1 m (((w.alloc (.cells #[x0, x1] t1)).alloc (.cells #[y0, y1] t2)).alloc (.cells #[m] t3)) :=
  ⟨(cell_row2 (heap3_0 w _ _ _)).1, (cell_row2 (heap3_0 w _ _ _)).2, (cell_row2 (heap3_1 w _ _ _)).1, (cell_row2 (heap3_1 w _ _ _)).2, cell_row1 (heap3_2 w _ _ _)⟩

end Go.Proofs.YtkombdkhodjckaaGreat
