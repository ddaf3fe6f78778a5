/- alive: the statements' own example is answered as the document fixes. -/
import Derived.Test.YtppjahnahomkeaaDoorShAliveMath
namespace Go.Proofs.YtppjahnahomkeaaDoor
set_option linter.unusedVariables false
set_option linter.unusedSimpArgs false
open Go.RowKit

variable {w : World}

theorem infoV3 : (Tryd.prog.info? 26).map (·.size) = some 2 := by kernel_rfl

theorem number_in (n : Int) (w : World) : Calls Tryd.prog 23 #[.int .i64 n] w fun e w' => e = .returned (.agg #[.int .u8 2, .int .i64 n]) ∧ w' = w.alloc (.cells #[.int .u8 2, .int .i64 n] 26) := by
  go_enter Tryd.func23, Tryd.ntmps23
  go_wp2
  refine bodyPost_ret (results_cell_row (by rfl) _ _ w.heap.size 26 _ _ _ (by rfl) (heap_alloc_new w _) Tryd.underlying26 (by rfl) infoV3) (by rfl) ?_
  exact ⟨rfl, rfl⟩

/-- The cells of the example's store. -/
def cells0 (b : Nat) : Array Value := #[.int .u8 3, .string ⟨#[104, 105]⟩, .slice none 0 0, .int .i64 0, .int .i64 0,
  .int .u8 4, .string ⟨#[]⟩, .slice (some ⟨b + 1, 0, none⟩) 2 2, .int .i64 4, .int .i64 0,
  .int .u8 5, .string ⟨#[]⟩, .slice (some ⟨b + 1 + 1, 0, none⟩) 2 2, .int .i64 8, .int .i64 0,
  .int .u8 7, .string ⟨#[]⟩, .slice (some ⟨b + 1 + 1 + 1, 0, none⟩) 1 1, .int .i64 0, .int .i64 0,
  .int .u8 6, .string ⟨#[]⟩, .slice (some ⟨b + 1 + 1 + 1 + 1, 0, none⟩) 1 1, .int .i64 0, .int .i64 7,
  .int .u8 4, .string ⟨#[]⟩, .slice (some ⟨b + 1 + 1 + 1 + 1 + 1, 0, none⟩) 1 1, .int .i64 1, .int .i64 0]

theorem vals_block {W : World} {g : Nat} {cs : Array Value} {vs : List Vl} (h : W.heap[g]? = some (.cells cs 26 (0, 0))) (hc : ∀ (j : Nat) (v : Vl), vs[j]? = some v → cs[j * 2]? = some (.int .u8 v.k) ∧ cs[j * 2 + 1]? = some (.int .i64 v.n)) : Vals W (some ⟨g, 0, none⟩) vs := by
  intro j v hj
  obtain ⟨h1, h2⟩ := hc j v hj
  exact ⟨g, 0, rfl, by rw [Nat.zero_add, cell_of_row W g _ _ _ _ h]; exact h1, by rw [Nat.zero_add, cell_of_row W g _ _ _ _ h]; exact h2⟩

theorem store0 {W : World} {b : Nat} (h1 : W.heap[b + 1]? = some (.cells #[.int .u8 2, .int .i64 1, .int .u8 3, .int .i64 1] 26 (0, 0))) (h2 : W.heap[b + 1 + 1]? = some (.cells #[.int .u8 3, .int .i64 1, .int .u8 4, .int .i64 2] 26 (0, 0)))
    (h3 : W.heap[b + 1 + 1 + 1]? = some (.cells #[.int .u8 4, .int .i64 2] 26 (0, 0))) (h4 : W.heap[b + 1 + 1 + 1 + 1]? = some (.cells #[.int .u8 7, .int .i64 4] 26 (0, 0))) (h5 : W.heap[b + 1 + 1 + 1 + 1 + 1]? = some (.cells #[.int .u8 4, .int .i64 6] 26 (0, 0)))
    (h6 : W.heap[b + 1 + 1 + 1 + 1 + 1 + 1]? = some (.cells (cells0 b) 39 (0, 0))) : IsSt W (some ⟨b + 1 + 1 + 1 + 1 + 1 + 1, 0, none⟩) S0 := by
  have two : ∀ (x y : Vl) (j : Nat) (v : Vl), [x, y][j]? = some v → #[Value.int .u8 x.k, .int .i64 x.n, .int .u8 y.k, .int .i64 y.n][j * 2]? = some (.int .u8 v.k) ∧ #[Value.int .u8 x.k, .int .i64 x.n, .int .u8 y.k, .int .i64 y.n][j * 2 + 1]? = some (.int .i64 v.n) := by
    intro x y j v hj
    match j, hj with
    | 0, hj => simp at hj; subst hj; simp
    | 1, hj => simp at hj; subst hj; simp
  have one : ∀ (x : Vl) (j : Nat) (v : Vl), [x][j]? = some v → #[Value.int .u8 x.k, .int .i64 x.n][j * 2]? = some (.int .u8 v.k) ∧ #[Value.int .u8 x.k, .int .i64 x.n][j * 2 + 1]? = some (.int .i64 v.n) := by
    intro x j v hj
    match j, hj with
    | 0, hj => simp at hj; subst hj; simp
  intro j o hj
  have hc : ∀ i, W.cell? ⟨b + 1 + 1 + 1 + 1 + 1 + 1, 0 + i, none⟩ = (cells0 b)[i]? := fun i => by rw [Nat.zero_add, cell_of_row W _ _ _ _ _ h6]
  refine ⟨b + 1 + 1 + 1 + 1 + 1 + 1, 0, rfl, ?_⟩
  simp only [Nat.add_assoc 0, hc]
  match j, hj with
  | 0, hj => simp [S0] at hj; subst hj; exact ⟨rfl, rfl, ⟨none, 0, rfl, by intro j v hj; simp at hj, fun _ => rfl⟩, rfl, rfl⟩
  | 1, hj => simp [S0] at hj; subst hj; exact ⟨rfl, rfl, ⟨_, 2, rfl, vals_block h1 (two ⟨2, 1⟩ ⟨3, 1⟩), fun e => by cases e⟩, rfl, rfl⟩
  | 2, hj => simp [S0] at hj; subst hj; exact ⟨rfl, rfl, ⟨_, 2, rfl, vals_block h2 (two ⟨3, 1⟩ ⟨4, 2⟩), fun e => by cases e⟩, rfl, rfl⟩
  | 3, hj => simp [S0] at hj; subst hj; exact ⟨rfl, rfl, ⟨_, 1, rfl, vals_block h3 (one ⟨4, 2⟩), fun e => by cases e⟩, rfl, rfl⟩
  | 4, hj => simp [S0] at hj; subst hj; exact ⟨rfl, rfl, ⟨_, 1, rfl, vals_block h4 (one ⟨7, 4⟩), fun e => by cases e⟩, rfl, rfl⟩
  | 5, hj => simp [S0] at hj; subst hj; exact ⟨rfl, rfl, ⟨_, 1, rfl, vals_block h5 (one ⟨4, 6⟩), fun e => by cases e⟩, rfl, rfl⟩

end Go.Proofs.YtppjahnahomkeaaDoor
