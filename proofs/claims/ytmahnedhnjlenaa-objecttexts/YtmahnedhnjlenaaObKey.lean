/- Where a key stands: keyAt, of what is no text. -/
import Derived.Test.YtmahnedhnjlenaaObPut
namespace Go.Proofs.Ytmahnedhnjlenaa
set_option linter.unusedVariables false
set_option linter.unusedSimpArgs false
open Go.RowKit

variable {n₀ bh b lim used : Nat} {vw vb : Value} {w : World} {M : List Ob}

set_option maxRecDepth 20000 in
set_option maxHeartbeats 1000000 in
theorem keyAt1_odd (i k k' : Nat) (n n' : Int) (hi : i % 2 = 1) (hi2 : i ≤ 1048576) {Bat Bs : Nat} {a0 : Value} (w : World) (g1 : w.heap[Bat]? = some (.cells #[a0] 3 (0, 0))) :
    Calls Try.prog 75 #[.int .i64 i, .agg #[.int .u8 k', .int .i64 n'], .pointer (some ⟨Bat, 0, none⟩), .pointer (some ⟨Bs, 0, none⟩)] w fun e w' => e = .returned (.bool true) ∧ w' = (w.alloc (.cells #[.int .u8 k', .int .i64 n'] 26)).setCell ⟨Bat, 0, none⟩ (.int .i64 i) := by
  have k1 := alloc_keeps g1 (.cells #[.int .u8 k', .int .i64 n'] 26)
  have c1 := cell_row1 k1
  have f1 := frozen_of_row _ Bat 0 _ _ k1
  have hm : ((i : Int) % 2 == 0) = false := by simp; omega
  go_enter Try.func75, Try.ntmps75
  go_wp2
  go_ret
  exact ⟨rfl, rfl⟩

/-- A likeness of what is no text, in a box. -/
structure LikeBox (w : World) (Bs Ba : Nat) (k : Nat) (n : Int) : Prop where
  box : w.heap[Bs]? = some (.cells #[.func (.func 51) #[] #[.pointer (some ⟨Ba, 0, none⟩)]] 65 (0, 0))
  val : w.heap[Ba]? = some (.cells #[.int .u8 k, .int .i64 n] 26 (0, 0))

theorem LikeBox.below {Bs Ba k : Nat} {n : Int} (h : LikeBox w Bs Ba k n) {w' : World} (hB : Below w.heap.size w w') : LikeBox w' Bs Ba k n :=
  ⟨(hB.block _ (Array.getElem?_eq_some_iff.1 h.box).1).trans h.box, (hB.block _ (Array.getElem?_eq_some_iff.1 h.val).1).trans h.val⟩

theorem LikeBox.set {Bs Ba k : Nat} {n : Int} (h : LikeBox w Bs Ba k n) {Bat : Nat} {cur : Array Value} (g1 : w.heap[Bat]? = some (.cells cur 3 (0, 0))) (v : Value) : LikeBox (w.setCell ⟨Bat, 0, none⟩ v) Bs Ba k n :=
  ⟨(heap_setCell_other _ ⟨Bat, 0, none⟩ Bs _ (fun e => by have := h.box; simp only at e; rw [e, g1] at this; simp at this)).trans h.box, (heap_setCell_other _ ⟨Bat, 0, none⟩ Ba _ (fun e => by have := h.val; simp only at e; rw [e, g1] at this; simp at this)).trans h.val⟩

set_option maxRecDepth 20000 in
set_option maxHeartbeats 1000000 in
theorem keyAt1_even (i k k' : Nat) (n n' : Int) (hi : i % 2 = 0) (hi2 : i ≤ 1048576) {Bat Bs Ba : Nat} {a0 : Value} (w : World) (g1 : w.heap[Bat]? = some (.cells #[a0] 3 (0, 0))) (g2 : LikeBox w Bs Ba k n) :
    Calls Try.prog 75 #[.int .i64 i, .agg #[.int .u8 k', .int .i64 n'], .pointer (some ⟨Bat, 0, none⟩), .pointer (some ⟨Bs, 0, none⟩)] w fun e w' => e = .returned (.bool (!decide (k = k' ∧ n = n'))) ∧ Below (w.heap.size + 1) ((w.alloc (.cells #[.int .u8 k', .int .i64 n'] 26)).setCell ⟨Bat, 0, none⟩ (.int .i64 i)) w' := by
  have k1 := alloc_keeps g1 (.cells #[.int .u8 k', .int .i64 n'] 26)
  have c1 := cell_row1 k1
  have f1 := frozen_of_row _ Bat 0 _ _ k1
  have g3 := (g2.below (below1 w (.cells #[.int .u8 k', .int .i64 n'] 26))).set k1 (.int .i64 i)
  have c3 := cell_row1 g3.box
  have hw := heap_alloc_new w (.cells #[.int .u8 k', .int .i64 n'] 26)
  have hBat : w.heap.size ≠ Bat := fun e => by have := (Array.getElem?_eq_some_iff.1 g1).1; omega
  have ⟨c4, c5⟩ := cell_row2 ((heap_setCell_other _ ⟨Bat, 0, none⟩ w.heap.size (.int .i64 i) hBat).trans hw)
  have H1 := like3_in k k' n n' _ g3.val
  have hm : ((i : Int) % 2 == 0) = true := by simp; omega
  go_enter Try.func75, Try.ntmps75
  go_wp2_with (first
    | (go_at_call 51; refine H1.mono ?_; clear H1; rintro e w2 ⟨rfl, hB2⟩))
  go_ret
  refine ⟨?_, hB2.mono (by simp [World.setCell])⟩
  exact congrArg (fun b => Ending.returned (.bool b)) (by simp [Bool.decide_and, Bool.not_and])

/-- A key among values: the first, from a place on. -/
def KeyAt (ws : List Nat) (cnt : Nat) (k : Nat) (n : Int) (i : Nat) : Prop := i < cnt ∧ i % 2 = 0 ∧ (k = valK ws (2 * i) ∧ n = valN ws (2 * i)) ∧ ∀ j, j < i → j % 2 = 0 → ¬ (k = valK ws (2 * j) ∧ n = valN ws (2 * j))

def NoKey (ws : List Nat) (cnt : Nat) (k : Nat) (n : Int) : Prop := ∀ j, j < cnt → j % 2 = 0 → ¬ (k = valK ws (2 * j) ∧ n = valN ws (2 * j))

end Go.Proofs.Ytmahnedhnjlenaa
