/- PrimWhole: the walk. -/
import Derived.Test.YtgokofomoachaabPmLives2
namespace Go.Proofs.Ytgokofomoachaab
set_option linter.unusedVariables false
set_option linter.unusedSimpArgs false
open Go.RowKit

variable {w : World}

def sE : List Om := []

/-- A number of 64 bits. -/
def I6 (a : Int) : Prop := -9223372036854775808 ≤ a ∧ a ≤ 9223372036854775807

theorem wrap_sub {a b : Int} (ha : I6 a) : wrap64 (wrap64 (a + b) - b) = a := by
  unfold I6 at ha
  unfold wrap64
  omega

theorem wrap_div {a b : Int} (ha : I6 a) : wrap64 (wrap64 (wrap64 (Int.tdiv a b) * b) + Int.tmod a b) = a := by
  unfold I6 at ha
  have h1 := Int.mul_tdiv_add_tmod a b
  have e : ∃ k : Int, wrap64 (Int.tdiv a b) = Int.tdiv a b + 18446744073709551616 * k := by
    unfold wrap64
    exact ⟨-((Int.tdiv a b + 9223372036854775808) / 18446744073709551616), by omega⟩
  obtain ⟨k, hk⟩ := e
  rw [hk, Int.add_mul, Int.mul_assoc, Int.mul_comm (Int.tdiv a b) b]
  generalize b * Int.tdiv a b = m at *
  generalize k * b = j at *
  generalize Int.tmod a b = r at *
  unfold wrap64
  omega

theorem fldD1 (W : World) (a d e : Value) (k n : Int) : (Instr.field 30 (.agg #[a, .int .u8 k, .int .i64 n, d, e]) 1).run Try.prog W = .ok (.agg #[.int .u8 k, .int .i64 n]) W := by kernel_rfl

theorem fldV1 (W : World) (k n : Int) : (Instr.field 28 (.agg #[.int .u8 k, .int .i64 n]) 1).run Try.prog W = .ok (.int .i64 n) W := by kernel_rfl

theorem neqVal (w : World) (a : Int) : (binOp .neq 28 (.agg #[.int .u8 2, .int .i64 a]) (.agg #[.int .u8 2, .int .i64 a])).run Try.prog w = .ok (.bool false) w := by
  go_simp

theorem eqlValI (w : World) (a : Int) : (binOp .eql 28 (.agg #[.int .u8 2, .int .i64 a]) (.agg #[.int .u8 2, .int .i64 a])).run Try.prog w = .ok (.bool true) w := by
  go_simp

end Go.Proofs.Ytgokofomoachaab
