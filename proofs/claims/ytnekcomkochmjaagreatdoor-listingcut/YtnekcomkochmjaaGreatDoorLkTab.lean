/- The table of powers of ten. -/
import Derived.Test.YtnekcomkochmjaaGreatDoorLkMath
import Derived.Test.YtnekcomkochmjaaGreatDoorShelf
import Derived.Lib.ItoaLen
namespace Go.Proofs.YtnekcomkochmjaaGreatDoor
set_option linter.unusedVariables false
set_option linter.unusedSimpArgs false
open Go.RowKit

theorem tabG : ∃ g, Tryz.prog.globalNamed "internal/strconv.uint64pow10" = some g := by
  cases h : Tryz.prog.globalNamed "internal/strconv.uint64pow10" with
  | some g => exact ⟨g, rfl⟩
  | none => exact absurd h (by intro h; have : (Tryz.prog.globalNamed "internal/strconv.uint64pow10").isSome = true := by kernel_rfl
                               rw [h] at this; cases this)

/-- The table of powers of ten lies as the library lays it. -/
def Tab (w : World) : Prop := Lib.TabIs Tryz.prog w "internal/strconv.uint64pow10" .u64 Lib.pow10Tab

theorem Tab.below {w0 w : World} (h : Tab w0) (hB : Below w0.heap.size w0 w) : Tab w := by
  obtain ⟨g, hg⟩ := tabG
  unfold Tab Lib.TabIs World.var? at *
  rw [hg] at h ⊢
  simp only [Option.bind_some, Option.bind_eq_bind] at h ⊢
  by_cases hl : g < w0.heap.size
  · rw [hB.block g hl]; exact h
  · rw [Array.getElem?_eq_none (by omega)] at h
    simp at h

end Go.Proofs.YtnekcomkochmjaaGreatDoor
