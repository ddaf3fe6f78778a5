/- What is asked of the main function's head. -/
import Derived.Test.YtpjgdbeekmoedaaDoorVfPGuards
namespace Go.Proofs.YtpjgdbeekmoedaaDoor
set_option linter.unusedVariables false
set_option linter.unusedSimpArgs false
open Go.RowKit

variable {w : World}

set_option maxRecDepth 20000 in
theorem mainMayBe_in {b0 o : Nat} {f : Fm} {s : Fs} (h : FnP w b0 o f s) :
    Calls Tryd.prog 26 #[.pointer (some ⟨b0, o, none⟩)] w fun e w' => e = .returned (.bool (decide (f.params = 0) && decide (f.caps.length = 0))) ∧ w' = w := by
  have c1 := h.cell 1 _ rfl
  have c3 := h.cell 3 _ rfl
  clear h
  by_cases q : f.params = 0
  · have e1 : (f.params == 0) = true := by simpa using q
    have e2 : (((f.caps.length : Nat) : Int) == 0) = decide (f.caps.length = 0) := by rw [Bool.eq_iff_iff]; simp
    rw [decide_eq_true q, Bool.true_and, ← e2]
    clear q e2
    go_enter Tryd.func26, Tryd.ntmps26
    go_wp2
    go_ret
    exact ⟨rfl, rfl⟩
  · have e1 : (f.params == 0) = false := by simpa using q
    rw [decide_eq_false q, Bool.false_and]
    clear q
    go_enter Tryd.func26, Tryd.ntmps26
    go_wp2
    go_ret
    exact ⟨rfl, rfl⟩

end Go.Proofs.YtpjgdbeekmoedaaDoor
