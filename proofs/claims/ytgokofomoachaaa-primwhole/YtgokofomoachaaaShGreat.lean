/- great: is a store too great to be looked at? -/
import Derived.Test.YtgokofomoachaaaShTold
import Derived.Test.YtgokofomoachaaaShLead
namespace Go.Proofs.Ytgokofomoachaaa
set_option linter.unusedVariables false
set_option linter.unusedSimpArgs false
open Go.RowKit

variable {w : World}

/-- How great a store that came in may be. -/
structure Came (S : List Om) : Prop where
  len : S.length ≤ 2199023255552
  vals : ∀ o ∈ S, o.l.length ≤ 8796093022208
  str : ∀ o ∈ S, o.s.size ≤ 140737488355328

/-- A store that is not too great. -/
structure Small (S : List Om) : Prop where
  len : S.length ≤ 1048576
  vals : ∀ o ∈ S, o.l.length ≤ 100000
  str : ∀ o ∈ S, o.s.size ≤ 1048576

def sumL (S : List Om) : Nat := (S.map (fun o => o.l.length)).sum

theorem sumL_take {S : List Om} {j : Nat} {o : Om} (ho : S[j]? = some o) : sumL (S.take (j + 1)) = sumL (S.take j) + o.l.length := by
  unfold sumL
  rw [List.take_add_one, ho]; simp

theorem sumL_le {S : List Om} (h : ∀ o ∈ S, o.l.length ≤ 5000) : sumL S ≤ S.length * 5000 := by
  induction S with
  | nil => simp [sumL]
  | cons o r ih =>
    have := ih (fun x hx => h x (by simp [hx]))
    have := h o (by simp)
    simp only [sumL, List.map_cons, List.sum_cons, List.length_cons] at *
    omega

end Go.Proofs.Ytgokofomoachaaa
