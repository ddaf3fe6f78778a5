/- May a value be, may an object be: plainly; the document's val, held. -/
import Derived.Test.YtgokofomoachaabShForm
import Derived.Test.YtgokofomoachaabShRef
namespace Go.Proofs.Ytgokofomoachaab
set_option linter.unusedVariables false
set_option linter.unusedSimpArgs false
open Go.RowKit

variable {w : World}

/-- May a value be, but for what its object has? -/
def valP (S : List Om) (v : Vl) : Prop := (v.k = 0 → v.n = 0) ∧ (v.k = 1 → v.n = 0 ∨ v.n = 1) ∧ (3 ≤ v.k → leadO S v ≠ none)

/-- May all values be, and are they all cells, or none? -/
def heldP (S : List Om) (l : List Vl) (cells : Prop) : Prop := ∀ v ∈ l, valP S v ∧ (v.k = 7 ↔ cells)

/-- Are two values the same? -/
def sameP (S : List Om) (a b : Vl) : Prop := a.k = b.k ∧ (a.k = 0 ∨ a.n = b.n ∨ (a.k = 3 ∧ ∃ o o', leadO S a = some o ∧ leadO S b = some o' ∧ o.s = o'.s))

/-- No two keys are the same. -/
def keysP (S : List Om) (l : List Vl) : Prop := ∀ i j a b, l[2 * i]? = some a → l[2 * j]? = some b → j < i → ¬ sameP S a b

/-- May an object be, but for the objects of its values? -/
def objP (S : List Om) (o : Om) : Prop := formP o ∧ heldP S o.l (o.k = 6) ∧ (o.k = 5 → keysP S o.l)

theorem heldP_snoc {S : List Om} {l : List Vl} {v : Vl} {c : Prop} : heldP S (l ++ [v]) c ↔ heldP S l c ∧ valP S v ∧ (v.k = 7 ↔ c) := by
  unfold heldP
  constructor
  · intro h
    exact ⟨fun u hu => h u (by simp [hu]), h v (by simp)⟩
  · rintro ⟨h1, h2⟩ u hu
    rcases List.mem_append.1 hu with hu | hu
    · exact h1 u hu
    · simp at hu; subst hu; exact h2

end Go.Proofs.Ytgokofomoachaab
