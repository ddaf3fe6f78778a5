/- Which objects values lead to: gc's tellsObject, leads, held. -/
import Derived.Test.YtligpokpdahifaaMore
import Derived.Test.YtligpokpdahifaaGcMath
namespace Go.Proofs.Ytligpokpdahifaa
set_option linter.unusedVariables false
set_option linter.unusedSimpArgs false
open Go.RowKit

variable {n₀ bh b lim used : Nat} {vw vb : Value} {w : World} {M : List Ob}

def vv (k : Nat) (n : Int) : Value := .agg #[.int .u8 k, .int .i64 n]

theorem Srt.uniq {M : List Ob} {lo : Nat} (h : Srt lo M) {o q : Ob} (ho : o ∈ M) (hq : q ∈ M) (e : o.at_ = q.at_) : o = q := by
  induction M generalizing lo with
  | nil => cases ho
  | cons x r ih =>
    obtain ⟨h1, h2⟩ := h
    have hx : ∀ y ∈ r, x.at_ < y.at_ := fun y hy => by have := Srt.lo h2 y hy; unfold Ob.end_ at this; omega
    rcases List.mem_cons.1 ho with e1 | ho <;> rcases List.mem_cons.1 hq with e2 | hq
    · rw [e1, e2]
    · have := hx q hq; rw [← e1] at this; omega
    · have := hx o ho; rw [← e2] at this; omega
    · exact ih h2 ho hq

theorem below1 (w : World) (o : Obj) : Below w.heap.size w (w.alloc o) := (Below.refl _ _).alloc (Nat.le_refl _) _

theorem at_cases (M : List Ob) (i : Int) : (∀ o ∈ M, (o.at_ : Int) ≠ i) ∨ ∃ l o r, M = l ++ o :: r ∧ (o.at_ : Int) = i := by
  by_cases h : ∀ o ∈ M, (o.at_ : Int) ≠ i
  · exact .inl h
  · simp only [Classical.not_forall] at h
    obtain ⟨o, ho, e⟩ := h
    obtain ⟨l, r, rfl⟩ := List.append_of_mem ho
    exact .inr ⟨l, o, r, rfl, by simpa using e⟩

theorem leads_iff {M : List Ob} (hs : Srt 0 M) {o : Ob} (ho : o ∈ M) (k : Nat) : Leads M k o.at_ ↔ 3 ≤ k ∧ k ≤ 7 ∧ o.kind = k := by
  constructor
  · rintro ⟨h1, h2, q, hq, e, e2⟩
    obtain rfl := hs.uniq hq ho (by omega)
    exact ⟨h1, h2, e2⟩
  · rintro ⟨h1, h2, e⟩
    exact ⟨h1, h2, o, ho, rfl, e⟩

end Go.Proofs.Ytligpokpdahifaa
