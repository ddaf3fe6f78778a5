/- The store of the statements' own example, plainly. -/
import Derived.Test.YtppjahnahomkeaaDoorShText
import Derived.Test.YtppjahnahomkeaaDoorShCheck
namespace Go.Proofs.YtppjahnahomkeaaDoor
set_option linter.unusedVariables false
set_option linter.unusedSimpArgs false
open Go.RowKit

def S0 : List Om := [⟨3, ⟨#[104, 105]⟩, [], 0, 0⟩, ⟨4, ⟨#[]⟩, [⟨2, 1⟩, ⟨3, 1⟩], 4, 0⟩, ⟨5, ⟨#[]⟩, [⟨3, 1⟩, ⟨4, 2⟩], 8, 0⟩, ⟨7, ⟨#[]⟩, [⟨4, 2⟩], 0, 0⟩, ⟨6, ⟨#[]⟩, [⟨7, 4⟩], 0, 7⟩, ⟨4, ⟨#[]⟩, [⟨4, 6⟩], 1, 0⟩]

theorem text0_map : textB S0 ⟨5, 3⟩ = [123, 104, 105, 58, 32, 91, 49, 44, 32, 104, 105, 93, 125] := by decide +kernel

theorem text0_list : textB S0 ⟨4, 6⟩ = [91, 91, 91, 91, 91, 91, 91, 91, 91, 46, 46, 93, 93, 93, 93, 93, 93, 93, 93, 93] := by decide +kernel

theorem mem0 {P : Om → Prop} (h : ∀ o ∈ S0, P o) : ∀ o ∈ S0, P o := h

theorem form0 : ∀ o ∈ S0, formP o := by
  intro o ho
  simp only [S0, List.mem_cons, List.not_mem_nil, or_false] at ho
  rcases ho with rfl | rfl | rfl | rfl | rfl | rfl <;> simp [formP, roomP] <;> decide

theorem held0 : ∀ o ∈ S0, heldP S0 o.l (o.k = 6) := by
  intro o ho
  simp only [S0, List.mem_cons, List.not_mem_nil, or_false] at ho
  rcases ho with rfl | rfl | rfl | rfl | rfl | rfl <;> intro v hv <;> simp at hv
  · rcases hv with rfl | rfl <;> simp [valP, leadO, S0]
  · rcases hv with rfl | rfl <;> simp [valP, leadO, S0]
  · subst hv; simp [valP, leadO, S0]
  · subst hv; simp [valP, leadO, S0]
  · subst hv; simp [valP, leadO, S0]

theorem keys0 : ∀ o ∈ S0, o.k = 5 → keysP S0 o.l := by
  intro o ho hk
  simp only [S0, List.mem_cons, List.not_mem_nil, or_false] at ho
  rcases ho with rfl | rfl | rfl | rfl | rfl | rfl <;> simp at hk
  intro i j a b ha hb hlt
  have := (List.getElem?_eq_some_iff.1 ha).1
  simp at this
  omega

theorem obj0 : ∀ o ∈ S0, objP S0 o := fun o ho => ⟨form0 o ho, held0 o ho, keys0 o ho⟩

theorem check0 : checkP S0 ⟨6, 5⟩ := ⟨by simp [valP, leadO, S0], fun x o _ ho => obj0 o (objAt_mem ho).1⟩

theorem check0_not : ¬ checkP S0 ⟨3, 9⟩ := fun h => h.1.2.2 (by simp) (by simp [leadO, S0])

theorem reach0 (x : Int) : Reach S0 [⟨6, 5⟩, ⟨3, 1⟩] x ↔ x = 1 ∨ x = 2 ∨ x = 4 ∨ x = 5 := by
  constructor
  · intro h
    refine h (fun x => x = 1 ∨ x = 2 ∨ x = 4 ∨ x = 5) ?_ ?_
    · intro v hv _
      simp at hv
      rcases hv with rfl | rfl <;> simp
    · intro y o hy ho v hv hl
      rcases hy with rfl | rfl | rfl | rfl <;> simp [objAt, S0] at ho <;> subst ho <;> simp at hv
      · rcases hv with rfl | rfl
        · simp
        · simp
      · subst hv; simp
      · subst hv; simp
  · have h5 : Reach S0 [⟨6, 5⟩, ⟨3, 1⟩] 5 := Reach.root (v := ⟨6, 5⟩) (by simp) (by simp [leadO, S0])
    have h1 : Reach S0 [⟨6, 5⟩, ⟨3, 1⟩] 1 := Reach.root (v := ⟨3, 1⟩) (by simp) (by simp [leadO, S0])
    have h4 : Reach S0 [⟨6, 5⟩, ⟨3, 1⟩] 4 := Reach.next (v := ⟨7, 4⟩) h5 (o := ⟨6, ⟨#[]⟩, [⟨7, 4⟩], 0, 7⟩) (by simp [objAt, S0]) (by simp) (by simp [leadO, S0])
    have h2 : Reach S0 [⟨6, 5⟩, ⟨3, 1⟩] 2 := Reach.next (v := ⟨4, 2⟩) h4 (o := ⟨7, ⟨#[]⟩, [⟨4, 2⟩], 0, 0⟩) (by simp [objAt, S0]) (by simp) (by simp [leadO, S0])
    rintro (rfl | rfl | rfl | rfl)
    · exact h1
    · exact h2
    · exact h4
    · exact h5

theorem words0 : wordsR S0 [⟨6, 5⟩, ⟨3, 1⟩] = 22 := by
  unfold wordsR
  rw [sumIf_congr (g := fun y => decide (y = 1 ∨ y = 2 ∨ y = 4 ∨ y = 5)) (fun y => by
    have := reach0 y
    by_cases h : Reach S0 [⟨6, 5⟩, ⟨3, 1⟩] y
    · simp [h, this.1 h]
    · simp [h, mt this.2 h])]
  decide +kernel

theorem small0 : Small S0 := ⟨by decide, by intro o ho; simp only [S0, List.mem_cons, List.not_mem_nil, or_false] at ho; rcases ho with rfl | rfl | rfl | rfl | rfl | rfl <;> simp, by intro o ho; simp only [S0, List.mem_cons, List.not_mem_nil, or_false] at ho; rcases ho with rfl | rfl | rfl | rfl | rfl | rfl <;> decide⟩

theorem fits0 : ∀ o ∈ S0, o.fits := by
  intro o ho
  simp only [S0, List.mem_cons, List.not_mem_nil, or_false] at ho
  rcases ho with rfl | rfl | rfl | rfl | rfl | rfl <;> simp [Om.fits, Vl.fits]

theorem fair0 : Fair S0 := ⟨small0.len, small0.vals, small0.str, by intro o ho; simp only [S0, List.mem_cons, List.not_mem_nil, or_false] at ho; rcases ho with rfl | rfl | rfl | rfl | rfl | rfl <;> simp⟩

end Go.Proofs.YtppjahnahomkeaaDoor
