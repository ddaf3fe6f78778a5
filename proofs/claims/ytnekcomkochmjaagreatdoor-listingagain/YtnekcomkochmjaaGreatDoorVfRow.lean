/- Rows of numbers of one's own. -/
import Derived.Test.YtnekcomkochmjaaGreatDoorVfTwin
namespace Go.Proofs.YtnekcomkochmjaaGreatDoor
set_option linter.unusedVariables false
set_option linter.unusedSimpArgs false
open Go.RowKit

variable {w : World}

def iv (x : Int) : Value := .int .i64 x

/-- A row of numbers of one's own. -/
abbrev NumRow (base g c : Nat) (l : List Int) (w : World) : Prop := w.ownsRow base 3 1 (.slice (some ⟨g, 0, none⟩) l.length c) l.length (l.map iv)

theorem NumRow.at {base g c : Nat} {l : List Int} (h : NumRow base g c l w) {j : Nat} {x : Int} (hj : l[j]? = some x) : w.cell? ⟨g, j, none⟩ = some (.int .i64 x) := by
  have hlt := (List.getElem?_eq_some_iff.1 hj).1
  rw [World.ownsRow.cellAt h _ (by omega)]
  rw [List.getElem?_map, hj]; rfl

theorem NumRow.lt {base g c : Nat} {l : List Int} (h : NumRow base g c l w) : base ≤ g ∧ g < w.heap.size := World.ownsRow.lt h g rfl

theorem NumRow.kept {base g c : Nat} {l : List Int} (h : NumRow base g c l w) {w' : World} (hk : w'.heap[g]? = w.heap[g]?) : NumRow base g c l w' :=
  row_kept h (fun k e => by simp [Value.ownBlock] at e; subst e; exact hk)

theorem NumRow.obj {base g c : Nat} {l : List Int} (h : NumRow base g c l w) : ∃ cur, w.heap[g]? = some (.cells cur 3 (0, 0)) ∧ l.length ≤ cur.size ∧ cur.toList.take l.length = l.map iv := by
  rcases h.2 with ⟨e, _⟩ | ⟨g', cap, cur, e, _, hg, h1, _, h2, h3⟩
  · simp at e
  · simp at e
    obtain ⟨rfl, rfl⟩ := e
    simp at h2 h3
    exact ⟨cur, hg, by omega, h3⟩

theorem NumRow.frozen {base g c : Nat} {l : List Int} (h : NumRow base g c l w) (j : Nat) : w.frozen? ⟨g, j, none⟩ = false := by
  obtain ⟨cur, hc, _⟩ := h.obj
  exact frozen_of_row w g j _ _ hc

theorem NumRow.set {base g c : Nat} {l : List Int} (h : NumRow base g c l w) {j : Nat} (hj : j < l.length) (x : Int) : NumRow base g c (l.set j x) (w.setCell ⟨g, j, none⟩ (.int .i64 x)) := by
  rcases h.2 with ⟨e, _⟩ | ⟨g', cap, cur, e, hb, hg, h1, hm, h2, h3⟩
  · simp at e
  · simp at e
    obtain ⟨rfl, rfl⟩ := e
    simp at h2 h3
    have hs := heap_setCell_same w g j _ _ (.int .i64 x) hg
    refine ⟨by simp, .inr ⟨g, c, _, by simp, hb, hs, by simpa using h1, hm, by simpa using h2, ?_⟩⟩
    simp only [List.length_set, Nat.mul_one, List.map_set]
    rw [← h3]
    simp [iv, List.take_set]

/-- Below, but for one block. -/
structure But (g : Nat) (w w' : World) : Prop where
  size : w.heap.size ≤ w'.heap.size
  block : ∀ k, k < w.heap.size → k ≠ g → w'.heap[k]? = w.heap[k]?

end Go.Proofs.YtnekcomkochmjaaGreatDoor
