/- TwinVals and LeftVals: a copy of values with room behind, and that it was left as it was. -/
import Derived.Test.YtgokofomoachaaaGreatDoorShTold
namespace Go.Proofs.YtgokofomoachaaaGreatDoor
set_option linter.unusedVariables false
set_option linter.unusedSimpArgs false
open Go.RowKit

variable {w : World}

/-- The copy. -/
def TwinAt (base : Nat) (g c : Nat) (vs : List Vl) (w : World) : Prop := w.ownsRow base 27 2 (.slice (some ⟨g, 0, none⟩) (vs.length + 1) c) (vs.length + 1) (vcells (vs ++ [⟨0, 7777⟩]))

theorem TwinAt.vals {base g c : Nat} {vs : List Vl} (h : TwinAt base g c vs w) : Vals w (some ⟨g, 0, none⟩) vs := by
  intro j v hj
  have hlt := (List.getElem?_eq_some_iff.1 hj).1
  obtain ⟨h1, h2⟩ := vcells_get (vs ++ [⟨0, 7777⟩]) j v (by rw [List.getElem?_append_left hlt]; exact hj)
  refine ⟨g, 0, rfl, ?_, ?_⟩
  · rw [Nat.zero_add, h.cellAt _ (by omega)]; exact h1
  · rw [Nat.zero_add, h.cellAt _ (by omega)]; exact h2

end Go.Proofs.YtgokofomoachaaaGreatDoor

namespace Go.Proofs.YtgokofomoachaaaGreatDoor
set_option linter.unusedVariables false
set_option linter.unusedSimpArgs false
open Go.RowKit

variable {w : World}

theorem TwinAt.kept {base g c : Nat} {vs : List Vl} (h : TwinAt base g c vs w) {w' : World} (hk : w'.heap[g]? = w.heap[g]?) : TwinAt base g c vs w' :=
  row_kept h (fun k e => by simp [Value.ownBlock] at e; subst e; exact hk)

theorem TwinAt.lt {base g c : Nat} {vs : List Vl} (h : TwinAt base g c vs w) : base ≤ g ∧ g < w.heap.size := World.ownsRow.lt (show w.ownsRow base 27 2 (.slice (some ⟨g, 0, none⟩) (vs.length + 1) c) (vs.length + 1) (vcells (vs ++ [⟨0, 7777⟩])) from h) g rfl

theorem TwinAt.below {base g c : Nat} {vs : List Vl} (h : TwinAt base g c vs w) {w' : World} (hB : Below w.heap.size w w') : TwinAt base g c vs w' := h.kept (hB.block g h.lt.2)

theorem TwinAt.obj {base g c : Nat} {vs : List Vl} (h : TwinAt base g c vs w) : ∃ cur, w.heap[g]? = some (.cells cur 27 (0, 0)) := row_obj h rfl

/-- An object and where its copied values lie. -/
structure Ot where
  o : Om
  g : Nat
  c : Nat

def ocell (x : Ot) : List Value := [.int .u8 x.o.k, .string x.o.s, .slice (some ⟨x.g, 0, none⟩) x.o.l.length x.c, .int .i64 x.o.room, .int .i64 x.o.fn]

def ocells : List Ot → List Value
  | [] => []
  | x :: r => ocell x ++ ocells r

theorem ocells_get : ∀ (l : List Ot) (j : Nat) (x : Ot) (t : List Value), l[j]? = some x → ∀ i, i < 5 → (ocells l ++ t)[j * 5 + i]? = (ocell x)[i]?
  | [], j, x, t, h => by simp at h
  | u :: r, 0, x, t, h => by
    simp at h; subst h
    intro i hi
    simp only [ocells, List.append_assoc]
    rw [List.getElem?_append_left (by simp [ocell]; omega)]
    congr 1; omega
  | u :: r, j + 1, x, t, h => by
    intro i hi
    have := ocells_get r j x t (by simpa using h) i hi
    rw [← this]
    simp only [ocells, List.append_assoc]
    rw [List.getElem?_append_right (by simp [ocell]; omega)]
    congr 1
    simp [ocell]; omega

def spareO : List Value := [.int .u8 0, .string ⟨#[115, 112, 97, 114, 101]⟩, .slice none 0 0, .int .i64 0, .int .i64 0]

/-- A copied store. -/
structure TwinSt (base G C : Nat) (ts : List Ot) (w : World) : Prop where
  row : w.ownsRow base 96 5 (.slice (some ⟨G, 0, none⟩) (ts.length + 1) C) (ts.length + 1) (ocells ts ++ spareO)
  vals : ∀ x ∈ ts, TwinAt base x.g x.c x.o.l w

theorem TwinSt.below {base G C : Nat} {ts : List Ot} (h : TwinSt base G C ts w) {w' : World} (hB : Below w.heap.size w w') : TwinSt base G C ts w' :=
  ⟨row_below h.row hB, fun x hx => (h.vals x hx).below hB⟩

theorem TwinSt.cells {base G C : Nat} {ts : List Ot} (h : TwinSt base G C ts w) {j : Nat} {x : Ot} (hj : ts[j]? = some x) :
    w.cell? ⟨G, j * 5, none⟩ = some (.int .u8 x.o.k) ∧ w.cell? ⟨G, j * 5 + 1, none⟩ = some (.string x.o.s) ∧ w.cell? ⟨G, j * 5 + 2, none⟩ = some (.slice (some ⟨x.g, 0, none⟩) x.o.l.length x.c) ∧ w.cell? ⟨G, j * 5 + 3, none⟩ = some (.int .i64 x.o.room) ∧ w.cell? ⟨G, j * 5 + 4, none⟩ = some (.int .i64 x.o.fn) := by
  have hlt := (List.getElem?_eq_some_iff.1 hj).1
  have hg := ocells_get ts j x spareO hj
  refine ⟨?_, ?_, ?_, ?_, ?_⟩
  · rw [h.row.cellAt _ (by omega)]; have := hg 0 (by omega); simpa [ocell] using this
  · rw [h.row.cellAt _ (by omega), hg 1 (by omega)]; rfl
  · rw [h.row.cellAt _ (by omega), hg 2 (by omega)]; rfl
  · rw [h.row.cellAt _ (by omega), hg 3 (by omega)]; rfl
  · rw [h.row.cellAt _ (by omega), hg 4 (by omega)]; rfl

theorem TwinSt.isSt {base G C : Nat} {ts : List Ot} (h : TwinSt base G C ts w) : IsSt w (some ⟨G, 0, none⟩) (ts.map Ot.o) := by
  intro j o hj
  rw [List.getElem?_map] at hj
  cases hx : ts[j]? with
  | none => rw [hx] at hj; simp at hj
  | some x =>
    rw [hx] at hj; simp at hj; subst hj
    obtain ⟨h0, h1, h2, h3, h4⟩ := h.cells hx
    refine ⟨G, 0, rfl, by simpa using h0, by simpa using h1, ⟨_, x.c, by simpa using h2, (h.vals x (List.mem_of_getElem? hx)).vals, fun e => by cases e⟩, by simpa using h3, by simpa using h4⟩

end Go.Proofs.YtgokofomoachaaaGreatDoor
