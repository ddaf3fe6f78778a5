/- Copies of programs, and that they were left as they were. -/
import Derived.Test.YtnekcomkochmjaaGreatDoorVfFn
namespace Go.Proofs.YtnekcomkochmjaaGreatDoor
set_option linter.unusedVariables false
set_option linter.unusedSimpArgs false
open Go.RowKit

variable {w : World}

/-- A function and where its copied lists lie. -/
structure Ft where
  f : Fm
  s : Fs

def ftC (x : Ft) : List Value := fnC x.f x.s

theorem ftC_len (x : Ft) : (ftC x).length = 8 := rfl

def spFn : List Value := [.string ⟨#[115, 112, 97, 114, 101]⟩, .int .i64 0, .int .i64 0, .slice none 0 0, .slice none 0 0, .slice none 0 0, .slice none 0 0, .slice none 0 0]

/-- A copied program. -/
structure TwFns (base G C : Nat) (ts : List Ft) (w : World) : Prop where
  row : Twin 45 ftC 8 spFn base G C ts w
  fns : ∀ x ∈ ts, TwFn base x.f x.s w
  dist : ts.Pairwise (fun x y => x.s.ql ≠ y.s.ql)

theorem TwFns.below {base G C : Nat} {ts : List Ft} (h : TwFns base G C ts w) {w' : World} (hB : Below w.heap.size w w') : TwFns base G C ts w' :=
  ⟨h.row.below hB, fun x hx => (h.fns x hx).below hB, h.dist⟩

theorem TwFns.isFns {base G C : Nat} {ts : List Ft} (h : TwFns base G C ts w) : IsFns w (some ⟨G, 0, none⟩) (ts.map Ft.f) := by
  intro j f hj
  rw [List.getElem?_map] at hj
  cases hx : ts[j]? with
  | none => rw [hx] at hj; simp at hj
  | some x =>
    rw [hx] at hj; simp at hj; subst hj
    obtain ⟨b0, off, e, hlt, h1⟩ := h.row.rowAt ftC_len j x hx
    exact ⟨b0, off, x.s, e, hlt, h1, (h.fns x (List.mem_of_getElem? hx)).at⟩

theorem TwFns.cells {base G C : Nat} {ts : List Ft} (h : TwFns base G C ts w) {j : Nat} {x : Ft} (hj : ts[j]? = some x) :
    w.cell? ⟨G, j * 8, none⟩ = some (.string x.f.name) ∧ w.cell? ⟨G, j * 8 + 1, none⟩ = some (.int .i64 x.f.params) ∧ w.cell? ⟨G, j * 8 + 2, none⟩ = some (.int .i64 x.f.locals) ∧ w.cell? ⟨G, j * 8 + 3, none⟩ = some (.slice x.s.qc x.f.caps.length x.s.cc) ∧ w.cell? ⟨G, j * 8 + 4, none⟩ = some (.slice x.s.qk x.f.consts.length x.s.ck) ∧ w.cell? ⟨G, j * 8 + 5, none⟩ = some (.slice x.s.qi x.f.code.length x.s.ci) ∧ w.cell? ⟨G, j * 8 + 6, none⟩ = some (.slice x.s.ql x.f.lines.length x.s.cl) ∧ w.cell? ⟨G, j * 8 + 7, none⟩ = some (.slice x.s.qh x.f.hs.length x.s.ch) := by
  obtain ⟨b0, off, e, h1⟩ := (h.row.rowAt ftC_len).look (Below.refl _ _) hj
  simp at e
  obtain ⟨rfl, rfl⟩ := e
  simp only [Nat.zero_add] at h1
  exact ⟨h1 0 _ rfl, h1 1 _ rfl, h1 2 _ rfl, h1 3 _ rfl, h1 4 _ rfl, h1 5 _ rfl, h1 6 _ rfl, h1 7 _ rfl⟩

end Go.Proofs.YtnekcomkochmjaaGreatDoor
