/- Values that may be: what Same asks of them. -/
import Derived.Test.YtgokofomoachaaaGreatDoorPkAt
import Derived.Test.YtgokofomoachaaaGreatDoorPnPut2
import Derived.Test.YtgokofomoachaaaGreatDoorPbInts
namespace Go.Proofs.YtgokofomoachaaaGreatDoor
set_option linter.unusedVariables false
set_option linter.unusedSimpArgs false
open Go.RowKit

variable {w : World}

theorem sameOk_of {S : List Om} {v : Vl} (h : valP S v) : SameOk S v := ⟨fun h3 => h.2.2 (by omega), h.1⟩

theorem fine_may {S : List Om} {l : List Vl} (h : fineP S l) : mayL S l := fun v hv => (h v hv).2

end Go.Proofs.YtgokofomoachaaaGreatDoor

namespace Go.Proofs.YtgokofomoachaaaGreatDoor
set_option linter.unusedVariables false
set_option linter.unusedSimpArgs false
open Go.RowKit

variable {w : World}

/-- What two values come to. -/
def binP (S : List Om) (op : Nat) (a b : Vl) (x y : Om) (r : Bool) : Dv :=
  if op = 8 then ⟨S, tru r, ⟨#[]⟩, 0⟩ else if op = 9 then ⟨S, tru (!r), ⟨#[]⟩, 0⟩
  else if a.k = 2 ∧ b.k = 2 then ⟨S, (intsR op a.n b.n).v, (intsR op a.n b.n).t, (intsR op a.n b.n).n⟩
  else if a.k = 3 ∧ b.k = 3 then
    (if op = 1 then (if 4096 < (x.s ++ y.s).size then ⟨S, ⟨0, 0⟩, tGreat, 0⟩ else ⟨S ++ [txtO (x.s ++ y.s)], ⟨3, (S.length : Int) + 1⟩, ⟨#[]⟩, (wordsO (txtO (x.s ++ y.s)) : Nat)⟩)
     else if op = 6 then ⟨S, tru (Op.bytesLess x.s.toList y.s.toList), ⟨#[]⟩, 0⟩ else if op = 7 then ⟨S, tru (Op.bytesLess x.s.toList y.s.toList || x.s.toList == y.s.toList), ⟨#[]⟩, 0⟩ else refD S)
  else refD S

def BinR (S : List Om) (op : Nat) (a b : Vl) (D : Dv) : Prop := (¬ fineP S [a, b] ∧ D = refD S) ∨ (fineP S [a, b] ∧ ∃ x y r, (a.k = 3 → leadO S a = some x) ∧ (b.k = 3 → leadO S b = some y) ∧ (r = true ↔ essP S a = essP S b) ∧ D = binP S op a b x y r)

end Go.Proofs.YtgokofomoachaaaGreatDoor

namespace Go.Proofs.YtgokofomoachaaaGreatDoor
set_option linter.unusedVariables false
set_option linter.unusedSimpArgs false
open Go.RowKit

variable {w : World}

theorem leqS (a b : ByteArray) (W : World) : (binOp .leq 9 (.string a) (.string b)).run Tryz.prog W = .ok (.bool (Op.bytesLess a.toList b.toList || a.toList == b.toList)) W := by
  simp [binOp, Op.stringOp, go_sem]

end Go.Proofs.YtgokofomoachaaaGreatDoor
