/- Lines of listing, read: plainly. -/
import Derived.Test.YtnekcomkochmjaaGreatDoorLkMath
import Derived.Lib.IndexMore
import Derived.Lib.ParseIntB
namespace Go.Proofs.YtnekcomkochmjaaGreatDoor
set_option linter.unusedVariables false
set_option linter.unusedSimpArgs false

namespace Lp
open Lk

/-- A line that is read: what is left of it, and whether there was a fault. -/
structure Ln where
  rest : List UInt8
  wrong : Bool

/-- What it must go on with. -/
def Ln.eat (l : Ln) (s : List UInt8) : Ln := if Lib.hasPrefix l.rest s then ⟨l.rest.drop s.length, l.wrong⟩ else ⟨l.rest, true⟩

def Ln.want (l : Ln) (b : Bool) : Ln := ⟨l.rest, l.wrong || !b⟩

/-- What stands ahead of the next blank; what is left behind it. -/
def Ln.first (l : Ln) : List UInt8 := l.rest.takeWhile (· != 32)

def Ln.behind (l : Ln) : Ln := ⟨l.rest.dropWhile (· != 32), l.wrong⟩

def Ln.word (l : Ln) : List UInt8 := (l.eat [32]).first

def Ln.past (l : Ln) : Ln := (l.eat [32]).behind

/-- The number that a word tells; is it one? -/
def numP (w : List UInt8) : Int × Bool := match Lib.parseIntB 64 w with
  | .ok v => (v, decide (Lib.itoa v = w))
  | .range => (Lib.intSat 64 w, false)
  | _ => (0, false)

def Ln.num (l : Ln) : Int := (numP l.word).1

def Ln.numd (l : Ln) : Ln := l.past.want (numP l.word).2

theorem split_first (r : List UInt8) : (32 ∉ r.takeWhile (· != (32 : UInt8))) ∧ (r.dropWhile (· != (32 : UInt8)) = [] ∨ ∃ t, r.dropWhile (· != (32 : UInt8)) = 32 :: t) := by
  induction r with
  | nil => simp
  | cons c r ih =>
    by_cases h : c = 32
    · subst h; simp [List.takeWhile, List.dropWhile]
    · have hb : (c != 32) = true := by simp [h]
      simp only [List.takeWhile, List.dropWhile, hb]
      exact ⟨by simp [Ne.symm h, ih.1], ih.2⟩

theorem index_none {l : List UInt8} {c : UInt8} (h : c ∉ l) : Lib.indexByte l c = -1 := by
  induction l with
  | nil => rfl
  | cons d r ih =>
    simp only [List.mem_cons, not_or] at h
    simp [Lib.indexByte, Ne.symm h.1, ih h.2]

theorem index_at {a b : List UInt8} {c : UInt8} (h : c ∉ a) : Lib.indexByte (a ++ c :: b) c = a.length := by
  induction a with
  | nil => simp [Lib.indexByte]
  | cons d r ih =>
    simp only [List.mem_cons, not_or] at h
    have := ih h.2
    simp only [List.cons_append, Lib.indexByte, this]
    simp [Ne.symm h.1]

end Lp

end Go.Proofs.YtnekcomkochmjaaGreatDoor
