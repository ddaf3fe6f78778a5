/- Texts as bytes; what stands on a page. -/
import Derived.Test.YtnekcomkochmjaaGreatDoorVfMem
import Derived.Test.YtnekcomkochmjaaGreatDoorVfTwin
import Derived.Lib.AppendStr
import Derived.Lib.ItoaLen
namespace Go.Proofs.YtnekcomkochmjaaGreatDoor
set_option linter.unusedVariables false
set_option linter.unusedSimpArgs false
open Go.RowKit

namespace Lk

variable {w : World}

/-- A text of these bytes. -/
def bs (l : List UInt8) : ByteArray := ⟨l.toArray⟩

theorem bs_size (l : List UInt8) : (bs l).size = l.length := by show l.toArray.size = _; simp

theorem bs_list (l : List UInt8) : (bs l).data.toList = l := by simp [bs]

theorem bs_of (s : ByteArray) : bs s.data.toList = s := by simp [bs]

theorem bs_inj {a b : List UInt8} (h : bs a = bs b) : a = b := by rw [← bs_list a, h, bs_list]

theorem bs_eq {a b : List UInt8} : bs a = bs b ↔ a = b := ⟨bs_inj, fun h => by rw [h]⟩

theorem bs_app (a b : List UInt8) : bs a ++ bs b = bs (a ++ b) := by
  apply ByteArray.ext
  simp [bs]

theorem bs_get {l : List UInt8} {j : Nat} (h : j < (bs l).size) : l[j]? = some ((bs l)[j]'h) := by
  have h2 : j < l.length := by rw [bs_size] at h; exact h
  rw [List.getElem?_eq_getElem h2]
  rfl

end Lk

end Go.Proofs.YtnekcomkochmjaaGreatDoor

namespace Go.Proofs.YtnekcomkochmjaaGreatDoor
set_option linter.unusedVariables false
set_option linter.unusedSimpArgs false

namespace Lk

/-- A byte as it stands in quotes. -/
def esc (c : UInt8) : List UInt8 := if c = 34 ∨ c = 92 then [92, c] else if c = 10 then [92, 110] else [c]

/-- A text in quotes. -/
def quo (l : List UInt8) : List UInt8 := 34 :: (l.flatMap esc ++ [34])

/-- A thing of a line: a word (0), a text (1), a number (2: int, 3: int64). -/
structure Th where
  k : Nat
  l : List UInt8
  n : Int

def wd (l : List UInt8) : Th := ⟨0, l, 0⟩

def tx (l : List UInt8) : Th := ⟨1, l, 0⟩

def nm (n : Int) : Th := ⟨2, [], n⟩

def lo (n : Int) : Th := ⟨3, [], n⟩

def Th.say (t : Th) : List UInt8 := if t.k = 0 then t.l else if t.k = 1 then quo t.l else Lib.itoa t.n

/-- The things behind a line's first, a blank ahead of each. -/
def more : List Th → List UInt8
  | [] => []
  | t :: r => 32 :: (t.say ++ more r)

def said : List Th → List UInt8
  | [] => []
  | t :: r => t.say ++ more r

def lineP (l : List Th) : List UInt8 := said l ++ [10]

theorem more_snoc (l : List Th) (t : Th) : more (l ++ [t]) = more l ++ 32 :: t.say := by
  induction l with
  | nil => simp [more]
  | cons a r ih => simp [more, ih]

/-- What was said when one more thing has been told. -/
theorem said_snoc (l : List Th) (t : Th) (h : l ≠ []) : said (l ++ [t]) = said l ++ 32 :: t.say := by
  cases l with
  | nil => exact absurd rfl h
  | cons a r => simp [said, more_snoc]

/-- The words of the ops, by number; of the signs. -/
def opsL : List (List UInt8) := [[], [99, 111, 110, 115, 116], [110, 105, 108], [121, 101, 115], [110, 111], [108, 111, 97, 100], [115, 116, 111, 114, 101], [99, 101, 108, 108], [99, 101, 108, 108, 108, 111, 97, 100], [99, 101, 108, 108, 115, 116, 111, 114, 101], [117, 112], [117, 112, 115, 116, 111, 114, 101], [112, 111, 112], [100, 117, 112], [98, 105, 110], [110, 111, 116], [110, 101, 103], [108, 101, 110], [115, 104, 111, 119], [106, 117, 109, 112], [117, 110, 108, 101, 115, 115], [108, 111, 111, 112], [108, 105, 115, 116], [109, 97, 112], [103, 101, 116], [112, 117, 116], [102, 110], [99, 97, 108, 108], [114, 101, 116, 117, 114, 110], [116, 104, 114, 111, 119], [112, 114, 105, 110, 116]]

def binsL : List (List UInt8) := [[], [97, 100, 100], [115, 117, 98], [109, 117, 108], [100, 105, 118], [109, 111, 100], [108, 101, 115, 115], [109, 111, 115, 116], [115, 97, 109, 101], [117, 110, 108, 105, 107, 101]]

/-- Has an op's word a number? -/
def numb (op : Nat) : Bool := op == 1 || op == 5 || op == 6 || op == 7 || op == 8 || op == 9 || op == 10 || op == 11 || op == 19 || op == 20 || op == 21 || op == 22 || op == 23 || op == 26 || op == 27

def capT (c : Cp) : List Th := [wd (if c.up then [117, 112] else [99, 97, 112]), nm c.n]

def conT (c : Ck) : List Th := if c.k = 2 then [wd [105, 110, 116], lo c.n] else [wd [116, 101, 120, 116], tx c.s.data.toList]

def insT (ln : Int) (i : In) : List Th := if i.op = 14 then [nm ln, wd (opsL.getD i.op []), wd (binsL.getD i.a.toNat [])] else if numb i.op then [nm ln, wd (opsL.getD i.op []), nm i.a] else [nm ln, wd (opsL.getD i.op [])]

def hanT (h : Hn) : List Th := [wd [99, 97, 116, 99, 104], nm h.fr, nm h.to, nm h.at_, nm h.deep]

def headT (f : Fm) : List Th := [wd [102, 110], tx f.name.data.toList, nm f.params, nm f.locals]

/-- The lines of a function, as things. -/
def fnT (f : Fm) : List (List Th) := headT f :: (f.caps.map capT ++ (f.consts.map conT ++ (((f.lines.zip f.code).map fun x => insT x.1 x.2) ++ f.hs.map hanT)))

def fnP (f : Fm) : List UInt8 := (fnT f).flatMap lineP

/-- Code as text. -/
def textP (fs : List Fm) : List UInt8 := fs.flatMap fnP

/-- A thing that can be told. -/
def Th.fits (t : Th) : Prop := t.k < 4 ∧ -9223372036854775808 ≤ t.n ∧ t.n ≤ 9223372036854775807

theorem esc_len (c : UInt8) : (esc c).length ≤ 2 := by
  unfold esc
  split
  · simp
  · split <;> simp

theorem flat_esc_len (m : List UInt8) : (m.flatMap esc).length ≤ 2 * m.length := by
  induction m with
  | nil => simp
  | cons c r ih => simp only [List.flatMap_cons, List.length_append, List.length_cons]; have := esc_len c; omega

theorem quo_len (l : List UInt8) : (quo l).length ≤ 2 * l.length + 2 := by
  have := flat_esc_len l
  simp only [quo, List.length_cons, List.length_append, List.length_nil]; omega

theorem Th.say_len {t : Th} (h : t.fits) : t.say.length ≤ 2 * t.l.length + 21 := by
  unfold Th.say
  split
  · omega
  · split
    · have := quo_len t.l; omega
    · have := Lib.itoa_length_le t.n h.2.1 h.2.2; omega

theorem more_len : ∀ {l : List Th}, (∀ t ∈ l, t.fits) → (more l).length ≤ (l.map fun t => 2 * t.l.length + 22).sum
  | [], _ => by simp [more]
  | t :: r, h => by
    have ih := more_len (l := r) (fun x hx => h x (by simp [hx]))
    have := Th.say_len (h t (by simp))
    simp only [more, List.length_append, List.length_cons, List.map_cons, List.sum_cons]
    omega

theorem said_len {l : List Th} (h : ∀ t ∈ l, t.fits) : (said l).length ≤ (l.map fun t => 2 * t.l.length + 22).sum := by
  cases l with
  | nil => simp [said]
  | cons t r =>
    have ih := more_len (l := r) (fun x hx => h x (by simp [hx]))
    have := Th.say_len (h t (by simp))
    simp only [said, List.length_append, List.map_cons, List.sum_cons]
    omega

theorem lineP_len {l : List Th} (h : ∀ t ∈ l, t.fits) : (lineP l).length ≤ (l.map fun t => 2 * t.l.length + 22).sum + 1 := by
  have := said_len h
  simp only [lineP, List.length_append, List.length_cons, List.length_nil]; omega

end Lk

end Go.Proofs.YtnekcomkochmjaaGreatDoor
