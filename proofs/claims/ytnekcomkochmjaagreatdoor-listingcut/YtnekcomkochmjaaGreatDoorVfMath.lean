/- What may be of programs, plainly. -/
import Derived.Test.YtnekcomkochmjaaGreatDoorVfMem
namespace Go.Proofs.YtnekcomkochmjaaGreatDoor
set_option linter.unusedVariables false
set_option linter.unusedSimpArgs false

/-- How many values an instruction takes; leaves. -/
def takesP (i : In) : Int :=
  if i.op = 6 ∨ i.op = 9 ∨ i.op = 11 ∨ i.op = 12 ∨ i.op = 30 ∨ i.op = 20 ∨ i.op = 28 ∨ i.op = 29 then 1
  else if i.op = 13 then 1
  else if i.op = 14 ∨ i.op = 24 then 2
  else if i.op = 15 ∨ i.op = 16 ∨ i.op = 17 ∨ i.op = 18 then 1
  else if i.op = 22 then i.a
  else if i.op = 23 then 2 * i.a
  else if i.op = 27 then i.a + 1
  else if i.op = 25 then 3
  else 0

def leavesP (i : In) : Int :=
  if i.op = 1 ∨ i.op = 2 ∨ i.op = 3 ∨ i.op = 4 ∨ i.op = 5 ∨ i.op = 8 ∨ i.op = 10 ∨ i.op = 26 then 1
  else if i.op = 13 then 2
  else if i.op = 14 ∨ i.op = 24 then 1
  else if i.op = 15 ∨ i.op = 16 ∨ i.op = 17 ∨ i.op = 18 then 1
  else if i.op = 22 ∨ i.op = 23 ∨ i.op = 27 then 1
  else 0

/-- Is an instruction's A as its row says? -/
def numberP (nf : Nat) (f : Fm) (pc : Nat) (i : In) : Bool :=
  if i.op = 1 then decide (0 ≤ i.a ∧ i.a < f.consts.length)
  else if i.op = 5 ∨ i.op = 6 ∨ i.op = 7 ∨ i.op = 8 ∨ i.op = 9 then decide (0 ≤ i.a ∧ i.a < f.locals)
  else if i.op = 10 ∨ i.op = 11 then decide (0 ≤ i.a ∧ i.a < f.caps.length)
  else if i.op = 14 then decide (1 ≤ i.a ∧ i.a ≤ 9)
  else if i.op = 19 ∨ i.op = 20 then decide ((pc : Int) < i.a ∧ i.a < f.code.length)
  else if i.op = 21 then decide (0 ≤ i.a ∧ i.a ≤ (pc : Int))
  else if i.op = 22 ∨ i.op = 23 ∨ i.op = 27 then decide (0 ≤ i.a ∧ i.a ≤ 256)
  else if i.op = 26 then decide (1 ≤ i.a ∧ i.a < nf)
  else decide (0 < i.op ∧ i.op ≤ 30 ∧ i.a = 0)

def constP (c : Ck) : Bool := decide ((c.k = 2 ∧ c.s.size = 0) ∨ (c.k = 3 ∧ c.n = 0 ∧ c.s.size ≤ 4096))

def handP (n : Nat) (h : Hn) : Bool := decide (0 ≤ h.fr ∧ h.fr < h.to ∧ h.to ≤ h.at_ ∧ h.at_ < n ∧ 0 ≤ h.deep ∧ h.deep < 256)

/-- May a function's head be? -/
def headP (f : Fm) (main : Bool) : Bool :=
  decide (f.name.size ≤ 4096 ∧ 0 ≤ f.params ∧ f.params ≤ f.locals ∧ f.locals ≤ 64 ∧ (main = true → f.params ≤ 0 ∧ f.caps.length = 0) ∧
    f.caps.length ≤ 4096 ∧ f.consts.length ≤ 16384 ∧ f.hs.length ≤ 16384 ∧ 1 ≤ f.code.length ∧ f.code.length ≤ 16384 ∧ f.lines.length = f.code.length) &&
  f.consts.all constP && f.lines.all (fun n => decide (0 ≤ n)) && f.hs.all (handP f.code.length)

/-- Can a function be made here? -/
def capP (f : Fm) (c : Cp) : Bool := decide (0 ≤ c.n ∧ (c.up = true → c.n < f.caps.length) ∧ (c.up = false → c.n < f.locals))

def capsP (f made : Fm) : Bool := made.caps.all (capP f)

def endsP (o : Nat) : Bool := decide (o = 28 ∨ o = 29 ∨ o = 21)

/-- May the instruction at a place be? makers: which function makes each; -1: none. -/
def insP (fs : List Fm) (fn : Nat) (f : Fm) (mk : List Int) (pc : Nat) (i : In) : Bool :=
  numberP fs.length f pc i && (decide (pc + 1 ≠ f.code.length) || endsP i.op) &&
    (decide (i.op ≠ 26) || (decide (mk.getD i.a.toNat (-1) < 0 ∨ mk.getD i.a.toNat (-1) = fn) && match fs[i.a.toNat]? with | some made => capsP f made | none => false))

def mkP (fn : Nat) (mk : List Int) (i : In) : List Int := if i.op = 26 then mk.set i.a.toNat fn else mk

/-- The first place from pc on at which an instruction may not be; and the makers. -/
def codeP (fs : List Fm) (fn : Nat) (f : Fm) : List In → Nat → List Int → Option Nat × List Int
  | [], _, mk => (none, mk)
  | i :: r, pc, mk => if insP fs fn f mk pc i then codeP fs fn f r (pc + 1) (mkP fn mk i) else (some pc, mk)

def nextsP (i : In) (pc : Nat) : List Nat :=
  if i.op = 28 ∨ i.op = 29 then [] else if i.op = 19 ∨ i.op = 21 then [i.a.toNat] else if i.op = 20 then [pc + 1, i.a.toNat] else [pc + 1]

/-- Depths that are told, one behind the other; no: one was told another ahead. -/
def tellP (told : List Int) (pc : Nat) (d : Int) : Option (List Int) :=
  if 0 ≤ told.getD pc (-1) ∧ told.getD pc (-1) ≠ d then none else some (told.set pc d)

def tellsP : List (Nat × Int) → List Int → Option (List Int)
  | [], told => some told
  | x :: r, told => match tellP told x.1 x.2 with | some t => tellsP r t | none => none

def guards (f : Fm) (pc : Nat) : List Hn := f.hs.filter (fun h => decide (h.fr ≤ (pc : Int) ∧ (pc : Int) < h.to))

/-- All that is told when a place is taken. -/
def tellings (f : Fm) (pc : Nat) (i : In) (d : Int) : List (Nat × Int) :=
  (guards f pc).map (fun h => (h.at_.toNat, h.deep + 1)) ++ (nextsP i pc).map (fun q => (q, d - takesP i + leavesP i))

def stepP (f : Fm) (told : List Int) (pc : Nat) : Option (List Int) :=
  match f.code[pc]? with
  | none => none
  | some i =>
    let d := told.getD pc (-1)
    if takesP i > d ∨ d - takesP i + leavesP i > 256 ∨ (i.op = 21 ∧ d ≠ 0) ∨ (guards f pc).any (fun h => decide (h.deep > d)) = true then none
    else tellsP (tellings f pc i d) told

/-- The least place from pc on that was told and not taken. -/
def leastP (told : List Int) (taken : List Bool) : Nat → Nat → Option Nat
  | 0, _ => none
  | n + 1, pc => if taken.getD pc true = false ∧ 0 ≤ told.getD pc (-1) then some pc else leastP told taken n (pc + 1)

/-- All places, the least first: what was told, or the first fault. -/
def runP (f : Fm) : Nat → List Int → List Bool → Except Nat (List Int)
  | 0, told, _ => .ok told
  | n + 1, told, taken => match leastP told taken f.code.length 0 with
    | none => .ok told
    | some pc => match stepP f told pc with
      | none => .error pc
      | some t => runP f n t (taken.set pc true)

def depthsP (f : Fm) : Except Nat (List Int) := runP f f.code.length ((List.replicate f.code.length (-1)).set 0 0) (List.replicate f.code.length false)

/-- The first fault of functions from fn on; the makers. -/
def fnsP (fs : List Fm) : List Fm → Nat → List Int → Option (Nat × Nat) × List Int
  | [], _, mk => (none, mk)
  | f :: r, fn, mk =>
    if headP f (decide (fn = 0)) then
      match codeP fs fn f f.code 0 mk with
      | (some pc, mk') => (some (fn, pc), mk')
      | (none, mk') => match depthsP f with
        | .error pc => (some (fn, pc), mk')
        | .ok _ => fnsP fs r (fn + 1) mk'
    else (some (fn, 0), mk)

/-- The first function from fn on that has caps and that nobody makes. -/
def loneP : List Fm → Nat → List Int → Option Nat
  | [], _, _ => none
  | f :: r, fn, mk => if 0 < f.caps.length ∧ mk.getD fn (-1) < 0 then some fn else loneP r (fn + 1) mk

/-- Check: the function, the place, the error. -/
def checkV (fs : List Fm) : Nat × Nat × Nat :=
  if fs.length = 0 ∨ 256 < fs.length then (0, 0, 8)
  else match fnsP fs fs 0 (List.replicate fs.length (-1)) with
    | (some (fn, pc), _) => (fn, pc, 8)
    | (none, mk) => match loneP fs 0 mk with
      | some fn => (fn, 0, 8)
      | none => (0, 0, 0)

end Go.Proofs.YtnekcomkochmjaaGreatDoor
