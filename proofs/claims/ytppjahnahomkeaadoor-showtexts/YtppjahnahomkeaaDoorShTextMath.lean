/- A value's text, plainly. -/
import Derived.Test.YtppjahnahomkeaaDoorShMem
import Derived.Lib.ItoaNum
namespace Go.Proofs.YtppjahnahomkeaaDoor
set_option linter.unusedVariables false
set_option linter.unusedSimpArgs false

def sepT : List UInt8 := [44, 32]

def colT : List UInt8 := [58, 32]

def itemsT (g : Vl → List UInt8) (l : List Vl) : List UInt8 := l.zipIdx.flatMap (fun x => (if x.2 = 0 then [] else sepT) ++ g x.1)

theorem itemsT_snoc (g : Vl → List UInt8) (l : List Vl) (v : Vl) : itemsT g (l ++ [v]) = itemsT g l ++ ((if l.length = 0 then [] else sepT) ++ g v) := by
  unfold itemsT
  rw [List.zipIdx_append, List.flatMap_append]
  simp

def pairsOf : List Vl → List (Vl × Vl)
  | [] => []
  | [a] => [(a, ⟨0, 0⟩)]
  | a :: b :: r => (a, b) :: pairsOf r

def pairsT (g : Vl → List UInt8) (l : List (Vl × Vl)) : List UInt8 := l.zipIdx.flatMap (fun x => (if x.2 = 0 then [] else sepT) ++ (g x.1.1 ++ (colT ++ g x.1.2)))

theorem pairsT_snoc (g : Vl → List UInt8) (l : List (Vl × Vl)) (v : Vl × Vl) : pairsT g (l ++ [v]) = pairsT g l ++ ((if l.length = 0 then [] else sepT) ++ (g v.1 ++ (colT ++ g v.2))) := by
  unfold pairsT
  rw [List.zipIdx_append, List.flatMap_append]
  simp

theorem pairsOf_get : ∀ (l : List Vl) (i : Nat), (pairsOf l)[i]? = (l[2 * i]?).map (fun a => (a, (l[2 * i + 1]?).getD ⟨0, 0⟩))
  | [], i => by simp [pairsOf]
  | [a], 0 => rfl
  | [a], i + 1 => by simp [pairsOf]
  | a :: b :: r, 0 => rfl
  | a :: b :: r, i + 1 => by
    have := pairsOf_get r i
    rw [show 2 * (i + 1) = 2 * i + 2 by omega]
    simpa [pairsOf] using this

theorem pairsOf_len : ∀ (l : List Vl), 2 * (pairsOf l).length = l.length + l.length % 2
  | [] => rfl
  | [a] => rfl
  | a :: b :: r => by have := pairsOf_len r; simp [pairsOf]; omega

/-- A list's or a map's text, by its values'. -/
def rowT (g : Vl → List UInt8) (o : Om) : List UInt8 := if o.k = 4 then [91] ++ (itemsT g o.l ++ [93]) else [123] ++ (pairsT g (pairsOf o.l) ++ [125])

/-- A value's text, by its row's. -/
def txtW (S : List Om) (R : Om → List UInt8) (v : Vl) : List UInt8 :=
  if v.k = 0 then [110, 105, 108]
  else if v.k = 1 then (if v.n = 1 then [121, 101, 115] else [110, 111])
  else if v.k = 2 then Lib.itoa v.n
  else match leadO S v with
    | none => [63]
    | some o => if o.k = 3 then o.s.data.toList else if o.k = 4 ∨ o.k = 5 then R o else if o.k = 6 then [102, 110, 32] ++ Lib.itoa o.fn else [63]

/-- A value's text, so many rows within it. -/
def txtV (S : List Om) : Nat → Vl → List UInt8
  | 0 => txtW S (fun _ => [46, 46])
  | f + 1 => txtW S (rowT (txtV S f))

end Go.Proofs.YtppjahnahomkeaaDoor
