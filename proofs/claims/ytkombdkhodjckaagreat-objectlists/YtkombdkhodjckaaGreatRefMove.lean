/- The document's heap (package gearboxref01) in memory; its calls that only look. -/
import Derived.Test.YtkombdkhodjckaaGreatModel
import Derived.Maps.AppendAt
import Derived.Deep.RegionHeld3
import Derived.Deep.AppendLies
import Derived.Deep.RegionLaw
import Derived.Deep.DrawnRows
namespace Go.Proofs.YtkombdkhodjckaaGreat
open Go.RowKit

/-- The cells of the document's objects: each with the slice of its words. -/
def rcells : List (Ob × Value) → List Value
  | [] => []
  | x :: r => .int .i64 x.1.at_ :: .int .u8 x.1.kind :: x.2 :: rcells r

theorem rcells_len : ∀ (R : List (Ob × Value)), (rcells R).length = R.length * 3
  | [] => rfl
  | x :: r => by simp [rcells, rcells_len r]; omega

theorem rcells_append : ∀ (R S : List (Ob × Value)), rcells (R ++ S) = rcells R ++ rcells S
  | [], _ => rfl
  | x :: r, S => by simp [rcells, rcells_append r S]

theorem rcells_get : ∀ (R : List (Ob × Value)) (j : Nat) (x : Ob × Value), R[j]? = some x → (rcells R)[j * 3]? = some (.int .i64 x.1.at_) ∧ (rcells R)[j * 3 + 1]? = some (.int .u8 x.1.kind) ∧ (rcells R)[j * 3 + 2]? = some x.2
  | [], j, x, h => by simp at h
  | y :: r, 0, x, h => by simp at h; subst h; simp [rcells]
  | y :: r, j + 1, x, h => by
    have := rcells_get r j x (by simpa using h)
    rw [show (j + 1) * 3 = j * 3 + 3 by omega]
    simpa [rcells] using this

namespace IsRf

variable {n₀ br all en : Nat} {vo : Value} {w : World} {R : List (Ob × Value)}

theorem row_some3 {w : World} {base e : Nat} {v : Value} {n : Nat} {xs : List Value} (h : w.ownsRow base e 3 v n xs) : ∃ p c, v = .slice p n c ∧ n ≤ c ∧ c ≤ maxLen ∧ (0 < n → ∃ g, p = some ⟨g, 0, none⟩) := by
  rcases h.2 with ⟨rfl, rfl⟩ | ⟨g, cap, cur, rfl, _, _, h1, h2, _⟩
  · exact ⟨none, 0, rfl, Nat.le_refl _, by unfold maxLen; omega, fun h => by omega⟩
  · exact ⟨_, _, rfl, h1, h2, fun _ => ⟨g, rfl⟩⟩

theorem row_type3 {w : World} {base e : Nat} {v : Value} {n : Nat} {xs : List Value} (h : w.ownsRow base e 3 v n xs) {k : Nat} (hk : v.ownBlock = some k) : ∃ cur, w.heap[k]? = some (.cells cur e (0, 0)) := by
  rcases h.2 with ⟨rfl, rfl⟩ | ⟨g, cap, cur, rfl, _, hg, _⟩
  · simp [Value.ownBlock] at hk
  · simp [Value.ownBlock] at hk; subst hk; exact ⟨cur, hg⟩

/-- The blocks of the document's heap. -/
def mine (br : Nat) (vo : Value) (R : List (Ob × Value)) (k : Nat) : Prop := k = br ∨ vo.ownBlock = some k ∨ ∃ x ∈ R, x.2.ownBlock = some k

theorem row_kept {w w' : World} {base e size : Nat} {v : Value} {n : Nat} {xs : List Value} (h : w.ownsRow base e size v n xs) (hk : ∀ k, v.ownBlock = some k → w'.heap[k]? = w.heap[k]?) : w'.ownsRow base e size v n xs := by
  refine ⟨h.1, ?_⟩
  rcases h.2 with hn | ⟨g, cap, cur, rfl, hb, hgg, rest⟩
  · exact .inl hn
  · exact .inr ⟨g, cap, cur, rfl, hb, by rw [hk g rfl]; exact hgg, rest⟩

end IsRf

variable {n₀ br all en : Nat} {vo : Value} {w : World} {R : List (Ob × Value)}

/-- Find: the first object that begins there. -/
def findR (i : Int) : List (Ob × Value) → Int
  | [] => -1
  | x :: r => if (x.1.at_ : Int) = i then 0 else if findR i r = -1 then -1 else findR i r + 1

theorem findR_none {i : Int} : ∀ {R : List (Ob × Value)}, (∀ x ∈ R, (x.1.at_ : Int) ≠ i) → findR i R = -1
  | [], _ => rfl
  | x :: r, h => by
    have ih := findR_none (R := r) (fun y hy => h y (List.mem_cons_of_mem _ hy))
    simp [findR, h x (by simp), ih]

theorem findR_at {i : Int} : ∀ {l r : List (Ob × Value)} {x : Ob × Value}, (∀ y ∈ l, (y.1.at_ : Int) ≠ i) → (x.1.at_ : Int) = i → findR i (l ++ x :: r) = l.length
  | [], _, _, _, h => by simp [findR, h]
  | y :: l, r, x, h, hx => by
    have ih := findR_at (l := l) (r := r) (fun z hz => h z (by simp [hz])) hx
    simp [findR, h y (by simp), ih]

end Go.Proofs.YtkombdkhodjckaaGreat

namespace Go.Proofs.YtkombdkhodjckaaGreat
open Go.RowKit

variable {n₀ br all en : Nat} {vo : Value} {w : World} {R : List (Ob × Value)}

theorem wform {w : World} {n₀ n : Nat} {v : Value} {xs : List Value} (h : w.ownsRow n₀ 98 1 v n xs) (hs : ∃ g, v.ownBlock = some g) : ∃ g c, v = .slice (some ⟨g, 0, none⟩) n c := by
  obtain ⟨g, hg⟩ := hs
  rcases h.2 with ⟨rfl, rfl⟩ | ⟨g', cap, cur, rfl, _⟩
  · simp [Value.ownBlock] at hg
  · exact ⟨g', cap, rfl⟩

end Go.Proofs.YtkombdkhodjckaaGreat

namespace Go.Proofs.YtkombdkhodjckaaGreat
open Go.RowKit

variable {n₀ br all en : Nat} {vo : Value} {w : World} {R : List (Ob × Value)}

/-- within: has an object that begins ahead of a word that word? -/
def withinR (t : Int) (x : Ob × Value) : Bool := decide ((x.1.at_ : Int) < t ∧ t ≤ (x.1.at_ : Int) + x.1.ws.length)

end Go.Proofs.YtkombdkhodjckaaGreat

namespace Go.Proofs.YtkombdkhodjckaaGreat
open Go.RowKit

attribute [local go_sem ↓] Go.wp_at_zero Go.wp_at_succ

variable {n₀ br all en : Nat} {vo : Value} {w : World} {R : List (Ob × Value)}

theorem makeWords (size : Nat) (hs : size ≤ 1048576) (W : World) :
    (Instr.makeSlice 136 (.int .i64 size) (.int .i64 size)).run Tryz.prog W = .ok (.slice (some ⟨W.heap.size, 0, none⟩) size size) (W.alloc (.cells (madeCells #[.int .u64 0] size) 98)) := by
  obtain ⟨i0, hi, hz0, hz1, hz2⟩ := info_parts info29
  have := run_make (P := Tryz.prog) W 136 98 i0 (.int .u64 0) Tryz.underlying136 hi hz0 .i64 .i64 size size (by omega) (Int.le_refl _) (by rw [hz2]; omega) (by omega)
  rw [hz1] at this
  simpa [Value.cells] using this

theorem below_drewN' {n : Nat} {w w1 : World} (h : Below n w w1) (q : Nat) : Below n w (w1.drewN q) := ⟨h.os, h.tape, h.output, h.size, h.block⟩

theorem madeCells_one (z : Value) (n : Nat) : (madeCells #[z] n).toList = List.replicate n z := by
  apply List.ext_getElem?
  intro j
  by_cases hj : j < n
  · simp [madeCells, hj, Nat.mod_one]
  · simp [madeCells, hj]

end Go.Proofs.YtkombdkhodjckaaGreat

namespace Go.Proofs.YtkombdkhodjckaaGreat
open Go.RowKit

attribute [local go_sem ↓] Go.wp_at_zero Go.wp_at_succ

variable {n₀ br all en : Nat} {vo : Value} {w : World} {R : List (Ob × Value)}

theorem row_mono' {w : World} {base base' size : Nat} {e : TypeId} {v : Value} {n : Nat} {xs : List Value} (h : w.ownsRow base e size v n xs) (hb : base' ≤ base) : w.ownsRow base' e size v n xs := by
  refine ⟨h.1, ?_⟩
  rcases h.2 with hn | ⟨g, cap, cur, hv, hg, rest⟩
  · exact .inl hn
  · exact .inr ⟨g, cap, cur, hv, Nat.le_trans hb hg, rest⟩

theorem rbelow_grown {W w1 : World} {m₀ : Nat} {row : Option Nat} (hg : W.grownBy w1 row) (hrow : ∀ q, row = some q → m₀ ≤ q) (hm : m₀ ≤ W.heap.size) : Below m₀ W w1 :=
  ⟨hg.os, hg.tape, hg.output, hg.size, fun k hk => hg.block k (by omega) (fun e => by have := hrow k e.symm; omega)⟩

/-- What stays behind a cut. -/
def ahR (t : Nat) (x : Ob × Value) : Bool := decide (x.1.at_ < t)

theorem below2 {w W : World} (hB : Below w.heap.size w W) (x y : Obj) : Below w.heap.size w ((W.alloc x).alloc y) := (hB.alloc hB.size _).alloc (by have := hB.size; simp; omega) _

/-- What becomes of an object at a move. -/
def mvOne (t f k j : Nat) (x : Ob × Value) : List (Ob × Value) := if j = k then [({ x.1 with at_ := t }, x.2)] else if x.1.at_ < t ∨ f < x.1.at_ then [x] else []

def mvR (t f k : Nat) : Nat → List (Ob × Value) → List (Ob × Value)
  | _, [] => []
  | j, x :: r => mvOne t f k j x ++ mvR t f k (j + 1) r

theorem mvR_append (t f k : Nat) : ∀ (l r : List (Ob × Value)) (j : Nat), mvR t f k j (l ++ r) = mvR t f k j l ++ mvR t f k (j + l.length) r
  | [], r, j => by simp [mvR]
  | x :: l, r, j => by simp [mvR, mvR_append t f k l r (j + 1)]; congr 1; omega

theorem mvOne_sub (t f k j : Nat) (x : Ob × Value) : ((mvOne t f k j x).map (fun x => (x.1.ws, x.2))).Sublist [(x.1.ws, x.2)] := by
  unfold mvOne; split
  · simp
  · split <;> simp

theorem mvR_sub (t f k : Nat) : ∀ (l : List (Ob × Value)) (j : Nat), ((mvR t f k j l).map (fun x => (x.1.ws, x.2))).Sublist (l.map (fun x => (x.1.ws, x.2)))
  | [], j => by simp [mvR]
  | x :: l, j => by
    rw [mvR, List.map_append, List.map_cons]
    exact (mvOne_sub t f k j x).append (mvR_sub t f k l (j + 1))

theorem mvR_bnd {t f k : Nat} (ht : t < 1048576) : ∀ {l : List (Ob × Value)} {j : Nat}, (∀ x ∈ l, x.1.at_ < 1048576 ∧ x.1.kind < 256) → ∀ x ∈ mvR t f k j l, x.1.at_ < 1048576 ∧ x.1.kind < 256
  | [], j, _ => by simp [mvR]
  | y :: l, j, h => by
    intro x hx
    rw [mvR, List.mem_append] at hx
    rcases hx with hx | hx
    · have hy := h y (by simp)
      unfold mvOne at hx
      split at hx
      · simp at hx; subst hx; exact ⟨ht, hy.2⟩
      · split at hx
        · simp at hx; subst hx; exact hy
        · simp at hx
    · exact mvR_bnd ht (fun x hx => h x (by simp [hx])) x hx

theorem mvR_len (t f k : Nat) (l : List (Ob × Value)) (j : Nat) : (mvR t f k j l).length ≤ l.length := by
  have := (mvR_sub t f k l j).length_le; simpa using this

end Go.Proofs.YtkombdkhodjckaaGreat
