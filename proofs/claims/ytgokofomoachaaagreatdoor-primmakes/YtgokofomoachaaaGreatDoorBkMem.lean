/- The book of stores: what it holds. -/
import Derived.Test.YtgokofomoachaaaGreatDoorPmMem
import Derived.Maps.AppendAt
import Derived.Deep.RegionHeld3
import Derived.Deep.AppendLies
import Derived.Deep.RegionLaw
import Derived.Deep.DrawnRows
namespace Go.Proofs.YtgokofomoachaaaGreatDoor
set_option linter.unusedVariables false
set_option linter.unusedSimpArgs false
open Go.RowKit

namespace Bk

theorem infoV_parts {P : Program} {t : TypeId} {z : Value} {s b : Nat} (h : (P.info? t).map (fun i => (i.zero, i.size, i.bytes)) = some (some z, s, b)) : ∃ i, P.info? t = some i ∧ i.zero = some z ∧ i.size = s ∧ i.bytes = b := by
  cases hq : P.info? t with
  | none => simp [hq] at h
  | some i => simp [hq] at h; exact ⟨i, rfl, h⟩

theorem row_formV {w : World} {base e s n : Nat} {v : Value} {xs : List Value} (h : w.ownsRow base e s v n xs) : ∃ p c, v = .slice p n c ∧ n ≤ c ∧ c ≤ maxLen ∧ (0 < n → ∃ g, p = some ⟨g, 0, none⟩) := by
  rcases h.2 with ⟨h1, h0⟩ | ⟨g, cap, cur, h1, _, _, h2, h3, _⟩
  · exact ⟨none, 0, by rw [h1, h0], by omega, by unfold maxLen; omega, by omega⟩
  · exact ⟨_, _, h1, h2, h3, fun _ => ⟨g, rfl⟩⟩

theorem row_belowV {w : World} {base e s n : Nat} {v : Value} {xs : List Value} (h : w.ownsRow base e s v n xs) {w' : World} (hB : Below w.heap.size w w') : w'.ownsRow base e s v n xs := row_kept h (fun k e => hB.block k (h.lt k e).2)

theorem below_drewV {n : Nat} {w w1 : World} (h : Below n w w1) : Below n w w1.drew := ⟨h.os, h.tape, h.output, h.size, h.block⟩

/-- A list that is held: the list, the one that it is grown to, its number, its length. -/
structure He where
  l : Value
  long : Value
  n : Nat
  len : Nat

def hcells : List He → List Value
  | [] => []
  | x :: r => x.l :: x.long :: .int .i64 x.n :: hcells r

theorem hcells_len : ∀ (H : List He), (hcells H).length = H.length * 3
  | [] => rfl
  | x :: r => by simp [hcells, hcells_len r]; omega

theorem hcells_append : ∀ (H S : List He), hcells (H ++ S) = hcells H ++ hcells S
  | [], _ => rfl
  | x :: r, S => by simp [hcells, hcells_append r S]

theorem hcells_get : ∀ (H : List He) (j : Nat) (x : He), H[j]? = some x → (hcells H)[j * 3]? = some x.l ∧ (hcells H)[j * 3 + 1]? = some x.long ∧ (hcells H)[j * 3 + 2]? = some (.int .i64 x.n)
  | [], j, x, h => by simp at h
  | y :: r, 0, x, h => by simp at h; subst h; simp [hcells]
  | y :: r, j + 1, x, h => by
    have := hcells_get r j x (by simpa using h)
    rw [show (j + 1) * 3 = j * 3 + 3 by omega]
    simpa [hcells] using this

/-- The blocks of a list that is held. -/
def He.mine (x : He) (k : Nat) : Prop := x.l.ownBlock = some k ∨ x.long.ownBlock = some k

def bookObj (n : Nat) (vp op : Value) : Obj := .cells #[.int .i64 n, .slice none 0 0, .slice none 0 0, .slice none 0 0, vp, op, .slice none 0 0, .slice none 0 0, .slice none 0 0, .slice none 0 0, .slice none 0 0, .slice none 0 0, .slice none 0 0, .slice none 0 0, .slice none 0 0, .slice none 0 0, .slice none 0 0, .slice none 0 0, .slice none 0 0, .slice none 0 0, .slice none 0 0] 77 (0, 0)

/-- What a call leaves of all blocks but those of S. -/
structure KStep (S : Nat → Prop) (w w' : World) : Prop where
  os : w'.os = w.os
  tape : w'.tape = w.tape
  output : w'.output = w.output
  size : w.heap.size ≤ w'.heap.size
  block : ∀ k, k < w.heap.size → ¬ S k → w'.heap[k]? = w.heap[k]?

theorem KStep.trans {S : Nat → Prop} {a b c : World} (h : KStep S a b) (g : KStep S b c) : KStep S a c :=
  ⟨g.os.trans h.os, g.tape.trans h.tape, g.output.trans h.output, Nat.le_trans h.size g.size, fun k hk hs => (g.block k (Nat.lt_of_lt_of_le hk h.size) hs).trans (h.block k hk hs)⟩

/-- The second step may turn what the first one made. -/
theorem KStep.trans' {S T : Nat → Prop} {a b c : World} (h : KStep S a b) (g : KStep T b c) (hT : ∀ k, T k → S k ∨ a.heap.size ≤ k) : KStep S a c :=
  ⟨g.os.trans h.os, g.tape.trans h.tape, g.output.trans h.output, Nat.le_trans h.size g.size, fun k hk hs => (g.block k (Nat.lt_of_lt_of_le hk h.size) (fun ht => by rcases hT k ht with e | e; exact hs e; omega)).trans (h.block k hk hs)⟩

theorem KStep.mono {S T : Nat → Prop} {a b : World} (h : KStep S a b) (hS : ∀ k, S k → T k) : KStep T a b := ⟨h.os, h.tape, h.output, h.size, fun k hk hs => h.block k hk (fun e => hs (hS k e))⟩

theorem KStep.of_below {S : Nat → Prop} {a b : World} (h : Below a.heap.size a b) : KStep S a b := ⟨h.os, h.tape, h.output, h.size, fun k hk _ => h.block k hk⟩

theorem KStep.of_grown {S : Nat → Prop} {a b : World} {row : Option Nat} (h : a.grownBy b row) (hS : ∀ k, row = some k → S k) : KStep S a b := ⟨h.os, h.tape, h.output, h.size, fun k hk hs => h.block k hk (fun e => hs (hS k e.symm))⟩

theorem KStep.refl (S : Nat → Prop) (w : World) : KStep S w w := ⟨rfl, rfl, rfl, Nat.le_refl _, fun _ _ _ => rfl⟩

theorem KStep.alloc {S : Nat → Prop} {a b : World} (h : KStep S a b) (o : Obj) : KStep S a (b.alloc o) := h.trans (KStep.of_below ((Below.refl _ _).alloc (Nat.le_refl _) _))

theorem KStep.drew {S : Nat → Prop} {a b : World} (h : KStep S a b) : KStep S a b.drew := ⟨h.os, h.tape, h.output, h.size, h.block⟩

theorem KStep.below {S : Nat → Prop} {a b : World} {B : Nat} (h : KStep S a b) (hS : ∀ k, S k → B ≤ k) (hB : B ≤ a.heap.size) : Below B a b := ⟨h.os, h.tape, h.output, h.size, fun k hk => h.block k (by omega) (fun e => by have := hS k e; omega)⟩

def Apt (H : List He) : Prop := H.Pairwise (fun x y => ∀ k, x.mine k → ¬ y.mine k)

def mineH (H : List He) (k : Nat) : Prop := ∃ x ∈ H, x.mine k


theorem addr_add (g k : Nat) : (⟨g, 0, none⟩ : Addr).add k = ⟨g, k, none⟩ := by cases k <;> simp [Addr.add]

theorem hcells_set (l r : List He) (x : He) (long : Value) : (hcells (l ++ x :: r)).set (l.length * 3 + 1) long = hcells (l ++ { x with long := long } :: r) := by
  rw [hcells_append, hcells_append, List.set_append_right _ _ (by rw [hcells_len]; omega), hcells_len, show l.length * 3 + 1 - l.length * 3 = 1 by omega]
  simp [hcells]

theorem unwanted_if {P : Program} {ops : Array Oper} {S : World → Prop} {o : Oper} {a : Act} {j d : Nat} (hg : o.guard = some (j, true)) (hd : ((ops[j]?).bind (·.dst)) = some d) (ht : a.tmps[d]? = some (.bool false)) : YieldsIf P ops S o undef a :=
  Or.inr ⟨by unfold Region.wanted yielded; rw [hg]; simp only [hd, Option.bind_some, ht]; rfl, rfl⟩

theorem take_at {P : Program} {md : Region.Mode} {ops : Array Oper} {Q : Exit → Act → World → Prop} {S : World → Prop} {i d : Nat} {oi : Oper} {v : Value} {fuel : Nat} {listed : Array Bool} {a : Act} {w : World} (hi : ops[i]? = some oi) (hd : oi.dst = some d)
    (hs : Region.noSelect ops = true) (hf : Region.free md ops listed i = true) (hr : (Region.ready md ops listed).contains i = true)
    (hQ : ∀ c a w, Q (.panic c) (a.put (some d) v) w → Q (.panic c) a w) (hy : YieldsIf P ops S oi v a) (hS : S w)
    (h : wpAnyH P md ops Q S fuel (listed.setIfInBounds i true) { a with tmps := a.tmps.setIfInBounds d v } w) : wpAnyH P md ops Q S (fuel + 1) listed a w :=
  wpAnyH_take hi hs hf hr (by rw [hd]; exact hQ) hy hS (by rw [hd]; exact h)

end Bk

end Go.Proofs.YtgokofomoachaaaGreatDoor
