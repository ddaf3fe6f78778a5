/- drop. -/
import Derived.Test.YtkombdkhodjckaaAhead
namespace Go.Proofs.Ytkombdkhodjckaa
open Go.RowKit Go.Shelf

attribute [local go_sem] Oper.semAt_some

variable {n₀ b : Nat} {vw vb : Value} {w : World} {A : Ar}

def clr (bs : List Bool) (L : List Nat) : List Bool := L.foldl (fun s i => s.set i false) bs

@[simp] theorem clr_length : ∀ (L : List Nat) (bs : List Bool), (clr bs L).length = bs.length
  | [], _ => rfl
  | i :: r, bs => by rw [show clr bs (i :: r) = clr (bs.set i false) r from rfl, clr_length r]; simp
theorem clr_snoc (bs : List Bool) (L : List Nat) (i : Nat) : clr bs (L ++ [i]) = (clr bs L).set i false := by simp [clr, List.foldl_append]

theorem IsAr.abides (h : IsAr n₀ b vw vb w A) {w' : World} {row : Option Nat} (hg : w.grownBy w' row) (hr : ∀ r, row = some r → ∃ o : Obj, w.heap[r]? = some o ∧ o.isCells = false) : IsAr n₀ b vw vb w' A := by
  have key : ∀ (k : Nat) (cur : Array Value) (t : TypeId) (fr : Nat × Nat), w.heap[k]? = some (Obj.cells cur t fr) → w'.heap[k]? = w.heap[k]? := by
    intro k cur t fr hk
    refine hg.block k (Array.getElem?_eq_some_iff.1 hk).1 (fun e => ?_)
    obtain ⟨o, ho, hn⟩ := hr k e.symm
    rw [hk] at ho; cases ho; simp [Obj.isCells] at hn
  refine h.kept (key b _ _ _ h.blk) (fun k e => ?_) (fun k e => ?_)
  · obtain ⟨cur, hc⟩ := IsAr.row_type h.rw e; exact key k _ _ _ hc
  · obtain ⟨cur, hc⟩ := IsAr.row_type h.rb e; exact key k _ _ _ hc

theorem Step.abides {vw' vb' : Value} {w1 w2 : World} (h : Step b vw vb w vw' vb' w1) {row : Option Nat} (hg : w1.grownBy w2 row) (hr : ∀ r, row = some r → w.heap.size ≤ r) : Step b vw vb w vw' vb' w2 :=
  ⟨hg.os.trans h.os, hg.tape.trans h.tape, hg.output.trans h.output, Nat.le_trans h.size hg.size,
   fun k hk hb hw hv => (hg.block k (Nat.lt_of_lt_of_le hk h.size) (fun e => by have := hr k e.symm; omega)).trans (h.block k hk hb hw hv), h.fw, h.fb⟩

theorem take_all {L : List Nat} {s : Option Nat} (h : ∀ y ∈ L, some y ≠ s) : L.takeWhile (fun y => decide (some y ≠ s)) = L := by
  induction L with
  | nil => rfl
  | cons a r ih =>
    have ha : decide (some a ≠ s) = true := by simpa using h a (by simp)
    rw [List.takeWhile_cons, ha, if_pos rfl, ih (fun y hy => h y (List.mem_cons_of_mem _ hy))]

theorem take_pre {L q : List Nat} {x : Nat} {s : Option Nat} (hL : q ++ [x] <+: L) (hq : ∀ y ∈ q, some y ≠ s) (hx : some x = s) : L.takeWhile (fun y => decide (some y ≠ s)) = q := by
  obtain ⟨r, rfl⟩ := hL
  rw [List.append_assoc, List.takeWhile_append, take_all hq]
  simp [hx]

end Go.Proofs.Ytkombdkhodjckaa
