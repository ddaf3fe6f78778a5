/- lastAhead. -/
import Derived.Test.YtkombdkhodjckaaIter
namespace Go.Proofs.Ytkombdkhodjckaa
open Go.RowKit Go.Shelf

attribute [local go_sem] Oper.semAt_some

variable {n₀ b : Nat} {vw vb : Value} {w : World} {A : Ar}

theorem cell_new_l (w : World) (v : Value) (t : TypeId) : (w.alloc (.cells #[v] t)).cell? ⟨w.heap.size, 0, none⟩ = some v ∧ (w.alloc (.cells #[v] t)).frozen? ⟨w.heap.size, 0, none⟩ = false :=
  ⟨by rw [cell_of_row _ w.heap.size 0 _ _ _ (heap_alloc_new w _)]; rfl, frozen_of_row _ w.heap.size 0 _ _ (heap_alloc_new w _)⟩

theorem cell_alloc_l {w : World} {a : Addr} {v : Value} (o : Obj) (h : w.cell? a = some v) : (w.alloc o).cell? a = some v :=
  (World.cell?_of_block (Below.heap_alloc w o a.block (World.block_lt_of_cell? w a h))).trans h

theorem frozen_alloc_l {w : World} {a : Addr} {v : Value} (o : Obj) (h : w.cell? a = some v) (hf : w.frozen? a = false) : (w.alloc o).frozen? a = false :=
  (World.frozen?_of_block (Below.heap_alloc w o a.block (World.block_lt_of_cell? w a h))).trans hf

theorem fins {M : Nat} : ∀ (L : List Nat), (∀ i ∈ L, i < M) → ∃ xs : List (Fin M), xs.map (·.val) = L
  | [], _ => ⟨[], rfl⟩
  | i :: r, h => by
    obtain ⟨xs, hx⟩ := fins r (fun j hj => h j (List.mem_cons_of_mem _ hj))
    exact ⟨⟨i, h i (by simp)⟩ :: xs, by simp [hx]⟩

theorem KpW.putObj {Ba Bx : Nat} {S : Nat} (hb : b < S) (hv : ∀ k, vw.ownBlock = some k → k < S) (ha : Ba < S) (hx : Bx < S) (W : World) (l : Nat) (o' : Obj) (hl : S ≤ l) : KpW b vw Ba Bx W (W.putObj l o') :=
  ⟨World.putObj_heap_other (by omega), fun k e => World.putObj_heap_other (by have := hv k e; omega), World.putObj_heap_other (by omega), World.putObj_heap_other (by omega)⟩

theorem find_none {L : List Nat} {p : Nat} (h : ∀ y ∈ L, ¬ y < p) : L.find? (fun y => decide (y < p)) = none := by
  rw [List.find?_eq_none]; intro y hy; simpa using h y hy

theorem find_pre {L q : List Nat} {x p : Nat} (hL : q ++ [x] <+: L) (hq : ∀ y ∈ q, ¬ y < p) (hx : x < p) : L.find? (fun y => decide (y < p)) = some x := by
  obtain ⟨r, rfl⟩ := hL
  rw [List.append_assoc, List.find?_append, find_none hq]
  simp [hx]

end Go.Proofs.Ytkombdkhodjckaa
