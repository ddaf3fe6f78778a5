/- The program's table of rows. -/
import Derived.Test.YtpjgdbeekmoedaaDoorVfRow
import Derived.Test.YtpjgdbeekmoedaaDoorVbMath
import Derived.Test.YtpjgdbeekmoedaaDoorVfFn
import Derived.Deep.RegionHeld3
import Derived.Shelf.Spec.TrailingZeros
namespace Go.Proofs.YtpjgdbeekmoedaaDoor
set_option linter.unusedVariables false
set_option linter.unusedSimpArgs false
open Go.RowKit

variable {w : World}

/-- What is said of the instructions of an Op. -/
structure Rw where
  number : Nat
  takes : Nat
  each : Nat
  leaves : Nat
  ends : Bool

def rwC (r : Rw) : List Value := [.int .u8 r.number, .int .u8 r.takes, .int .u8 r.each, .int .u8 r.leaves, .bool r.ends]

def rwA (r : Rw) : Value := .agg #[.int .u8 r.number, .int .u8 r.takes, .int .u8 r.each, .int .u8 r.leaves, .bool r.ends]

def rowsL : List Rw := [⟨0, 0, 0, 0, false⟩, ⟨2, 0, 0, 1, false⟩, ⟨1, 0, 0, 1, false⟩, ⟨1, 0, 0, 1, false⟩, ⟨1, 0, 0, 1, false⟩, ⟨3, 0, 0, 1, false⟩, ⟨3, 1, 0, 0, false⟩, ⟨3, 0, 0, 0, false⟩, ⟨3, 0, 0, 1, false⟩, ⟨3, 1, 0, 0, false⟩,
  ⟨4, 0, 0, 1, false⟩, ⟨4, 1, 0, 0, false⟩, ⟨1, 1, 0, 0, false⟩, ⟨1, 1, 0, 2, false⟩, ⟨5, 2, 0, 1, false⟩, ⟨1, 1, 0, 1, false⟩, ⟨1, 1, 0, 1, false⟩, ⟨1, 1, 0, 1, false⟩, ⟨1, 1, 0, 1, false⟩, ⟨6, 0, 0, 0, true⟩,
  ⟨6, 1, 0, 0, false⟩, ⟨7, 0, 0, 0, true⟩, ⟨8, 0, 1, 1, false⟩, ⟨8, 0, 2, 1, false⟩, ⟨1, 2, 0, 1, false⟩, ⟨1, 3, 0, 0, false⟩, ⟨9, 0, 0, 1, false⟩, ⟨8, 1, 1, 1, false⟩, ⟨1, 1, 0, 0, true⟩, ⟨1, 1, 0, 0, true⟩, ⟨1, 1, 0, 0, false⟩]

def rowP (op : Nat) : Rw := rowsL.getD op ⟨0, 0, 0, 0, false⟩

theorem rowP_at {op : Nat} (h : op < 31) : rowsL[op]? = some (rowP op) := by
  have : op < rowsL.length := h
  unfold rowP
  rw [List.getD_eq_getElem?_getD]
  simp [this]

theorem rowP_over {op : Nat} (h : ¬ op < 31) : rowP op = ⟨0, 0, 0, 0, false⟩ := by
  unfold rowP
  rw [List.getD_eq_getElem?_getD, List.getElem?_eq_none (by simpa [rowsL] using h)]
  rfl

/-- The tables as they are laid: the rows, and the library's of lowest bits. -/
structure RowsT (w : World) : Prop where
  rows : RowAt rwC 5 w (some ⟨0, 0, none⟩) rowsL
  tab : TabAt 1 Lib.deBruijn64tab w

theorem RowsT.below (h : RowsT w) {w' : World} (hB : Below w.heap.size w w') : RowsT w' := ⟨RowAt.below h.1 hB, fun j hj => by
  have := h.2 j hj
  exact (hB.cell (p := ⟨1, j, none⟩) (World.block_lt_of_cell? w _ this)).trans this⟩

theorem RowsT.look (h : RowsT w) {op : Nat} (ho : op < 31) : w.cell? ⟨0, op * 5, none⟩ = some (.int .u8 (rowP op).number) ∧ w.cell? ⟨0, op * 5 + 1, none⟩ = some (.int .u8 (rowP op).takes) ∧ w.cell? ⟨0, op * 5 + 2, none⟩ = some (.int .u8 (rowP op).each) ∧ w.cell? ⟨0, op * 5 + 3, none⟩ = some (.int .u8 (rowP op).leaves) ∧ w.cell? ⟨0, op * 5 + 4, none⟩ = some (.bool (rowP op).ends) := by
  obtain ⟨b0, off, e, _, h1⟩ := h.1 op _ (rowP_at ho)
  simp only [Option.some.injEq, Addr.mk.injEq] at e
  obtain ⟨rfl, rfl, _⟩ := e
  exact ⟨by have := h1 0 _ rfl; simpa using this, by have := h1 1 _ rfl; simpa using this, by have := h1 2 _ rfl; simpa using this, by have := h1 3 _ rfl; simpa using this, by have := h1 4 _ rfl; simpa using this⟩

theorem RowsT.pos (h : RowsT w) : 0 < w.heap.size := by
  obtain ⟨b0, off, e, hl, _⟩ := h.1 0 _ (rowP_at (by omega))
  omega

theorem drewP {n : Nat} {a b : World} (h : Below n a b) : Below n a b.drew := ⟨h.os, h.tape, h.output, h.size, h.block⟩

def rowOk (op : Nat) : Bool := (((rowP op).number : Nat) : Int) != 0

theorem infoRow : (Tryd.prog.info? 112).map (·.size) = some 5 := by kernel_rfl

set_option maxRecDepth 20000 in
set_option maxHeartbeats 2000000 in
theorem rowOf_in (op : Nat) (ho : op < 256) (ht : RowsT w) :
    Calls Tryd.prog 58 #[.int .u8 op] w fun e w' => e = .returned (.tuple #[rwA (rowP op), .bool (rowOk op)]) ∧ Below w.heap.size w w' := by
  have hb1 := heap_alloc_new w (.cells #[.int .u8 0, .int .u8 0, .int .u8 0, .int .u8 0, .bool false] 112)
  have hB1 := below1 w (.cells #[.int .u8 0, .int .u8 0, .int .u8 0, .int .u8 0, .bool false] 112)
  by_cases h31 : op < 31
  · have c := fun (o : Obj) => (ht.below (below1 w o)).look h31
    have hbn := fun (o : Obj) => heap_alloc_new w o
    have hBn := fun (o : Obj) => below1 w o
    have h31' : ((op : Int) < 31) := by omega
    unfold rowOk rwA
    generalize rowP op = r at c ⊢
    obtain ⟨n, t, ea, l, en⟩ := r
    simp only at c ⊢
    clear ht
    go_enter Tryd.func58, Tryd.ntmps58
    go_wp2
    go_region_held3 (fun W => W.cell? ⟨0, op * 5, none⟩ = some (.int .u8 n) ∧ W.cell? ⟨0, op * 5 + 1, none⟩ = some (.int .u8 t) ∧ W.cell? ⟨0, op * 5 + 2, none⟩ = some (.int .u8 ea) ∧ W.cell? ⟨0, op * 5 + 3, none⟩ = some (.int .u8 l) ∧ W.cell? ⟨0, op * 5 + 4, none⟩ = some (.bool en)) (first | exact c _ | go_keep) (fail)
    go_wp2
    refine bodyPost_ret (results_row_tmp (by rfl) _ _ w.heap.size 112 #[.int .u8 n, .int .u8 t, .int .u8 ea, .int .u8 l, .bool en] (0, 0) _ (by rfl) (hbn _) Tryd.underlying112 (by rfl) infoRow) (by rfl) ?_
    exact ⟨rfl, drewP (hBn _)⟩
  · rw [rowP_over h31]
    have e : rowOk op = false := by unfold rowOk; rw [rowP_over h31]; rfl
    rw [e]
    unfold rwA
    have h31' : ¬ ((op : Int) < 31) := by omega
    clear ht
    go_enter Tryd.func58, Tryd.ntmps58
    go_wp2
    refine bodyPost_ret (results_row_tmp (by rfl) _ _ w.heap.size 112 #[.int .u8 0, .int .u8 0, .int .u8 0, .int .u8 0, .bool false] (0, 0) _ (by rfl) hb1 Tryd.underlying112 (by rfl) infoRow) (by rfl) ?_
    exact ⟨rfl, hB1⟩

end Go.Proofs.YtpjgdbeekmoedaaDoor
