/- The program's table of rows. -/
import Derived.Test.YtnekcomkochmjaaGreatDoorVfRow
import Derived.Test.YtnekcomkochmjaaGreatDoorVbMath
import Derived.Test.YtnekcomkochmjaaGreatDoorVfFn
import Derived.Deep.RegionHeld3
import Derived.Shelf.Spec.TrailingZeros
import Derived.Deep.RegionLaw
import Derived.Lib.MinMax
import Derived.Laws.Bits64b
import Derived.Shelf.Bits.Mul64
import Derived.Laws.CopyOwn
namespace Go.Proofs.YtnekcomkochmjaaGreatDoor
set_option linter.unusedVariables false
set_option linter.unusedSimpArgs false
open Go.RowKit

variable {w : World}

/-- What is said of the instructions of an Op. -/
structure Rw where
  number : Nat
  takes : Nat
  each : Nat
  leaves : Nat
  ends : Bool

def rwC (r : Rw) : List Value := [.int .u8 r.number, .int .u8 r.takes, .int .u8 r.each, .int .u8 r.leaves, .bool r.ends]

def rwA (r : Rw) : Value := .agg #[.int .u8 r.number, .int .u8 r.takes, .int .u8 r.each, .int .u8 r.leaves, .bool r.ends]

def rowsL : List Rw := [⟨0, 0, 0, 0, false⟩, ⟨2, 0, 0, 1, false⟩, ⟨1, 0, 0, 1, false⟩, ⟨1, 0, 0, 1, false⟩, ⟨1, 0, 0, 1, false⟩, ⟨3, 0, 0, 1, false⟩, ⟨3, 1, 0, 0, false⟩, ⟨3, 0, 0, 0, false⟩, ⟨3, 0, 0, 1, false⟩, ⟨3, 1, 0, 0, false⟩,
  ⟨4, 0, 0, 1, false⟩, ⟨4, 1, 0, 0, false⟩, ⟨1, 1, 0, 0, false⟩, ⟨1, 1, 0, 2, false⟩, ⟨5, 2, 0, 1, false⟩, ⟨1, 1, 0, 1, false⟩, ⟨1, 1, 0, 1, false⟩, ⟨1, 1, 0, 1, false⟩, ⟨1, 1, 0, 1, false⟩, ⟨6, 0, 0, 0, true⟩,
  ⟨6, 1, 0, 0, false⟩, ⟨7, 0, 0, 0, true⟩, ⟨8, 0, 1, 1, false⟩, ⟨8, 0, 2, 1, false⟩, ⟨1, 2, 0, 1, false⟩, ⟨1, 3, 0, 0, false⟩, ⟨9, 0, 0, 1, false⟩, ⟨8, 1, 1, 1, false⟩, ⟨1, 1, 0, 0, true⟩, ⟨1, 1, 0, 0, true⟩, ⟨1, 1, 0, 0, false⟩]

def rowP (op : Nat) : Rw := rowsL.getD op ⟨0, 0, 0, 0, false⟩

theorem rowP_at {op : Nat} (h : op < 31) : rowsL[op]? = some (rowP op) := by
  have : op < rowsL.length := h
  unfold rowP
  rw [List.getD_eq_getElem?_getD]
  simp [this]

theorem rowP_over {op : Nat} (h : ¬ op < 31) : rowP op = ⟨0, 0, 0, 0, false⟩ := by
  unfold rowP
  rw [List.getD_eq_getElem?_getD, List.getElem?_eq_none (by simpa [rowsL] using h)]
  rfl

/-- The tables as they are laid: the rows, and the library's of lowest bits. -/
structure RowsT (w : World) : Prop where
  rows : RowAt rwC 5 w (some ⟨2, 0, none⟩) rowsL
  tab : TabAt 4 Lib.deBruijn64tab w

theorem RowsT.below (h : RowsT w) {w' : World} (hB : Below w.heap.size w w') : RowsT w' := ⟨RowAt.below h.1 hB, fun j hj => by
  have := h.2 j hj
  exact (hB.cell (p := ⟨4, j, none⟩) (World.block_lt_of_cell? w _ this)).trans this⟩

theorem RowsT.look (h : RowsT w) {op : Nat} (ho : op < 31) : w.cell? ⟨2, op * 5, none⟩ = some (.int .u8 (rowP op).number) ∧ w.cell? ⟨2, op * 5 + 1, none⟩ = some (.int .u8 (rowP op).takes) ∧ w.cell? ⟨2, op * 5 + 2, none⟩ = some (.int .u8 (rowP op).each) ∧ w.cell? ⟨2, op * 5 + 3, none⟩ = some (.int .u8 (rowP op).leaves) ∧ w.cell? ⟨2, op * 5 + 4, none⟩ = some (.bool (rowP op).ends) := by
  obtain ⟨b0, off, e, _, h1⟩ := h.1 op _ (rowP_at ho)
  simp only [Option.some.injEq, Addr.mk.injEq] at e
  obtain ⟨rfl, rfl, _⟩ := e
  exact ⟨by have := h1 0 _ rfl; simpa using this, by have := h1 1 _ rfl; simpa using this, by have := h1 2 _ rfl; simpa using this, by have := h1 3 _ rfl; simpa using this, by have := h1 4 _ rfl; simpa using this⟩

theorem RowsT.pos (h : RowsT w) : 0 < w.heap.size := by
  obtain ⟨b0, off, e, hl, _⟩ := h.1 0 _ (rowP_at (by omega))
  omega

theorem drewP {n : Nat} {a b : World} (h : Below n a b) : Below n a b.drew := ⟨h.os, h.tape, h.output, h.size, h.block⟩

def rowOk (op : Nat) : Bool := (((rowP op).number : Nat) : Int) != 0

theorem infoRow : (Tryz.prog.info? 114).map (·.size) = some 5 := by kernel_rfl

set_option maxRecDepth 20000 in
set_option maxHeartbeats 2000000 in
theorem rowOf_in (op : Nat) (ho : op < 256) (ht : RowsT w) :
    Calls Tryz.prog 48 #[.int .u8 op] w fun e w' => e = .returned (.tuple #[rwA (rowP op), .bool (rowOk op)]) ∧ Below w.heap.size w w' := by
  have hb1 := heap_alloc_new w (.cells #[.int .u8 0, .int .u8 0, .int .u8 0, .int .u8 0, .bool false] 114)
  have hB1 := below1 w (.cells #[.int .u8 0, .int .u8 0, .int .u8 0, .int .u8 0, .bool false] 114)
  by_cases h31 : op < 31
  · have c := fun (o : Obj) => (ht.below (below1 w o)).look h31
    have hbn := fun (o : Obj) => heap_alloc_new w o
    have hBn := fun (o : Obj) => below1 w o
    have h31' : ((op : Int) < 31) := by omega
    unfold rowOk rwA
    generalize rowP op = r at c ⊢
    obtain ⟨n, t, ea, l, en⟩ := r
    simp only at c ⊢
    clear ht
    go_enter Tryz.func48, Tryz.ntmps48
    go_wp2
    go_region_held3 (fun W => W.cell? ⟨2, op * 5, none⟩ = some (.int .u8 n) ∧ W.cell? ⟨2, op * 5 + 1, none⟩ = some (.int .u8 t) ∧ W.cell? ⟨2, op * 5 + 2, none⟩ = some (.int .u8 ea) ∧ W.cell? ⟨2, op * 5 + 3, none⟩ = some (.int .u8 l) ∧ W.cell? ⟨2, op * 5 + 4, none⟩ = some (.bool en)) (first | exact c _ | go_keep) (fail)
    go_wp2
    refine bodyPost_ret (results_row_tmp (by rfl) _ _ w.heap.size 114 #[.int .u8 n, .int .u8 t, .int .u8 ea, .int .u8 l, .bool en] (0, 0) _ (by rfl) (hbn _) Tryz.underlying114 (by rfl) infoRow) (by rfl) ?_
    exact ⟨rfl, drewP (hBn _)⟩
  · rw [rowP_over h31]
    have e : rowOk op = false := by unfold rowOk; rw [rowP_over h31]; rfl
    rw [e]
    unfold rwA
    have h31' : ¬ ((op : Int) < 31) := by omega
    clear ht
    go_enter Tryz.func48, Tryz.ntmps48
    go_wp2
    refine bodyPost_ret (results_row_tmp (by rfl) _ _ w.heap.size 114 #[.int .u8 0, .int .u8 0, .int .u8 0, .int .u8 0, .bool false] (0, 0) _ (by rfl) hb1 Tryz.underlying114 (by rfl) infoRow) (by rfl) ?_
    exact ⟨rfl, hB1⟩

end Go.Proofs.YtnekcomkochmjaaGreatDoor

namespace Go.Proofs.YtnekcomkochmjaaGreatDoor
set_option linter.unusedVariables false
set_option linter.unusedSimpArgs false
open Go.RowKit

variable {w : World}

theorem ownsRow_mono {base base' : Nat} {e : TypeId} {k n : Nat} {v : Value} {xs : List Value} (h : w.ownsRow base e k v n xs) (hb : base' ≤ base) : w.ownsRow base' e k v n xs := by
  obtain ⟨h1, h2⟩ := h
  refine ⟨h1, ?_⟩
  rcases h2 with h2 | ⟨g, cap, cur, e, h3, h4⟩
  · exact .inl h2
  · exact .inr ⟨g, cap, cur, e, Nat.le_trans hb h3, h4⟩

def uv (x : Nat) : Value := .int .u64 x

/-- A row of 64 bits each, of one's own. -/
abbrev BitRow (base g c : Nat) (l : List Nat) (w : World) : Prop := w.ownsRow base 168 1 (.slice (some ⟨g, 0, none⟩) l.length c) l.length (l.map uv)

theorem BitRow.at {base g c : Nat} {l : List Nat} (h : BitRow base g c l w) {j : Nat} (hj : j < l.length) : w.cell? ⟨g, j, none⟩ = some (.int .u64 (l.getD j 0 : Nat)) := by
  rw [World.ownsRow.cellAt h _ (by omega)]
  rw [List.getElem?_map, List.getD_eq_getElem?_getD]
  simp [hj, uv]

theorem BitRow.lt {base g c : Nat} {l : List Nat} (h : BitRow base g c l w) : base ≤ g ∧ g < w.heap.size := World.ownsRow.lt h g rfl

theorem BitRow.kept {base g c : Nat} {l : List Nat} (h : BitRow base g c l w) {w' : World} (hk : w'.heap[g]? = w.heap[g]?) : BitRow base g c l w' :=
  row_kept h (fun k e => by simp [Value.ownBlock] at e; subst e; exact hk)

theorem BitRow.obj {base g c : Nat} {l : List Nat} (h : BitRow base g c l w) : ∃ cur, w.heap[g]? = some (.cells cur 168 (0, 0)) ∧ l.length ≤ cur.size ∧ cur.toList.take l.length = l.map uv := by
  rcases h.2 with ⟨e, _⟩ | ⟨g', cap, cur, e, _, hg, h1, _, h2, h3⟩
  · simp at e
  · simp at e
    obtain ⟨rfl, rfl⟩ := e
    simp at h2 h3
    exact ⟨cur, hg, by omega, h3⟩

theorem BitRow.frozen {base g c : Nat} {l : List Nat} (h : BitRow base g c l w) (j : Nat) : w.frozen? ⟨g, j, none⟩ = false := by
  obtain ⟨cur, hc, _⟩ := h.obj
  exact frozen_of_row w g j _ _ hc

theorem BitRow.set {base g c : Nat} {l : List Nat} (h : BitRow base g c l w) {j : Nat} (x : Nat) : BitRow base g c (l.set j x) (w.setCell ⟨g, j, none⟩ (.int .u64 x)) := by
  rcases h.2 with ⟨e, _⟩ | ⟨g', cap, cur, e, hb, hg, h1, hm, h2, h3⟩
  · simp at e
  · simp at e
    obtain ⟨rfl, rfl⟩ := e
    simp at h2 h3
    have hs := heap_setCell_same w g j _ _ (.int .u64 x) hg
    refine ⟨by simp, .inr ⟨g, c, _, by simp, hb, hs, by simpa using h1, hm, by simpa using h2, ?_⟩⟩
    simp only [List.length_set, Nat.mul_one, List.map_set]
    rw [← h3]
    simp [uv, List.take_set]

/-- A walk in memory. -/
structure Wk (W : World) (base bw gt ct gb cb : Nat) (told : List Int) (bs : List Nat) (lst : Nat) : Prop where
  tb : W.heap[bw]? = some (.cells #[.slice (some ⟨gt, 0, none⟩) told.length ct, .slice (some ⟨gb, 0, none⟩) bs.length cb, .int .i64 lst] 129 (0, 0))
  tr : NumRow base gt ct told W
  br : BitRow base gb cb bs W
  ap : gb ≠ gt
  bs_ : base ≤ bw
section

variable {W W' : World} {base bw gt ct gb cb : Nat} {told : List Int} {bs : List Nat} {lst : Nat}

theorem Wk.lt (h : Wk W base bw gt ct gb cb told bs lst) : bw < W.heap.size := (Array.getElem?_eq_some_iff.1 h.tb).1

theorem Wk.ne (h : Wk W base bw gt ct gb cb told bs lst) : bw ≠ gt ∧ bw ≠ gb := by
  constructor
  · intro e
    obtain ⟨cur, hc, _⟩ := h.tr.obj
    have := h.tb
    rw [e, hc] at this
    simp at this
  · intro e
    obtain ⟨cur, hc, _⟩ := h.br.obj
    have := h.tb
    rw [e, hc] at this
    simp at this

theorem Wk.keptB (h : Wk W base bw gt ct gb cb told bs lst) (h1 : W'.heap[bw]? = W.heap[bw]?) (h2 : W'.heap[gt]? = W.heap[gt]?) (h3 : W'.heap[gb]? = W.heap[gb]?) : Wk W' base bw gt ct gb cb told bs lst :=
  ⟨h1.trans h.tb, h.tr.kept h2, h.br.kept h3, h.ap, h.bs_⟩

theorem Wk.kept (h : Wk W base bw gt ct gb cb told bs lst) (hB : Below W.heap.size W W') : Wk W' base bw gt ct gb cb told bs lst :=
  h.keptB (hB.block _ h.lt) (hB.block _ h.tr.lt.2) (hB.block _ h.br.lt.2)

theorem Wk.cells (h : Wk W base bw gt ct gb cb told bs lst) : (W.cell? ⟨bw, 0, none⟩ = some (.slice (some ⟨gt, 0, none⟩) told.length ct) ∧ W.cell? ⟨bw, 1, none⟩ = some (.slice (some ⟨gb, 0, none⟩) bs.length cb) ∧ W.cell? ⟨bw, 2, none⟩ = some (.int .i64 lst)) ∧ W.frozen? ⟨bw, 2, none⟩ = false := by
  refine ⟨⟨?_, ?_, ?_⟩, frozen_of_row W bw 2 _ _ h.tb⟩
  · rw [cell_of_row W bw 0 _ _ _ h.tb]; rfl
  · rw [cell_of_row W bw 1 _ _ _ h.tb]; rfl
  · rw [cell_of_row W bw 2 _ _ _ h.tb]; rfl
end

/-- What a walk's step leaves: all but the walk's three blocks. -/
structure Fr (bw gt gb : Nat) (w w' : World) : Prop where
  os : w'.os = w.os
  tape : w'.tape = w.tape
  output : w'.output = w.output
  size : w.heap.size ≤ w'.heap.size
  block : ∀ k, k < w.heap.size → k ≠ bw → k ≠ gt → k ≠ gb → w'.heap[k]? = w.heap[k]?
section

variable {a b c : World} {bw gt gb : Nat}

theorem Fr.refl (bw gt gb : Nat) (a : World) : Fr bw gt gb a a := ⟨rfl, rfl, rfl, Nat.le_refl _, fun _ _ _ _ _ => rfl⟩

theorem Fr.trans (h : Fr bw gt gb a b) (k : Fr bw gt gb b c) : Fr bw gt gb a c :=
  ⟨k.os.trans h.os, k.tape.trans h.tape, k.output.trans h.output, Nat.le_trans h.size k.size, fun i hi h1 h2 h3 => (k.block i (Nat.lt_of_lt_of_le hi h.size) h1 h2 h3).trans (h.block i hi h1 h2 h3)⟩

theorem Fr.of_below (h : Below a.heap.size a b) : Fr bw gt gb a b := ⟨h.os, h.tape, h.output, h.size, fun k hk _ _ _ => h.block k hk⟩

theorem Fr.drew (h : Fr bw gt gb a b) : Fr bw gt gb a b.drew := ⟨h.os, h.tape, h.output, h.size, h.block⟩

theorem Fr.below {base : Nat} (h : Fr bw gt gb a b) (h1 : base ≤ bw) (h2 : base ≤ gt) (h3 : base ≤ gb) (h4 : base ≤ a.heap.size) : Below base a b :=
  ⟨h.os, h.tape, h.output, h.size, fun k hk => h.block k (by omega) (by omega) (by omega) (by omega)⟩

theorem Fr.setw (a : World) (i : Nat) (v : Value) : Fr bw gt gb a (a.setCell ⟨bw, i, none⟩ v) := ⟨rfl, rfl, rfl, by simp [World.setCell], fun k _ h1 _ _ => heap_setCell_other a ⟨bw, i, none⟩ k _ h1⟩

theorem Fr.sett (a : World) (i : Nat) (v : Value) : Fr bw gt gb a (a.setCell ⟨gt, i, none⟩ v) := ⟨rfl, rfl, rfl, by simp [World.setCell], fun k _ _ h1 _ => heap_setCell_other a ⟨gt, i, none⟩ k _ h1⟩

theorem Fr.setb (a : World) (i : Nat) (v : Value) : Fr bw gt gb a (a.setCell ⟨gb, i, none⟩ v) := ⟨rfl, rfl, rfl, by simp [World.setCell], fun k _ _ _ h1 => heap_setCell_other a ⟨gb, i, none⟩ k _ h1⟩
end

section
variable {base bw gt ct gb cb : Nat} {told : List Int} {bs : List Nat} {lst : Nat}

theorem Wk.drew (h : Wk w base bw gt ct gb cb told bs lst) : Wk w.drew base bw gt ct gb cb told bs lst := h.kept ⟨rfl, rfl, rfl, Nat.le_refl _, fun _ _ => rfl⟩

theorem Wk.tset (h : Wk w base bw gt ct gb cb told bs lst) {k : Nat} (hk : k < told.length) (d : Int) : Wk (w.setCell ⟨gt, k, none⟩ (.int .i64 d)) base bw gt ct gb cb (told.set k d) bs lst := by
  refine ⟨?_, h.tr.set hk d, h.br.kept (heap_setCell_other w ⟨gt, k, none⟩ gb _ h.ap), h.ap, h.bs_⟩
  rw [heap_setCell_other w ⟨gt, k, none⟩ bw _ h.ne.1, List.length_set]
  exact h.tb

theorem Wk.bset (h : Wk w base bw gt ct gb cb told bs lst) (k x : Nat) : Wk (w.setCell ⟨gb, k, none⟩ (.int .u64 x)) base bw gt ct gb cb told (bs.set k x) lst := by
  refine ⟨?_, h.tr.kept (heap_setCell_other w ⟨gb, k, none⟩ gt _ (Ne.symm h.ap)), h.br.set x, h.ap, h.bs_⟩
  rw [heap_setCell_other w ⟨gb, k, none⟩ bw _ h.ne.2, List.length_set]
  exact h.tb

theorem Wk.lset (h : Wk w base bw gt ct gb cb told bs lst) (x : Nat) : Wk (w.setCell ⟨bw, 2, none⟩ (.int .i64 x)) base bw gt ct gb cb told bs x := by
  refine ⟨?_, h.tr.kept (heap_setCell_other w ⟨bw, 2, none⟩ gt _ (Ne.symm h.ne.1)), h.br.kept (heap_setCell_other w ⟨bw, 2, none⟩ gb _ (Ne.symm h.ne.2)), h.ap, h.bs_⟩
  have := heap_setCell_same w bw 2 _ _ (.int .i64 x) h.tb
  simpa using this

theorem pow_wrap {r : Nat} (h : r < 64) : IntKind.u64.wrap (2 ^ r) = ((2 ^ r : Nat) : Int) := by
  have h1 : (2 : Nat) ^ r < 2 ^ 64 := Nat.pow_lt_pow_right (by omega) h
  have e : ((2 : Int) ^ r) = ((2 ^ r : Nat) : Int) := by simp
  rw [e, IntKind.wrap_u64]
  generalize 2 ^ r = x at h1
  omega

set_option maxRecDepth 20000 in
set_option maxHeartbeats 2000000 in
/-- One place more waits. -/
theorem badd_in (h : Wk w base bw gt ct gb cb told bs lst) {k : Nat} (hk : k / 64 < bs.length) (hw : ∀ i, bs.getD i 0 < 2 ^ 64) (hl : bs.length ≤ 100000) :
    Calls Tryz.prog 90 #[.pointer (some ⟨bw, 1, none⟩), .int .i64 k] w fun e w' => e = .returned (.tuple #[]) ∧ Wk w' base bw gt ct gb cb told (setB bs k) (min lst (k / 64)) ∧ Fr bw gt gb w w' := by
  obtain ⟨⟨-, c1, c2⟩, f2⟩ := h.cells
  have b0 := h.br.at hk
  have bf := h.br.frozen (k / 64)
  have HH : Hid _ := h
  obtain ⟨B, hB⟩ : ∃ B, bs.getD (k / 64) 0 = B := ⟨_, rfl⟩
  have hB64 := hw (k / 64)
  rw [hB] at b0 hB64
  have h64 : (k : Int) / 64 = ((k / 64 : Nat) : Int) := by omega
  have h65 : (k : Int) % 64 = ((k % 64 : Nat) : Int) := by omega
  obtain ⟨q, hq⟩ : ∃ q, k / 64 = q := ⟨_, rfl⟩
  obtain ⟨r, hr⟩ : ∃ r, k % 64 = r := ⟨_, rfl⟩
  have hk2 : k < 6400000 := by omega
  rw [hq] at b0 bf hk h64 ⊢
  rw [hr] at h65
  have hqi : (q : Int) < (bs.length : Int) := by omega
  obtain ⟨-, hne⟩ := h.ne
  have hne' : ¬ gb = bw := fun e => hne e.symm
  have hor : bits BinOp.or IntKind.u64 (B : Int) (IntKind.u64.wrap (2 ^ r)) = ((B ||| 2 ^ r : Nat) : Int) := by
    rw [pow_wrap (by omega)]
    exact bits_or_u64_nat _ _ (by omega) (Nat.pow_lt_pow_right (by omega : 1 < 2) (by omega : r < 64))
  have hqr : Hid (k / 64 = q ∧ k % 64 = r) := ⟨hq, hr⟩
  clear h hw hq hr
  go_enter Tryz.func90, Tryz.ntmps90
  go_wp2
  go_region
  go_wp2
  go_end0
  have h := HH.out
  obtain ⟨e1, e2⟩ := hqr.out
  have hm : (min (lst : Int) (q : Int)) = ((min lst q : Nat) : Int) := by omega
  rw [hm]
  refine ⟨rfl, ?_, ((Fr.setb w _ _).trans (Fr.setw _ _ _)).drew⟩
  have h1 := ((h.bset q (B ||| 2 ^ r)).lset (min lst q)).drew
  have e3 : setB bs k = bs.set q (B ||| 2 ^ r) := by
    unfold setB
    rw [e1, e2, ← hB, e1]
  rw [e3]
  exact h1
end

end Go.Proofs.YtnekcomkochmjaaGreatDoor

namespace Go.Proofs.YtnekcomkochmjaaGreatDoor
set_option linter.unusedVariables false
set_option linter.unusedSimpArgs false
open Go.RowKit

variable {w : World}

set_option maxHeartbeats 1000000 in
theorem mul64_in (x y : Nat) (hx : x < 18446744073709551616) (hy : y < 18446744073709551616) (w : World) :
    Calls Tryz.prog 122 #[.int .u64 x, .int .u64 y] w fun e w' => e = .returned (.tuple #[.int .u64 ((x * y / 18446744073709551616 : Nat) : Int), .int .u64 ((x * y % 18446744073709551616 : Nat) : Int)]) ∧ w' = w := by
  obtain ⟨bd, bt, bw, hhi⟩ := Lib.mul64_hi x y hx hy
  have ba := Lib.half_mul_le (a := x / 4294967296) (b := y / 4294967296) (by omega) (by omega)
  have bb := Lib.half_mul_le (a := x / 4294967296) (b := y % 4294967296) (by omega) (by omega)
  have bc := Lib.half_mul_le (a := x % 4294967296) (b := y / 4294967296) (by omega) (by omega)
  have ba' : x / 4294967296 * (y / 4294967296) < 18446744073709551616 := by omega
  have bb' : x / 4294967296 * (y % 4294967296) < 18446744073709551616 := by omega
  have bc' : x % 4294967296 * (y / 4294967296) < 18446744073709551616 := by omega
  have bh1 : x / 4294967296 * (y / 4294967296) + (x / 4294967296 * (y % 4294967296) + x % 4294967296 * (y % 4294967296) / 4294967296) / 4294967296 < 18446744073709551616 := by omega
  have bh : x / 4294967296 * (y / 4294967296) + (x / 4294967296 * (y % 4294967296) + x % 4294967296 * (y % 4294967296) / 4294967296) / 4294967296 + ((x / 4294967296 * (y % 4294967296) + x % 4294967296 * (y % 4294967296) / 4294967296) % 4294967296 + x % 4294967296 * (y / 4294967296)) / 4294967296 < 18446744073709551616 := by omega
  go_enter Tryz.func122, Tryz.ntmps122
  go_wp2
  simp only [Mul64.maskN x hx, Mul64.maskN y hy, Mul64.divN, Mul64.mulN, Mul64.addN, Mul64.wrapN _ bd, Mul64.wrapN _ bb', Mul64.wrapN _ bt, Mul64.maskN _ bt, Mul64.wrapN _ bc', Mul64.wrapN _ bw, Mul64.wrapN _ ba', Mul64.wrapN _ bh1, Mul64.wrapN _ bh, Mul64.wrapM (x * y)]
  rw [hhi]
  go_ret2
  exact ⟨rfl, rfl⟩

theorem mul1_in (y : Nat) (hy : y ≤ 16384) (w : World) :
    Calls Tryz.prog 108 #[.int .u64 (1 : Int), .int .u64 y] w fun e w' => e = .returned (.tuple #[.int .u64 (0 : Int), .int .u64 y]) ∧ w' = w := by
  have H := mul64_in 1 y (by omega) (by omega) w
  rw [Nat.one_mul, show y / 18446744073709551616 = 0 by omega, show y % 18446744073709551616 = y by omega] at H
  have H' : Calls Tryz.prog 122 #[.int .u64 (1 : Int), .int .u64 y] w fun e w' => e = .returned (.tuple #[.int .u64 (0 : Int), .int .u64 y]) ∧ w' = w := H
  clear H
  go_enter Tryz.func108, Tryz.ntmps108
  go_wp2_with (first
    | (go_at_call 122; (with_reducible refine H'.mono ?_); clear H'; rintro e w1 ⟨rfl, rfl⟩))
  go_ret2
  exact ⟨rfl, rfl⟩

/-- So many are laid. -/
def laidR (m n : Nat) : List Value := List.replicate m (iv (-1)) ++ List.replicate (n - m) (iv 0)

theorem laidR_len {m n : Nat} (h : m ≤ n) : (laidR m n).length = n := by simp [laidR]; omega

theorem splice_laid {m n k : Nat} (hk : m + k ≤ n) : splice (laidR m n) m (List.replicate k (iv (-1))) = laidR (m + k) n := by
  unfold splice laidR
  have e1 : (List.replicate m (iv (-1)) ++ List.replicate (n - m) (iv 0)).take m = List.replicate m (iv (-1)) := by
    rw [List.take_append_of_le_length (by simp)]; simp
  have e2 : (List.replicate m (iv (-1)) ++ List.replicate (n - m) (iv 0)).drop (m + k) = List.replicate (n - (m + k)) (iv 0) := by
    rw [List.drop_append, List.drop_eq_nil_of_le (by simp)]
    simp
    omega
  rw [List.length_replicate, e1, e2, ← List.append_assoc, List.replicate_append_replicate]

theorem made_laid (n : Nat) : (madeCells #[Value.int .i64 0] (n * 1)).toList = laidR 0 n := by
  apply List.ext_getElem?
  intro j
  by_cases hj : j < n
  · simp [madeCells, hj, Nat.mod_one, laidR, iv]
  · simp [madeCells, hj, laidR]

theorem laid_row {g n : Nat} {base : Nat} (h : w.heap[g]? = some (.cells (laidR n n).toArray 3 (0, 0))) (hb : base ≤ g) (hn : n ≤ 16384) : NumRow base g n (List.replicate n (-1)) w := by
  have e : laidR n n = (List.replicate n (-1 : Int)).map iv := by simp [laidR]
  refine ⟨by simp, .inr ⟨g, n, _, by simp, hb, h, by simp, by unfold maxLen; omega, by rw [e]; simp, ?_⟩⟩
  rw [e]
  simp

theorem made_row {base g n : Nat} (hown : w.ownsRow base 3 1 (.slice (some ⟨g, 0, none⟩) n n) n (madeCells (Value.int .i64 0).cells (n * 1)).toList) : w.heap[g]? = some (.cells (laidR 0 n).toArray 3 (0, 0)) := by
  rcases hown.2 with ⟨e, _⟩ | ⟨g', cap, cur, e, hb, hg, h1, hm, h2, h3⟩
  · simp at e
  · simp at e
    obtain ⟨rfl, rfl⟩ := e
    rw [hg, ← made_laid]
    rw [List.take_of_length_le (by simp [h2])] at h3
    rw [show (madeCells #[Value.int .i64 0] (n * 1)) = madeCells (Value.int .i64 0).cells (n * 1) from rfl, ← h3]

theorem one_cell {bx : Nat} (hc : w.cell? ⟨bx, 0, none⟩ = some (.int .i64 (-1))) {j : Nat} {v : Value} (hj : (List.replicate 1 (iv (-1)))[j]? = some v) : w.cell? ((⟨bx, 0, none⟩ : Addr).add j) = some v := by
  match j, hj with
  | 0, hj => simp at hj; subst hj; exact hc

theorem copy_one {w0 : World} {bx n : Nat} (hc : w.cell? ⟨bx, 0, none⟩ = some (.int .i64 (-1))) (hg : w.heap[w0.heap.size]? = some (.cells (laidR 0 n).toArray 3 (0, 0))) (hB : Below w0.heap.size w0 w) (h1 : 1 ≤ n) :
    ∃ w2, Sem.run Tryz.prog (Builtin.copy_ #[40, 40] 3 #[.slice (some ⟨w0.heap.size, 0, none⟩) n n, .slice (some ⟨bx, 0, none⟩) 1 1]) w = .ok (.int .i64 1) w2 ∧ w2.heap[w0.heap.size]? = some (.cells (laidR 1 n).toArray 3 (0, 0)) ∧ Below w0.heap.size w0 w2 := by
  obtain ⟨i1, hj0, hy0, hy1, hy2⟩ := info_parts infoInts
  have hsz : (Tryz.prog.info? 3).map (·.size) = some 1 := by rw [hj0]; simp [hy1]
  have hrun := run_copy_row (P := Tryz.prog) w 40 40 3 3 w0.heap.size 0 n n ⟨bx, 0, none⟩ 1 1 (laidR 0 n).toArray 3 (List.replicate 1 (iv (-1))) Tryz.underlying40 hsz hg
    (by rw [List.length_replicate]; simp only [Nat.min_def]; split <;> omega) (fun j v hj => one_cell hc hj) (by rw [List.length_replicate]; simp [laidR]; omega) (fun v hv => by obtain rfl := List.eq_of_mem_replicate hv; rfl)
  refine ⟨_, hrun, ?_, below_setRow hB (Nat.le_refl _) _⟩
  have e := splice_laid (m := 0) (n := n) (k := 1) (by omega)
  rw [Nat.zero_add] at e
  rw [← e]
  simpa [splice] using setRow_heap w w0.heap.size _ _ 3 _ hg

theorem copy_more {w0 : World} {n m : Nat} (hg : w.heap[w0.heap.size]? = some (.cells (laidR m n).toArray 3 (0, 0))) (hB : Below w0.heap.size w0 w) (m1 : 1 ≤ m) (hm : m < n) :
    ∃ w2 k, 1 ≤ k ∧ m + k ≤ n ∧ Sem.run Tryz.prog (Builtin.copy_ #[40, 40] 3 #[.slice (some ⟨w0.heap.size, m, none⟩) (n - m) (n - m), .slice (some ⟨w0.heap.size, 0, none⟩) m n]) w.drew = .ok (.int .i64 (k : Nat)) w2 ∧ w2.heap[w0.heap.size]? = some (.cells (laidR (m + k) n).toArray 3 (0, 0)) ∧ Below w0.heap.size w0 w2 := by
  obtain ⟨i1, hj0, hy0, hy1, hy2⟩ := info_parts infoInts
  have hsz : (Tryz.prog.info? 3).map (·.size) = some 1 := by rw [hj0]; simp [hy1]
  have hBd : Below w0.heap.size w0 w.drew := ⟨hB.os, hB.tape, hB.output, hB.size, hB.block⟩
  obtain ⟨k, hk⟩ : ∃ k, Nat.min m (n - m) = k := ⟨_, rfl⟩
  have hk3 : k ≤ m := by rw [← hk]; simp only [Nat.min_def]; split <;> omega
  have hk1 : 1 ≤ k := by rw [← hk]; simp only [Nat.min_def]; split <;> omega
  have hk2 : m + k ≤ n := by rw [← hk]; simp only [Nat.min_def]; split <;> omega
  have hgd : w.drew.heap[w0.heap.size]? = some (.cells (laidR m n).toArray 3 (0, 0)) := hg
  have hrun := run_copy_row (P := Tryz.prog) w.drew 40 40 3 3 w0.heap.size m (n - m) (n - m) ⟨w0.heap.size, 0, none⟩ m n (laidR m n).toArray 3 (List.replicate k (iv (-1))) Tryz.underlying40 hsz hgd
    (by rw [List.length_replicate]; exact hk.symm) (fun j v hj => by
        rw [List.getElem?_replicate] at hj
        split at hj
        · cases hj
          have := cell_of_row w.drew w0.heap.size j _ _ _ hgd
          have ea : (⟨w0.heap.size, 0, none⟩ : Addr).add j = ⟨w0.heap.size, j, none⟩ := by simp only [Addr.add]; split <;> simp_all
          rw [ea, this]
          have hjm : j < m := by omega
          simp [laidR, List.getElem?_append_left, hjm]
        · cases hj) (by rw [List.length_replicate]; simp [laidR]; omega) (fun v hv => by obtain rfl := List.eq_of_mem_replicate hv; rfl)
  rw [List.length_replicate] at hrun
  refine ⟨_, k, hk1, hk2, hrun, ?_, below_setRow hBd (Nat.le_refl _) _⟩
  rw [← splice_laid hk2]
  simpa [splice] using setRow_heap w.drew w0.heap.size _ _ 3 _ hgd

set_option maxRecDepth 20000 in
set_option maxHeartbeats 4000000 in
theorem repeat_in {bx n : Nat} (hb : bx < w.heap.size) (hc : w.cell? ⟨bx, 0, none⟩ = some (.int .i64 (-1))) (h1 : 1 ≤ n) (h2 : n ≤ 16384) :
    Calls Tryz.prog 87 #[.slice (some ⟨bx, 0, none⟩) 1 1, .int .i64 n] w fun e w' => ∃ g c, e = .returned (.slice (some ⟨g, 0, none⟩) n c) ∧ NumRow w.heap.size g c (List.replicate n (-1)) w' ∧ Below w.heap.size w w' := by
  obtain ⟨i1, hj0, hy0, hy1, hy2⟩ := info_parts infoInts
  have hsz : (Tryz.prog.info? 3).map (·.size) = some 1 := by rw [hj0]; simp [hy1]
  have HM := mul1_in n h2 w
  have hn0 : ¬ ((n : Int) < 0) := by omega
  go_enter Tryz.func87, Tryz.ntmps87
  go_wp2_with (first
    | (go_at_call 108; (with_reducible refine HM.mono ?_); clear HM; rintro e w0 ⟨rfl, rfl⟩)
    | (at_make; refine wpList_make_full _ rfl _ _ 40 rfl w0.heap.size 3 i1 (.int .i64 0) 1 Tryz.underlying40 hj0 hy0 hy1 .i64 .i64 _ _ n rfl rfl rfl rfl (by rw [hy2]; omega) (by unfold maxLen; omega) (by simp; try omega) ?_; intro w1 hown1 hgrow1; have hB1 : Below w0.heap.size w0 w1 := rbelow_grown hgrow1 (fun q e => by cases e) (Nat.le_refl _); have hc1 := (hB1.cell (p := ⟨bx, 0, none⟩) hb).trans hc; have hrow1 := made_row hown1; obtain ⟨w2, hrun, hg2, hB2⟩ := copy_one hc1 hrow1 hB1 h1))
  have hg3 : Hid (w2.heap[w0.heap.size]? = some (.cells (laidR 1 n).toArray 3 (0, 0))) := hg2
  clear hg2 hc1 hrow1 hown1 hgrow1 hB1 hrun
  go_loopw [8] (fun k wr => ∃ m : Nat, k = .int .i64 m ∧ 1 ≤ m ∧ m ≤ n ∧ Hid (wr.heap[w0.heap.size]? = some (.cells (laidR m n).toArray 3 (0, 0))) ∧ Below w0.heap.size w0 wr) (fun k _ => n - (intOf k).toNat)
  case atStart => exact ⟨1, rfl, by omega, by omega, hg3, hB2⟩
  case round =>
    clear hg3 hB2
    obtain ⟨m, rfl, m1, mn, hg, hB⟩ := hrel
    by_cases hm : m < n
    · have hm' : (m : Int) < (n : Int) := by omega
      have hnm : ¬ n = m := by omega
      obtain ⟨w4, k, hk1, hk2, hrun, hg4, hB4⟩ := copy_more (m := m) (n := n) hg.out hB m1 hm
      have HG4 : Hid _ := hg4
      clear hg hB hg4
      go_wp2
      go_region
      go_wp2
      go_roundw
      case rel => exact ⟨m + k, by simp, by omega, hk2, HG4, hB4⟩
      case measure => simp [intOf]; omega
    · have hm' : ¬ ((m : Int) < (n : Int)) := by omega
      obtain rfl : m = n := by omega
      go_wp2
      go_ret
      exact ⟨_, _, rfl, laid_row hg.out (Nat.le_refl _) h2, hB⟩

end Go.Proofs.YtnekcomkochmjaaGreatDoor

namespace Go.Proofs.YtnekcomkochmjaaGreatDoor
set_option linter.unusedVariables false
set_option linter.unusedSimpArgs false
open Go.RowKit

variable {w : World}

theorem infoU64 : (Tryz.prog.info? 168).map (fun i => (i.zero, i.size, i.bytes)) = some (some (.int .u64 0), 1, 8) := by kernel_rfl

theorem infoPl : (Tryz.prog.info? 127).map (·.size) = some 2 := by kernel_rfl

theorem madeB (n : Nat) : (madeCells #[.int .u64 0] (n * 1)).toList = (List.replicate n 0).map uv := by
  apply List.ext_getElem?
  intro j
  by_cases hj : j < n
  · simp [madeCells, hj, uv, Nat.mod_one]
  · simp [madeCells, hj]

theorem setRow2 {W : World} {g : Nat} {a b c d : Value} {t : TypeId} (h : W.heap[g]? = some (.cells #[a, b] t (0, 0))) : ((W.setCell ⟨g, 0, none⟩ c).setCell ⟨g, 1, none⟩ d).heap[g]? = some (.cells #[c, d] t (0, 0)) := by
  have h1 := heap_setCell_same W g 0 _ _ c h
  have h2 := heap_setCell_same _ g 1 _ _ d h1
  simpa using h2

set_option maxRecDepth 20000 in
set_option maxHeartbeats 2000000 in
theorem newPlaces_in {n : Nat} (hn : n ≤ 16384) :
    Calls Tryz.prog 88 #[.int .i64 n] w fun e w' => ∃ g, e = .returned (.agg #[.slice (some ⟨g, 0, none⟩) (n / 64 + 1) (n / 64 + 1), .int .i64 0]) ∧ BitRow w.heap.size g (n / 64 + 1) (List.replicate (n / 64 + 1) 0) w' ∧ Below w.heap.size w w' := by
  obtain ⟨i1, hj0, hy0, hy1, hy2⟩ := info_parts infoU64
  obtain ⟨m, hm⟩ : ∃ m, n / 64 + 1 = m := ⟨_, rfl⟩
  have h64 : (n : Int) / 64 + 1 = (m : Int) := by omega
  have hm2 : m ≤ 300 := by omega
  have hz := heap_alloc_new w (.cells #[.slice none 0 0, .int .i64 0] 127)
  rw [hm]
  clear hm
  go_enter Tryz.func88, Tryz.ntmps88
  go_wp2_with (first
    | (at_make; refine wpList_make_full _ rfl _ _ 125 rfl w.heap.size 168 i1 (.int .u64 0) 1 Tryz.underlying125 hj0 hy0 hy1 .i64 .i64 _ _ m rfl rfl rfl rfl (by rw [hy2]; omega) (by unfold maxLen; omega) (by simp; try omega) ?_; intro w1 hown1 hgrow1; have hBg := rbelow_grown hgrow1 (fun q e => by cases e) (Nat.le_refl _); have hz1 := (hBg.block w.heap.size (by simp)).trans hz; obtain ⟨⟨a0, a1⟩, ⟨f0, f1⟩⟩ := cell_row2 hz1))
  refine bodyPost_ret (results_cell_row (by rfl) _ _ w.heap.size 127 _ _ _ (by rfl) (setRow2 hz1) Tryz.underlying127 (by rfl) infoPl) (by rfl) ?_
  have hsz := hBg.size
  simp only [World.size_alloc] at hsz hown1
  refine ⟨_, rfl, ?_, ?_⟩
  · have h1 : BitRow w.heap.size (w.heap.size + 1) m (List.replicate m 0) w1 := by
      have h2 := hown1
      rw [show (Value.int IntKind.u64 0).cells = #[.int .u64 0] from rfl, madeB] at h2
      show World.ownsRow _ _ _ _ (.slice _ (List.replicate m 0).length m) (List.replicate m 0).length _
      rw [List.length_replicate]
      exact h2
    exact h1.kept ((heap_setCell_other _ ⟨w.heap.size, 1, none⟩ _ _ (by simp)).trans (heap_setCell_other _ ⟨w.heap.size, 0, none⟩ _ _ (by simp)))
  · refine ⟨hBg.os, hBg.tape, hBg.output, by simp [World.setCell]; omega, fun k hk => ?_⟩
    rw [heap_setCell_other _ ⟨w.heap.size, 1, none⟩ k _ (by simp; omega), heap_setCell_other _ ⟨w.heap.size, 0, none⟩ k _ (by simp; omega)]
    exact (hBg.block k (by simp; omega)).trans (Below.heap_alloc _ _ _ hk)

theorem rep_lo {n : Nat} : ∀ k, -1 ≤ (List.replicate n (-1 : Int)).getD k (-1) := by
  intro k
  rw [List.getD_eq_getElem?_getD, List.getElem?_replicate]
  split <;> simp

set_option maxRecDepth 20000 in
set_option maxHeartbeats 2000000 in
theorem newWalk_in {n : Nat} (h1 : 1 ≤ n) (hn : n ≤ 16384) :
    Calls Tryz.prog 51 #[.int .i64 n] w fun e w' => ∃ bw gt ct gb cb, e = .returned (.pointer (some ⟨bw, 0, none⟩)) ∧ Wk w' w.heap.size bw gt ct gb cb (List.replicate n (-1)) (List.replicate (n / 64 + 1) 0) 0 ∧ Below w.heap.size w w' := by
  have HR := repeat_in (w := w.alloc (.cells #[.int .i64 (-1)] 3)) (bx := w.heap.size) (n := n) (by simp) (by rw [cell_of_row _ _ 0 _ _ _ (heap_alloc_new w (.cells #[.int .i64 (-1)] 3))]; rfl) h1 hn
  have HP := fun (W : World) => newPlaces_in (w := W) hn
  have hBa := below1 w (.cells #[.int .i64 (-1)] 3)
  have HH : Hid (n ≤ 16384) := hn
  go_enter Tryz.func51, Tryz.ntmps51
  go_wp2_with (first
    | (go_at_call 87; (with_reducible refine HR.mono ?_); clear HR; rintro e w1 ⟨gt, ct, rfl, hnr, hB1⟩)
    | (go_at_call 88; (with_reducible refine (HP _).mono ?_); clear HP; rintro e w2 ⟨gb, rfl, hbr, hB2⟩))
  go_ret
  have s1 := hB1.size
  have s2 := hB2.size
  simp only [World.size_alloc] at s1
  have g1 := hnr.lt
  have g2 := hbr.lt
  simp only [World.size_alloc] at g1
  have hb2 : Below w.heap.size w w2 := (hBa.trans (hB1.mono (by simp))).trans (hB2.mono (by omega))
  have hb3 := below1 w2 (.cells #[.slice (some ⟨gt, 0, none⟩) n ct, .slice (some ⟨gb, 0, none⟩) (n / 64 + 1) (n / 64 + 1), .int .i64 0] 129)
  refine ⟨_, gt, ct, gb, n / 64 + 1, rfl, ⟨?_, ?_, ?_, by omega, by omega⟩, hb2.trans (hb3.mono (by omega))⟩
  · rw [List.length_replicate, List.length_replicate]
    exact heap_alloc_new w2 _
  · exact ownsRow_mono ((hnr.kept (hB2.block gt (by omega))).kept (hb3.block gt (by omega))) (by simp)
  · exact ownsRow_mono (hbr.kept (hb3.block gb (by omega))) (by omega)

end Go.Proofs.YtnekcomkochmjaaGreatDoor
