/- The program's walk in memory: what was told, what waits as bits. -/
import Derived.Test.YtpjgdbeekmoedaaDoorVbMath
import Derived.Test.YtpjgdbeekmoedaaDoorVfPRow
import Derived.Deep.RegionLaw
import Derived.Lib.MinMax
import Derived.Laws.Bits64b
namespace Go.Proofs.YtpjgdbeekmoedaaDoor
set_option linter.unusedVariables false
set_option linter.unusedSimpArgs false
open Go.RowKit

variable {w : World}

theorem ownsRow_mono {base base' : Nat} {e : TypeId} {k n : Nat} {v : Value} {xs : List Value} (h : w.ownsRow base e k v n xs) (hb : base' ≤ base) : w.ownsRow base' e k v n xs := by
  obtain ⟨h1, h2⟩ := h
  refine ⟨h1, ?_⟩
  rcases h2 with h2 | ⟨g, cap, cur, e, h3, h4⟩
  · exact .inl h2
  · exact .inr ⟨g, cap, cur, e, Nat.le_trans hb h3, h4⟩

def uv (x : Nat) : Value := .int .u64 x

/-- A row of 64 bits each, of one's own. -/
abbrev BitRow (base g c : Nat) (l : List Nat) (w : World) : Prop := w.ownsRow base 128 1 (.slice (some ⟨g, 0, none⟩) l.length c) l.length (l.map uv)

theorem BitRow.at {base g c : Nat} {l : List Nat} (h : BitRow base g c l w) {j : Nat} (hj : j < l.length) : w.cell? ⟨g, j, none⟩ = some (.int .u64 (l.getD j 0 : Nat)) := by
  rw [World.ownsRow.cellAt h _ (by omega)]
  rw [List.getElem?_map, List.getD_eq_getElem?_getD]
  simp [hj, uv]

theorem BitRow.lt {base g c : Nat} {l : List Nat} (h : BitRow base g c l w) : base ≤ g ∧ g < w.heap.size := World.ownsRow.lt h g rfl

theorem BitRow.kept {base g c : Nat} {l : List Nat} (h : BitRow base g c l w) {w' : World} (hk : w'.heap[g]? = w.heap[g]?) : BitRow base g c l w' :=
  row_kept h (fun k e => by simp [Value.ownBlock] at e; subst e; exact hk)

theorem BitRow.obj {base g c : Nat} {l : List Nat} (h : BitRow base g c l w) : ∃ cur, w.heap[g]? = some (.cells cur 128 (0, 0)) ∧ l.length ≤ cur.size ∧ cur.toList.take l.length = l.map uv := by
  rcases h.2 with ⟨e, _⟩ | ⟨g', cap, cur, e, _, hg, h1, _, h2, h3⟩
  · simp at e
  · simp at e
    obtain ⟨rfl, rfl⟩ := e
    simp at h2 h3
    exact ⟨cur, hg, by omega, h3⟩

theorem BitRow.frozen {base g c : Nat} {l : List Nat} (h : BitRow base g c l w) (j : Nat) : w.frozen? ⟨g, j, none⟩ = false := by
  obtain ⟨cur, hc, _⟩ := h.obj
  exact frozen_of_row w g j _ _ hc

theorem BitRow.set {base g c : Nat} {l : List Nat} (h : BitRow base g c l w) {j : Nat} (x : Nat) : BitRow base g c (l.set j x) (w.setCell ⟨g, j, none⟩ (.int .u64 x)) := by
  rcases h.2 with ⟨e, _⟩ | ⟨g', cap, cur, e, hb, hg, h1, hm, h2, h3⟩
  · simp at e
  · simp at e
    obtain ⟨rfl, rfl⟩ := e
    simp at h2 h3
    have hs := heap_setCell_same w g j _ _ (.int .u64 x) hg
    refine ⟨by simp, .inr ⟨g, c, _, by simp, hb, hs, by simpa using h1, hm, by simpa using h2, ?_⟩⟩
    simp only [List.length_set, Nat.mul_one, List.map_set]
    rw [← h3]
    simp [uv, List.take_set]

/-- A walk in memory. -/
structure Wk (W : World) (base bw gt ct gb cb : Nat) (told : List Int) (bs : List Nat) (lst : Nat) : Prop where
  tb : W.heap[bw]? = some (.cells #[.slice (some ⟨gt, 0, none⟩) told.length ct, .slice (some ⟨gb, 0, none⟩) bs.length cb, .int .i64 lst] 94 (0, 0))
  tr : NumRow base gt ct told W
  br : BitRow base gb cb bs W
  ap : gb ≠ gt
  bs_ : base ≤ bw
section

variable {W W' : World} {base bw gt ct gb cb : Nat} {told : List Int} {bs : List Nat} {lst : Nat}

theorem Wk.lt (h : Wk W base bw gt ct gb cb told bs lst) : bw < W.heap.size := (Array.getElem?_eq_some_iff.1 h.tb).1

theorem Wk.ne (h : Wk W base bw gt ct gb cb told bs lst) : bw ≠ gt ∧ bw ≠ gb := by
  constructor
  · intro e
    obtain ⟨cur, hc, _⟩ := h.tr.obj
    have := h.tb
    rw [e, hc] at this
    simp at this
  · intro e
    obtain ⟨cur, hc, _⟩ := h.br.obj
    have := h.tb
    rw [e, hc] at this
    simp at this

theorem Wk.keptB (h : Wk W base bw gt ct gb cb told bs lst) (h1 : W'.heap[bw]? = W.heap[bw]?) (h2 : W'.heap[gt]? = W.heap[gt]?) (h3 : W'.heap[gb]? = W.heap[gb]?) : Wk W' base bw gt ct gb cb told bs lst :=
  ⟨h1.trans h.tb, h.tr.kept h2, h.br.kept h3, h.ap, h.bs_⟩

theorem Wk.kept (h : Wk W base bw gt ct gb cb told bs lst) (hB : Below W.heap.size W W') : Wk W' base bw gt ct gb cb told bs lst :=
  h.keptB (hB.block _ h.lt) (hB.block _ h.tr.lt.2) (hB.block _ h.br.lt.2)

theorem Wk.cells (h : Wk W base bw gt ct gb cb told bs lst) : (W.cell? ⟨bw, 0, none⟩ = some (.slice (some ⟨gt, 0, none⟩) told.length ct) ∧ W.cell? ⟨bw, 1, none⟩ = some (.slice (some ⟨gb, 0, none⟩) bs.length cb) ∧ W.cell? ⟨bw, 2, none⟩ = some (.int .i64 lst)) ∧ W.frozen? ⟨bw, 2, none⟩ = false := by
  refine ⟨⟨?_, ?_, ?_⟩, frozen_of_row W bw 2 _ _ h.tb⟩
  · rw [cell_of_row W bw 0 _ _ _ h.tb]; rfl
  · rw [cell_of_row W bw 1 _ _ _ h.tb]; rfl
  · rw [cell_of_row W bw 2 _ _ _ h.tb]; rfl
end

/-- What a walk's step leaves: all but the walk's three blocks. -/
structure Fr (bw gt gb : Nat) (w w' : World) : Prop where
  os : w'.os = w.os
  tape : w'.tape = w.tape
  output : w'.output = w.output
  size : w.heap.size ≤ w'.heap.size
  block : ∀ k, k < w.heap.size → k ≠ bw → k ≠ gt → k ≠ gb → w'.heap[k]? = w.heap[k]?
section

variable {a b c : World} {bw gt gb : Nat}

theorem Fr.refl (bw gt gb : Nat) (a : World) : Fr bw gt gb a a := ⟨rfl, rfl, rfl, Nat.le_refl _, fun _ _ _ _ _ => rfl⟩

theorem Fr.trans (h : Fr bw gt gb a b) (k : Fr bw gt gb b c) : Fr bw gt gb a c :=
  ⟨k.os.trans h.os, k.tape.trans h.tape, k.output.trans h.output, Nat.le_trans h.size k.size, fun i hi h1 h2 h3 => (k.block i (Nat.lt_of_lt_of_le hi h.size) h1 h2 h3).trans (h.block i hi h1 h2 h3)⟩

theorem Fr.of_below (h : Below a.heap.size a b) : Fr bw gt gb a b := ⟨h.os, h.tape, h.output, h.size, fun k hk _ _ _ => h.block k hk⟩

theorem Fr.drew (h : Fr bw gt gb a b) : Fr bw gt gb a b.drew := ⟨h.os, h.tape, h.output, h.size, h.block⟩

theorem Fr.below {base : Nat} (h : Fr bw gt gb a b) (h1 : base ≤ bw) (h2 : base ≤ gt) (h3 : base ≤ gb) (h4 : base ≤ a.heap.size) : Below base a b :=
  ⟨h.os, h.tape, h.output, h.size, fun k hk => h.block k (by omega) (by omega) (by omega) (by omega)⟩

theorem Fr.setw (a : World) (i : Nat) (v : Value) : Fr bw gt gb a (a.setCell ⟨bw, i, none⟩ v) := ⟨rfl, rfl, rfl, by simp [World.setCell], fun k _ h1 _ _ => heap_setCell_other a ⟨bw, i, none⟩ k _ h1⟩

theorem Fr.sett (a : World) (i : Nat) (v : Value) : Fr bw gt gb a (a.setCell ⟨gt, i, none⟩ v) := ⟨rfl, rfl, rfl, by simp [World.setCell], fun k _ _ h1 _ => heap_setCell_other a ⟨gt, i, none⟩ k _ h1⟩

theorem Fr.setb (a : World) (i : Nat) (v : Value) : Fr bw gt gb a (a.setCell ⟨gb, i, none⟩ v) := ⟨rfl, rfl, rfl, by simp [World.setCell], fun k _ _ _ h1 => heap_setCell_other a ⟨gb, i, none⟩ k _ h1⟩
end

section
variable {base bw gt ct gb cb : Nat} {told : List Int} {bs : List Nat} {lst : Nat}

theorem Wk.drew (h : Wk w base bw gt ct gb cb told bs lst) : Wk w.drew base bw gt ct gb cb told bs lst := h.kept ⟨rfl, rfl, rfl, Nat.le_refl _, fun _ _ => rfl⟩

theorem Wk.tset (h : Wk w base bw gt ct gb cb told bs lst) {k : Nat} (hk : k < told.length) (d : Int) : Wk (w.setCell ⟨gt, k, none⟩ (.int .i64 d)) base bw gt ct gb cb (told.set k d) bs lst := by
  refine ⟨?_, h.tr.set hk d, h.br.kept (heap_setCell_other w ⟨gt, k, none⟩ gb _ h.ap), h.ap, h.bs_⟩
  rw [heap_setCell_other w ⟨gt, k, none⟩ bw _ h.ne.1, List.length_set]
  exact h.tb

theorem Wk.bset (h : Wk w base bw gt ct gb cb told bs lst) (k x : Nat) : Wk (w.setCell ⟨gb, k, none⟩ (.int .u64 x)) base bw gt ct gb cb told (bs.set k x) lst := by
  refine ⟨?_, h.tr.kept (heap_setCell_other w ⟨gb, k, none⟩ gt _ (Ne.symm h.ap)), h.br.set x, h.ap, h.bs_⟩
  rw [heap_setCell_other w ⟨gb, k, none⟩ bw _ h.ne.2, List.length_set]
  exact h.tb

theorem Wk.lset (h : Wk w base bw gt ct gb cb told bs lst) (x : Nat) : Wk (w.setCell ⟨bw, 2, none⟩ (.int .i64 x)) base bw gt ct gb cb told bs x := by
  refine ⟨?_, h.tr.kept (heap_setCell_other w ⟨bw, 2, none⟩ gt _ (Ne.symm h.ne.1)), h.br.kept (heap_setCell_other w ⟨bw, 2, none⟩ gb _ (Ne.symm h.ne.2)), h.ap, h.bs_⟩
  have := heap_setCell_same w bw 2 _ _ (.int .i64 x) h.tb
  simpa using this

theorem pow_wrap {r : Nat} (h : r < 64) : IntKind.u64.wrap (2 ^ r) = ((2 ^ r : Nat) : Int) := by
  have h1 : (2 : Nat) ^ r < 2 ^ 64 := Nat.pow_lt_pow_right (by omega) h
  have e : ((2 : Int) ^ r) = ((2 ^ r : Nat) : Int) := by simp
  rw [e, IntKind.wrap_u64]
  generalize 2 ^ r = x at h1
  omega

set_option maxRecDepth 20000 in
set_option maxHeartbeats 2000000 in
/-- One place more waits. -/
theorem badd_in (h : Wk w base bw gt ct gb cb told bs lst) {k : Nat} (hk : k / 64 < bs.length) (hw : ∀ i, bs.getD i 0 < 2 ^ 64) (hl : bs.length ≤ 100000) :
    Calls Tryd.prog 69 #[.pointer (some ⟨bw, 1, none⟩), .int .i64 k] w fun e w' => e = .returned (.tuple #[]) ∧ Wk w' base bw gt ct gb cb told (setB bs k) (min lst (k / 64)) ∧ Fr bw gt gb w w' := by
  obtain ⟨⟨-, c1, c2⟩, f2⟩ := h.cells
  have b0 := h.br.at hk
  have bf := h.br.frozen (k / 64)
  have HH : Hid _ := h
  obtain ⟨B, hB⟩ : ∃ B, bs.getD (k / 64) 0 = B := ⟨_, rfl⟩
  have hB64 := hw (k / 64)
  rw [hB] at b0 hB64
  have h64 : (k : Int) / 64 = ((k / 64 : Nat) : Int) := by omega
  have h65 : (k : Int) % 64 = ((k % 64 : Nat) : Int) := by omega
  obtain ⟨q, hq⟩ : ∃ q, k / 64 = q := ⟨_, rfl⟩
  obtain ⟨r, hr⟩ : ∃ r, k % 64 = r := ⟨_, rfl⟩
  have hk2 : k < 6400000 := by omega
  rw [hq] at b0 bf hk h64 ⊢
  rw [hr] at h65
  have hqi : (q : Int) < (bs.length : Int) := by omega
  obtain ⟨-, hne⟩ := h.ne
  have hne' : ¬ gb = bw := fun e => hne e.symm
  have hor : bits BinOp.or IntKind.u64 (B : Int) (IntKind.u64.wrap (2 ^ r)) = ((B ||| 2 ^ r : Nat) : Int) := by
    rw [pow_wrap (by omega)]
    exact bits_or_u64_nat _ _ (by omega) (Nat.pow_lt_pow_right (by omega : 1 < 2) (by omega : r < 64))
  have hqr : Hid (k / 64 = q ∧ k % 64 = r) := ⟨hq, hr⟩
  clear h hw hq hr
  go_enter Tryd.func69, Tryd.ntmps69
  go_wp2
  go_region
  go_wp2
  go_end0
  have h := HH.out
  obtain ⟨e1, e2⟩ := hqr.out
  have hm : (min (lst : Int) (q : Int)) = ((min lst q : Nat) : Int) := by omega
  rw [hm]
  refine ⟨rfl, ?_, ((Fr.setb w _ _).trans (Fr.setw _ _ _)).drew⟩
  have h1 := ((h.bset q (B ||| 2 ^ r)).lset (min lst q)).drew
  have e3 : setB bs k = bs.set q (B ||| 2 ^ r) := by
    unfold setB
    rw [e1, e2, ← hB, e1]
  rw [e3]
  exact h1
end

end Go.Proofs.YtpjgdbeekmoedaaDoor
