/- The laid table of rows. -/
import Derived.Test.YtnekcomkochmjaaGreatDoorVfProg
import Derived.Test.YtnekcomkochmjaaGreatDoorRows
import Derived.Lib.LaidU8
import Derived.WalkKit
import Derived.ProofKit
import Derived.OpenShut
import Derived.ShutString
import Derived.ChangeOld
import Derived.Below
import Derived.LaidSub
import Derived.Deep.Slices
import Derived.Deep.DeepHandedRow
import Derived.Lib.LaidTab
import Derived.Test.YtnekcomkochmjaaGreatDoorLkIns
import Derived.Test.YtnekcomkochmjaaGreatDoorLkTab
import Derived.Test.YtnekcomkochmjaaGreatDoorLpNum
import Derived.Stop.LaidErr
namespace Go.Proofs.YtnekcomkochmjaaGreatDoor
set_option linter.unusedVariables false
set_option linter.unusedSimpArgs false
open Go.RowKit Go.Lib

/-- A row as it is laid. -/
def rwD {H : Type} (r : Rw) : DataW H := .agg [.lit (.int .u8 r.number), .lit (.int .u8 r.takes), .lit (.int .u8 r.each), .lit (.int .u8 r.leaves), .lit (.bool r.ends)]

theorem rows_data : (Rows.laid_gearbox_verify_rows : DataW Unit) = .agg (rowsL.map rwD) := rfl

set_option maxRecDepth 20000 in
theorem row_cells {w : World} {base : Nat} {sp : Nat → Bool} {held : Bool} {enc : TypeId × Value → Unit} {fuel : Nat} {cs : List Value} {r : Rw} {q : List MemPlace} (h : DataW.trod enc Tryz.prog w base sp held fuel 114 cs = some (rwD r, q)) : cs = rwC r := by
  obtain ⟨xs, n, rfl, hx, hl, hxl, hall⟩ := DataW.trod_struct Tryz.underlying114 h
  have hx1 := congrArg Prod.fst hx
  simp only [rwD, DataW.agg.injEq] at hx1
  have hl5 : cs.length = 5 := hl.trans (by kernel_rfl)
  have hx5 : xs.length = 5 := hxl
  match xs, hx5 with
  | [x0, x1, x2, x3, x4], _ =>
  match cs, hl5 with
  | [c0, c1, c2, c3, c4], _ =>
  have k1 : Tryz.prog.cellsOf 112 = 1 := by kernel_rfl
  have k2 : Tryz.prog.cellsOf 5 = 1 := by kernel_rfl
  have k3 : Tryz.prog.cellsOf 4 = 1 := by kernel_rfl
  have h0 : DataW.trod enc Tryz.prog w base sp held n 112 (([c0, c1, c2, c3, c4].drop 0).take (Tryz.prog.cellsOf 112)) = some x0 := hall 0 _ rfl
  have h1 : DataW.trod enc Tryz.prog w base sp held n 5 (([c0, c1, c2, c3, c4].drop 1).take (Tryz.prog.cellsOf 5)) = some x1 := hall 1 _ rfl
  have h2 : DataW.trod enc Tryz.prog w base sp held n 5 (([c0, c1, c2, c3, c4].drop 2).take (Tryz.prog.cellsOf 5)) = some x2 := hall 2 _ rfl
  have h3 : DataW.trod enc Tryz.prog w base sp held n 5 (([c0, c1, c2, c3, c4].drop 3).take (Tryz.prog.cellsOf 5)) = some x3 := hall 3 _ rfl
  have h4 : DataW.trod enc Tryz.prog w base sp held n 4 (([c0, c1, c2, c3, c4].drop 4).take (Tryz.prog.cellsOf 4)) = some x4 := hall 4 _ rfl
  simp only [k1, k2, k3, List.drop_zero, List.drop_succ_cons, List.take_succ_cons, List.take_zero, List.getElem?_cons_zero, List.getElem?_cons_succ] at h0 h1 h2 h3 h4
  obtain ⟨n0, e0, d0, -⟩ := DataW.trod_int Tryz.underlying112 h0
  obtain ⟨n1, e1, d1, -⟩ := DataW.trod_int Tryz.underlying5 h1
  obtain ⟨n2, e2, d2, -⟩ := DataW.trod_int Tryz.underlying5 h2
  obtain ⟨n3, e3, d3, -⟩ := DataW.trod_int Tryz.underlying5 h3
  obtain ⟨n4, e4, d4⟩ := DataW.trod_bool Tryz.underlying4 h4
  simp only [List.map_cons, List.map_nil, List.cons.injEq, and_true, d0, d1, d2, d3, d4, DataW.lit.injEq, Lit.int.injEq, Lit.bool.injEq, true_and] at hx1 e0 e1 e2 e3 e4
  obtain ⟨a0, a1, a2, a3, a4⟩ := hx1
  rw [e0, e1, e2, e3, e4, ← a0, ← a1, ← a2, ← a3, ← a4]
  rfl

theorem rowsG : ∃ g, Tryz.prog.globalNamed "gearbox/verify.rows" = some g := ⟨_, rfl⟩

theorem rows_row {W : World} (h : laidMetH Tryz.prog [("gearbox/verify.rows", Rows.laid_gearbox_verify_rows)] W) : RowAt rwC 5 W (some ⟨2, 0, none⟩) rowsL := by
  have h4 : laidMet Tryz.prog [("gearbox/verify.rows", Rows.laid_gearbox_verify_rows)] W := h
  rw [rows_data] at h4
  obtain ⟨ps, ⟨g', t', cs, fuel, p, q, hg', ht', hvar, hd, _, _⟩, _⟩ := h4
  have hg0 : Tryz.prog.globalNamed "gearbox/verify.rows" = some 2 := by kernel_rfl
  obtain rfl : 2 = g' := Option.some.inj (hg0.symm.trans hg')
  have ht0 : (Tryz.prog.globals[2]?).map (·.type) = some 160 := by kernel_rfl
  obtain rfl : 160 = t' := Option.some.inj (ht0.symm.trans ht')
  have k5 : Tryz.prog.cellsOf 114 = 5 := by kernel_rfl
  intro j x hj
  have hj31 : j < 31 := (List.getElem?_eq_some_iff.1 hj).1
  obtain ⟨fuel', d, q', hd1, hd2⟩ := array_elem Tryz.underlying160 hd j hj31
  rw [List.getElem?_map, hj] at hd1
  simp at hd1
  subst hd1
  have hc := row_cells hd2
  rw [k5] at hc
  refine ⟨2, 0, rfl, ?_, fun i u hu => ?_⟩
  · have hx0 : (rwC x)[0]? = some (.int .u8 x.number) := rfl
    have h1 := World.var?_cell hg0 hvar (j * 5 + 0)
    have h2 : cs[j * 5 + 0]? = some (.int .u8 x.number) := by
      have h3 := congrArg (·[0]?) hc
      simp only [List.getElem?_take, List.getElem?_drop] at h3
      rw [← Array.getElem?_toList]
      exact h3.trans hx0
    rw [h2] at h1
    rcases Nat.lt_or_ge W.heap.size (2 + 1) with e | e
    · exfalso
      have hh : W.heap[2]? = none := Array.getElem?_eq_none (by omega)
      simp [World.cell?, hh] at h1
    · exact e
  · have h1 := World.var?_cell hg0 hvar (j * 5 + i)
    have h2 : cs[j * 5 + i]? = some u := by
      have hi : i < 5 := by have := (List.getElem?_eq_some_iff.1 hu).1; simpa [rwC] using this
      have h3 := congrArg (·[i]?) hc
      simp only [List.getElem?_take, List.getElem?_drop, hi, if_true] at h3
      rw [← Array.getElem?_toList, h3]
      exact hu
    rw [show (0 : Nat) + j * 5 + i = j * 5 + i by omega]
    rw [h1]
    exact h2

theorem tz_data : (Rows.laid_math_bits_deBruijn64tab : DataW Unit) = Lib.tabData .u8 (List.map (fun (x : Nat) => (x : Int)) Lib.deBruijn64tab) := by kernel_rfl

theorem tz_one {W : World} (h : laidMetH Tryz.prog [("math/bits.deBruijn64tab", Rows.laid_math_bits_deBruijn64tab)] W) : TabAt 4 Lib.deBruijn64tab W := by
  have h4 : laidMet Tryz.prog [("math/bits.deBruijn64tab", Rows.laid_math_bits_deBruijn64tab)] W := h
  rw [tz_data] at h4
  have hg : Tryz.prog.globalNamed "math/bits.deBruijn64tab" = some 4 := by kernel_rfl
  have hT := Lib.tabIs_of_head (t := 184) (e := 5) (n := 64) hg (by kernel_rfl) Tryz.underlying184 Tryz.underlying5 (by kernel_rfl) (by kernel_rfl) h4
  intro j hj
  have h1 := hT.cell hg j (by rw [List.length_map]; exact hj)
  rw [h1, List.getD_eq_getElem?_getD, List.getElem?_map, List.getD_eq_getElem?_getD]
  simp [hj]

theorem rows_of {W : World} (h : laidMetH Tryz.prog [("math/bits.deBruijn64tab", Rows.laid_math_bits_deBruijn64tab), ("gearbox/verify.rows", Rows.laid_gearbox_verify_rows)] W) : RowsT W :=
  ⟨rows_row (h.filter (fun x => x.1 == "gearbox/verify.rows")), tz_one (h.filter (fun x => x.1 == "math/bits.deBruijn64tab"))⟩

/-- The cells of a table that is laid. -/
def litCells (d : DataW Unit) : Array Value :=
  match d with
  | .agg ps => (ps.map fun p => match p with
    | .lit (.int k n) => Value.int k n
    | _ => .bool false).toArray
  | _ => #[]

def layRow (cs : Array Value) : Obj → Obj
  | .cells _ t frozen => .cells cs t frozen
  | o => o

/-- A world, its two tables laid. -/
def laidOn (w : World) : World := { w with heap := (w.heap.modify 4 (layRow (litCells Rows.laid_math_bits_deBruijn64tab))).modify 2 (layRow (rowsL.flatMap rwC).toArray) }

end Go.Proofs.YtnekcomkochmjaaGreatDoor

namespace Go.Proofs.YtnekcomkochmjaaGreatDoor
set_option linter.unusedVariables false
set_option linter.unusedSimpArgs false
open Go.ChangeShapes Go.WideShapes Go.ChangeAt Go.RowKit

namespace Lk

/-- The cells of a table that is laid. -/
def litCells (d : DataW Unit) : Array Value :=
  match d with
  | .agg ps => (ps.map fun p => match p with
    | .lit (.int k n) => Value.int k n
    | .lit (.string l) => Value.string ⟨l.toArray⟩
    | _ => .bool false).toArray
  | _ => #[]

/-- A world, its six tables laid. -/
def laidOn6 (w : World) : World :=
  { w with heap := (((((w.heap.modify 5 (layRow (litCells Rows.laid_internal_strconv_uint64pow10))).modify 8 (layRow (litCells Rows.laid_math_bits_deBruijn32tab))).modify 4 (layRow (litCells Rows.laid_math_bits_deBruijn64tab))).modify 2 (layRow (rowsL.flatMap rwC).toArray)).modify 0 (layRow (litCells Rows.laid_gearbox_listing_ops))).modify 1 (layRow (litCells Rows.laid_gearbox_listing_bins)) }

theorem pow_data : (Rows.laid_internal_strconv_uint64pow10 : DataW Unit) = Lib.tabData .u64 Lib.pow10Tab := by kernel_rfl

theorem tab_one {W : World} (h4 : laidMet Tryz.prog [("internal/strconv.uint64pow10", Rows.laid_internal_strconv_uint64pow10)] W) : Tab W := by
  rw [pow_data] at h4
  obtain ⟨g, hg⟩ := tabG
  refine Lib.tabIs_of_head (t := 209) (e := 168) (n := 20) hg ?_ Tryz.underlying209 Tryz.underlying168 (by kernel_rfl) (by kernel_rfl) h4
  have : (Tryz.prog.globalNamed "internal/strconv.uint64pow10").bind (fun g => (Tryz.prog.globals[g]?).map (·.type)) = some 209 := by kernel_rfl
  rw [hg] at this
  exact this

theorem gOps : Tryz.prog.globalNamed "gearbox/listing.ops" = some 0 := by kernel_rfl

theorem gOpsT : (Tryz.prog.globals[0]?).map (·.type) = some 102 := by kernel_rfl

theorem gBins : Tryz.prog.globalNamed "gearbox/listing.bins" = some 1 := by kernel_rfl

theorem gBinsT : (Tryz.prog.globals[1]?).map (·.type) = some 103 := by kernel_rfl

theorem cellsWord : Tryz.prog.cellsOf 70 = 1 := by kernel_rfl

theorem cellsOps : Tryz.prog.cellsOf 102 = 31 := by kernel_rfl

theorem cellsBins : Tryz.prog.cellsOf 103 = 10 := by kernel_rfl

theorem ops_data : (Rows.laid_gearbox_listing_ops : DataW Unit) = .agg (opsL.map fun l => .lit (.string l)) := by kernel_rfl

theorem bins_data : (Rows.laid_gearbox_listing_bins : DataW Unit) = .agg (binsL.map fun l => .lit (.string l)) := by kernel_rfl

/-- An array of texts that reads as texts holds them. -/
theorem cells_of_strs {H : Type} {enc : TypeId × Value → H} {P : Program} {w : World} {base : Nat} {sp : Nat → Bool} {held : Bool} {fuel : Nat} {t e : TypeId} {n : Nat} {cs : List Value} {ls : List (List UInt8)} {p : List MemPlace}
    (ht : P.underlying t = some (.array n e)) (he : P.underlying e = some .string) (hce : P.cellsOf e = 1) (hct : P.cellsOf t = n)
    (h : DataW.trod enc P w base sp held fuel t cs = some (.agg (ls.map fun l => .lit (.string l)), p)) : cs = ls.map fun l => Value.string (bs l) := by
  obtain ⟨xs, m, _, hx, hcl, hxl, hel⟩ := DataW.trod_array ht h
  rw [hct] at hcl
  have hxs : xs.map (·.1) = ls.map fun l => (DataW.lit (.string l) : DataW H) := by
    have := congrArg Prod.fst hx
    simpa using this.symm
  have hll : ls.length = n := by
    have := congrArg List.length hxs
    simp at this
    omega
  apply List.ext_getElem?
  intro i
  by_cases hi : i < n
  · have h1 := hel i hi
    obtain ⟨y, hy⟩ : ∃ y, xs[i]? = some y := ⟨xs[i], by simp⟩
    rw [hy, hce, Nat.mul_one] at h1
    obtain ⟨s, hc, rfl, _⟩ := DataW.trod_string he h1
    have h2 : cs[i]? = some (.string s) := by
      have := congrArg (·[0]?) hc
      simpa [List.getElem?_take, List.getElem?_drop] using this
    have h3 : (xs.map (·.1))[i]? = some (DataW.lit (.string s.data.toList) : DataW H) := by simp [hy]
    rw [hxs] at h3
    simp only [List.getElem?_map, Option.map_eq_some_iff, DataW.lit.injEq, Lit.string.injEq] at h3
    obtain ⟨l, hl, e2⟩ := h3
    rw [h2, List.getElem?_map, hl]
    simp only [Option.map_some, Option.some.injEq, Value.string.injEq]
    rw [e2, bs_of]
  · rw [List.getElem?_eq_none (by omega), List.getElem?_eq_none (by simp; omega)]

theorem words_row {W : World} {g : Nat} {cs : Array Value} {L : List (List UInt8)} {nm : String} (hg : Tryz.prog.globalNamed nm = some g) (hv : W.var? Tryz.prog nm = some cs) (hcs : cs.toList = L.map fun l => Value.string (bs l)) : RowAt strC 1 W (some ⟨g, 0, none⟩) L := by
  intro j x hj
  have hc : W.cell? ⟨g, j, none⟩ = some (.string (bs x)) := by
    rw [World.var?_cell hg hv j]
    rw [← Array.getElem?_toList, hcs]
    simp [hj]
  refine ⟨g, 0, rfl, ?_, fun i u hu => ?_⟩
  · exact World.block_lt_of_cell? W ⟨g, j, none⟩ hc
  · have hi : i < 1 := (List.getElem?_eq_some_iff.1 hu).1
    obtain rfl : i = 0 := by omega
    simp [strC] at hu
    subst hu
    simpa using hc

/-- What the row lists is what the walks ask. -/
theorem three_of {W : World} (h : laidMetH Tryz.prog [("math/bits.deBruijn32tab", Rows.laid_math_bits_deBruijn32tab), ("math/bits.deBruijn64tab", Rows.laid_math_bits_deBruijn64tab), ("internal/strconv.uint64pow10", Rows.laid_internal_strconv_uint64pow10), ("gearbox/verify.rows", Rows.laid_gearbox_verify_rows), ("gearbox/listing.ops", Rows.laid_gearbox_listing_ops), ("gearbox/listing.bins", Rows.laid_gearbox_listing_bins)] W) : RowsT W ∧ Tab W ∧ WordsT W := by
  have h1 : RowsT W := ⟨rows_row (h.filter (fun x => x.1 == "gearbox/verify.rows")), tz_one (h.filter (fun x => x.1 == "math/bits.deBruijn64tab"))⟩
  have h2 : laidMetH Tryz.prog [("internal/strconv.uint64pow10", Rows.laid_internal_strconv_uint64pow10)] W := h.filter (fun x => x.1 == "internal/strconv.uint64pow10")
  have h3 : laidMetH Tryz.prog [("gearbox/listing.ops", Rows.laid_gearbox_listing_ops)] W := h.filter (fun x => x.1 == "gearbox/listing.ops")
  have h4 : laidMetH Tryz.prog [("gearbox/listing.bins", Rows.laid_gearbox_listing_bins)] W := h.filter (fun x => x.1 == "gearbox/listing.bins")
  have m3 : laidMet Tryz.prog [("gearbox/listing.ops", Rows.laid_gearbox_listing_ops)] W := h3
  have m4 : laidMet Tryz.prog [("gearbox/listing.bins", Rows.laid_gearbox_listing_bins)] W := h4
  refine ⟨h1, tab_one h2, ⟨?_, ?_⟩⟩
  · rw [ops_data] at m3
    obtain ⟨ps, ⟨g0, t0, cs0, f0, p0, q0, hg0, ht0, hv0, hd0, _, e0⟩, _, _⟩ := m3
    obtain rfl := Option.some.inj (gOps.symm.trans hg0)
    obtain rfl := Option.some.inj (gOpsT.symm.trans ht0)
    exact words_row gOps hv0 (cells_of_strs Tryz.underlying102 Tryz.underlying70 cellsWord cellsOps hd0)
  · rw [bins_data] at m4
    obtain ⟨ps, ⟨g0, t0, cs0, f0, p0, q0, hg0, ht0, hv0, hd0, _, e0⟩, _, _⟩ := m4
    obtain rfl := Option.some.inj (gBins.symm.trans hg0)
    obtain rfl := Option.some.inj (gBinsT.symm.trans ht0)
    exact words_row gBins hv0 (cells_of_strs Tryz.underlying103 Tryz.underlying70 cellsWord cellsBins hd0)

end Lk

end Go.Proofs.YtnekcomkochmjaaGreatDoor

namespace Go.Proofs.YtnekcomkochmjaaGreatDoor
set_option linter.unusedVariables false
set_option linter.unusedSimpArgs false
open Go.ChangeShapes Go.WideShapes Go.ChangeAt Go.RowKit

namespace Lp
open Lk

/-- How many blocks there are at the start. -/
def low (w0 : World := World.holding Tryz.prog default ⟨#[], #[], []⟩) : Nat := w0.heap.size

/-- A world, its variables laid. -/
def laidOn8 (os : Os) (w0 : World := Lk.laidOn6 (World.holding Tryz.prog os ⟨#[.cells #[.string ⟨#[118, 97, 108, 117, 101, 32, 111, 117, 116, 32, 111, 102, 32, 114, 97, 110, 103, 101]⟩] 228, .cells #[.string ⟨#[105, 110, 118, 97, 108, 105, 100, 32, 115, 121, 110, 116, 97, 120]⟩] 228], #[], []⟩)) (lo : Nat := low) : World :=
  { w0 with heap := (w0.heap.modify 7 (layRow #[.iface 226 (.pointer (some ⟨lo, 0, none⟩))])).modify 6 (layRow #[.iface 226 (.pointer (some ⟨lo + 1, 0, none⟩))]) }

theorem gRange : Tryz.prog.globalNamed "strconv.ErrRange" = some 7 := by kernel_rfl

theorem gRangeT : (Tryz.prog.globals[7]?).map (·.type) = some 99 := by kernel_rfl

theorem gSyntax : Tryz.prog.globalNamed "strconv.ErrSyntax" = some 6 := by kernel_rfl

theorem gSyntaxT : (Tryz.prog.globals[6]?).map (·.type) = some 99 := by kernel_rfl

theorem star : "*" ++ "errors.errorString" = "*errors.errorString" := by decide

theorem rowErr (u : TypeId) (h : Tryz.prog.typeName? 3 u = some "*errors.errorString") : u = 226 :=
  typeName_ptr_named (nm := "errors.errorString") (by rw [star]; kernel_rfl) (by kernel_rfl) (by decide) u (by rw [star]; exact h)

theorem cellsErr : Tryz.prog.cellsOf 228 = 1 := by kernel_rfl

theorem cellsStr : Tryz.prog.cellsOf 9 = 1 := by kernel_rfl

/-- What the walks ask. -/
structure Four (W : World) : Prop where
  err : ErrT W
  tab : Tab W
  words : WordsT W
  rows : RowsT W

/-- What the row lists is what the walks ask. -/
theorem four_of {W : World} (h : laidMetH Tryz.prog [("math/bits.deBruijn32tab", Rows.laid_math_bits_deBruijn32tab), ("math/bits.deBruijn64tab", Rows.laid_math_bits_deBruijn64tab), ("internal/strconv.uint64pow10", Rows.laid_internal_strconv_uint64pow10), ("strconv.ErrRange", Rows.laid_strconv_ErrRange), ("strconv.ErrSyntax", Rows.laid_strconv_ErrSyntax), ("gearbox/verify.rows", Rows.laid_gearbox_verify_rows), ("gearbox/listing.ops", Rows.laid_gearbox_listing_ops), ("gearbox/listing.bins", Rows.laid_gearbox_listing_bins)] W) : Four W := by
  have h6 : laidMetH Tryz.prog [("math/bits.deBruijn32tab", Rows.laid_math_bits_deBruijn32tab), ("math/bits.deBruijn64tab", Rows.laid_math_bits_deBruijn64tab), ("internal/strconv.uint64pow10", Rows.laid_internal_strconv_uint64pow10), ("gearbox/verify.rows", Rows.laid_gearbox_verify_rows), ("gearbox/listing.ops", Rows.laid_gearbox_listing_ops), ("gearbox/listing.bins", Rows.laid_gearbox_listing_bins)] W := h.filter (fun x => !(x.1 == "strconv.ErrRange" || x.1 == "strconv.ErrSyntax"))
  have h1 : laidMetH Tryz.prog [("strconv.ErrRange", Rows.laid_strconv_ErrRange)] W := h.filter (fun x => x.1 == "strconv.ErrRange")
  have h2 : laidMetH Tryz.prog [("strconv.ErrSyntax", Rows.laid_strconv_ErrSyntax)] W := h.filter (fun x => x.1 == "strconv.ErrSyntax")
  have m1 : laidMet Tryz.prog [("strconv.ErrRange", Rows.laid_strconv_ErrRange)] W := h1
  have m2 : laidMet Tryz.prog [("strconv.ErrSyntax", Rows.laid_strconv_ErrSyntax)] W := h2
  obtain ⟨a1, s1, hv1, -⟩ := laid_sentinel m1 gRange gRangeT Tryz.underlying99 rowErr Tryz.underlying226 Tryz.underlying228 rfl rfl Tryz.underlying9 cellsErr cellsStr
  obtain ⟨a2, s2, hv2, -⟩ := laid_sentinel m2 gSyntax gSyntaxT Tryz.underlying99 rowErr Tryz.underlying226 Tryz.underlying228 rfl rfl Tryz.underlying9 cellsErr cellsStr
  have e1 : W.cell? ⟨7, 0, none⟩ = some (.iface 226 (.pointer (some a1))) := by
    have := World.var?_cell gRange hv1 0
    simpa using this
  have e2 : W.cell? ⟨6, 0, none⟩ = some (.iface 226 (.pointer (some a2))) := by
    have := World.var?_cell gSyntax hv2 0
    simpa using this
  obtain ⟨r1, r2, r3⟩ := three_of h6
  exact ⟨⟨⟨_, _, e2, World.block_lt_of_cell? W _ e2⟩, _, _, e1, World.block_lt_of_cell? W _ e1⟩, r2, r3, r1⟩

end Lp

end Go.Proofs.YtnekcomkochmjaaGreatDoor
