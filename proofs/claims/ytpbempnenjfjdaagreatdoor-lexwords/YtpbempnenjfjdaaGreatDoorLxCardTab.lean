/- What a card's row lists: the signs, the two errors, the tables, laid. -/
import Derived.Test.YtpbempnenjfjdaaGreatDoorLxSame
import Derived.Test.YtpbempnenjfjdaaGreatDoorCards
import Derived.Test.YtpbempnenjfjdaaGreatDoorTie
import Derived.WalkKit
import Derived.ProofKit
import Derived.OpenShut
import Derived.ShutString
import Derived.ChangeOld
import Derived.Below
import Derived.LaidSub
import Derived.Deep.Slices
import Derived.Deep.DeepHandedRow
import Derived.Lib.LaidTab
import Derived.Stop.LaidErr
namespace Go.Proofs.YtpbempnenjfjdaaGreatDoor
set_option linter.unusedVariables false
set_option linter.unusedSimpArgs false
open Go.ChangeShapes Go.WideShapes Go.ChangeAt Go.RowKit

/-- The cells of a table that is laid. -/
def litCells (d : DataW Unit) : Array Value :=
  match d with
  | .agg ps => (ps.map fun p => match p with
    | .lit (.int k n) => Value.int k n
    | .lit (.string l) => Value.string ⟨l.toArray⟩
    | _ => .bool false).toArray
  | _ => #[]

def layRow (cs : Array Value) (o : Obj) : Obj :=
  match o with
  | .cells _ t frozen => .cells cs t frozen
  | o => o

/-- How many blocks there are at the start. -/
def low (w0 : World := World.holding Tryz.prog default ⟨#[], #[], []⟩) : Nat := w0.heap.size

/-- A world, its variables laid. -/
def laidWorld (os : Os) (w0 : World := World.holding Tryz.prog os ⟨#[.cells #[.string ⟨#[118, 97, 108, 117, 101, 32, 111, 117, 116, 32, 111, 102, 32, 114, 97, 110, 103, 101]⟩] 250, .cells #[.string ⟨#[105, 110, 118, 97, 108, 105, 100, 32, 115, 121, 110, 116, 97, 120]⟩] 250], #[], []⟩) (lo : Nat := low) : World :=
  { w0 with heap := (((((w0.heap.modify 4 (layRow (litCells Rows.laid_internal_strconv_uint64pow10))).modify 5 (layRow (litCells Rows.laid_math_bits_deBruijn32tab))).modify 6 (layRow (litCells Rows.laid_math_bits_deBruijn64tab))).modify 0 (layRow (litCells Rows.laid_gearbox_lex_signs))).modify 2 (layRow #[.iface 248 (.pointer (some ⟨lo, 0, none⟩))])).modify 1 (layRow #[.iface 248 (.pointer (some ⟨lo + 1, 0, none⟩))]) }

theorem gRange : Tryz.prog.globalNamed "strconv.ErrRange" = some 2 := by kernel_rfl

theorem gRangeT : (Tryz.prog.globals[2]?).map (·.type) = some 213 := by kernel_rfl

theorem gSyntax : Tryz.prog.globalNamed "strconv.ErrSyntax" = some 1 := by kernel_rfl

theorem gSyntaxT : (Tryz.prog.globals[1]?).map (·.type) = some 213 := by kernel_rfl

theorem gSigns : Tryz.prog.globalNamed "gearbox/lex.signs" = some 0 := by kernel_rfl

theorem gSignsT : (Tryz.prog.globals[0]?).map (·.type) = some 219 := by kernel_rfl

theorem gLast : Tryz.prog.globalNamed "math/bits.deBruijn64tab" = some 6 := by kernel_rfl

theorem star : "*" ++ "errors.errorString" = "*errors.errorString" := by decide

theorem rowErr (u : TypeId) (h : Tryz.prog.typeName? 3 u = some "*errors.errorString") : u = 248 :=
  typeName_ptr_named (nm := "errors.errorString") (by rw [star]; kernel_rfl) (by kernel_rfl) (by decide) u (by rw [star]; exact h)

theorem cellsErr : Tryz.prog.cellsOf 250 = 1 := by kernel_rfl

theorem cellsStr : Tryz.prog.cellsOf 9 = 1 := by kernel_rfl

theorem cellsSigns : Tryz.prog.cellsOf 219 = 21 := by kernel_rfl

theorem signs_data : (Rows.laid_gearbox_lex_signs : DataW Unit) = .agg (sigs.map fun l => .lit (.string l)) := by kernel_rfl

/-- An array of texts that reads as texts holds them. -/
theorem cells_of_strs {H : Type} {enc : TypeId × Value → H} {P : Program} {w : World} {base : Nat} {sp : Nat → Bool} {held : Bool} {fuel : Nat} {t e : TypeId} {n : Nat} {cs : List Value} {ls : List (List UInt8)} {p : List MemPlace}
    (ht : P.underlying t = some (.array n e)) (he : P.underlying e = some .string) (hce : P.cellsOf e = 1) (hct : P.cellsOf t = n)
    (h : DataW.trod enc P w base sp held fuel t cs = some (.agg (ls.map fun l => .lit (.string l)), p)) : cs = ls.map fun l => Value.string (bs l) := by
  obtain ⟨xs, m, _, hx, hcl, hxl, hel⟩ := DataW.trod_array ht h
  rw [hct] at hcl
  have hxs : xs.map (·.1) = ls.map fun l => (DataW.lit (.string l) : DataW H) := by
    have := congrArg Prod.fst hx
    simpa using this.symm
  have hll : ls.length = n := by
    have := congrArg List.length hxs
    simp at this
    omega
  apply List.ext_getElem?
  intro i
  by_cases hi : i < n
  · have h1 := hel i hi
    obtain ⟨y, hy⟩ : ∃ y, xs[i]? = some y := ⟨xs[i], by simp⟩
    rw [hy, hce, Nat.mul_one] at h1
    obtain ⟨s, hc, rfl, _⟩ := DataW.trod_string he h1
    have h2 : cs[i]? = some (.string s) := by
      have := congrArg (·[0]?) hc
      simpa [List.getElem?_take, List.getElem?_drop] using this
    have h3 : (xs.map (·.1))[i]? = some (DataW.lit (.string s.data.toList) : DataW H) := by simp [hy]
    rw [hxs] at h3
    simp only [List.getElem?_map, Option.map_eq_some_iff, DataW.lit.injEq, Lit.string.injEq] at h3
    obtain ⟨l, hl, e2⟩ := h3
    rw [h2, List.getElem?_map, hl]
    simp only [Option.map_some, Option.some.injEq, Value.string.injEq]
    rw [e2, bs_of]
  · rw [List.getElem?_eq_none (by omega), List.getElem?_eq_none (by simp; omega)]

/-- What the row lists is what the walks ask. -/
theorem lx_of {W : World} (h : laidMetH Tryz.prog [("math/bits.deBruijn32tab", Rows.laid_math_bits_deBruijn32tab), ("math/bits.deBruijn64tab", Rows.laid_math_bits_deBruijn64tab), ("internal/strconv.uint64pow10", Rows.laid_internal_strconv_uint64pow10), ("strconv.ErrRange", Rows.laid_strconv_ErrRange), ("strconv.ErrSyntax", Rows.laid_strconv_ErrSyntax), ("gearbox/lex.signs", Rows.laid_gearbox_lex_signs)] W) : Lx W := by
  have h1 : laidMetH Tryz.prog [("strconv.ErrRange", Rows.laid_strconv_ErrRange)] W := h.filter (fun x => x.1 == "strconv.ErrRange")
  have h2 : laidMetH Tryz.prog [("strconv.ErrSyntax", Rows.laid_strconv_ErrSyntax)] W := h.filter (fun x => x.1 == "strconv.ErrSyntax")
  have h3 : laidMetH Tryz.prog [("gearbox/lex.signs", Rows.laid_gearbox_lex_signs)] W := h.filter (fun x => x.1 == "gearbox/lex.signs")
  have h4 : laidMetH Tryz.prog [("math/bits.deBruijn64tab", Rows.laid_math_bits_deBruijn64tab)] W := h.filter (fun x => x.1 == "math/bits.deBruijn64tab")
  have m1 : laidMet Tryz.prog [("strconv.ErrRange", Rows.laid_strconv_ErrRange)] W := h1
  have m2 : laidMet Tryz.prog [("strconv.ErrSyntax", Rows.laid_strconv_ErrSyntax)] W := h2
  have m3 : laidMet Tryz.prog [("gearbox/lex.signs", Rows.laid_gearbox_lex_signs)] W := h3
  have m4 : laidMet Tryz.prog [("math/bits.deBruijn64tab", Rows.laid_math_bits_deBruijn64tab)] W := h4
  obtain ⟨a1, s1, hv1, -⟩ := laid_sentinel m1 gRange gRangeT Tryz.underlying213 rowErr Tryz.underlying248 Tryz.underlying250 rfl rfl Tryz.underlying9 cellsErr cellsStr
  obtain ⟨a2, s2, hv2, -⟩ := laid_sentinel m2 gSyntax gSyntaxT Tryz.underlying213 rowErr Tryz.underlying248 Tryz.underlying250 rfl rfl Tryz.underlying9 cellsErr cellsStr
  have e1 := World.var?_cell gRange hv1 0
  have e2 := World.var?_cell gSyntax hv2 0
  refine ⟨⟨⟨_, _, by simpa using e2⟩, _, _, by simpa using e1⟩, ?_, ?_⟩
  · rw [signs_data] at m3
    obtain ⟨ps, ⟨g0, t0, cs0, f0, p0, q0, hg0, ht0, hv0, hd0, _, e0⟩, _, _⟩ := m3
    obtain rfl := Option.some.inj (gSigns.symm.trans hg0)
    obtain rfl := Option.some.inj (gSignsT.symm.trans ht0)
    have hcs := cells_of_strs Tryz.underlying219 Tryz.underlying9 cellsStr cellsSigns hd0
    intro j v hj
    rw [Nat.zero_add, World.var?_cell gSigns hv0 j]
    obtain ⟨l0⟩ := cs0
    simp only at hcs
    rw [hcs]
    simpa using hj
  · obtain ⟨ps, ⟨g0, t0, cs0, f0, p0, q0, hg0, ht0, hv0, hd0, _, e0⟩, _, _⟩ := m4
    obtain rfl := Option.some.inj (gLast.symm.trans hg0)
    simp only [World.var?, gLast, Option.bind_some] at hv0
    cases hq : W.heap[6]? with
    | none => simp [hq] at hv0
    | some o =>
      have := (Array.getElem?_eq_some_iff.1 hq).1
      omega

end Go.Proofs.YtpbempnenjfjdaaGreatDoor
