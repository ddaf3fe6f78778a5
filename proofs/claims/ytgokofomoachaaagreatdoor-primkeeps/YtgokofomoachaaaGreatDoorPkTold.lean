/- What a card's row lists: the tables, laid; a value that came in. -/
import Derived.Test.YtgokofomoachaaaGreatDoorShValue
import Derived.Test.YtgokofomoachaaaGreatDoorCards
import Derived.Test.YtgokofomoachaaaGreatDoorTie
import Derived.WalkKit
import Derived.ProofKit
import Derived.OpenShut
import Derived.ShutString
import Derived.ChangeOld
import Derived.Below
import Derived.LaidSub
import Derived.Deep.Slices
import Derived.Deep.DeepHandedRow
import Derived.Lib.LaidTab
namespace Go.Proofs.YtgokofomoachaaaGreatDoor
set_option linter.unusedVariables false
set_option linter.unusedSimpArgs false
open Go.ChangeShapes Go.WideShapes Go.ChangeAt Go.RowKit

/-- The cells of a table that is laid. -/
def litCells (d : DataW Unit) : Array Value :=
  match d with
  | .agg ps => (ps.map fun p => match p with
    | .lit (.int k n) => Value.int k n
    | _ => .bool false).toArray
  | _ => #[]

def layRow (cs : Array Value) (o : Obj) : Obj :=
  match o with
  | .cells _ t frozen => .cells cs t frozen
  | o => o

/-- A world, its three tables laid. -/
def laidOn (w : World) : World :=
  { w with heap := ((w.heap.modify 0 (layRow (litCells Rows.laid_internal_strconv_uint64pow10))).modify 1 (layRow (litCells Rows.laid_math_bits_deBruijn32tab))).modify 2 (layRow (litCells Rows.laid_math_bits_deBruijn64tab)) }

set_option maxRecDepth 20000 in
theorem val_told {H : Type} {enc : TypeId × Value → H} {W : World} {fuel : Nat} {cs : Array Value} {x : DataW H × List MemPlace}
    (h : DataW.trod enc Tryz.prog W 0 (fun _ => true) true fuel 27 cs.toList = some x) : ∃ v : Vl, cs = #[.int .u8 v.k, .int .i64 v.n] ∧ v.fits := by
  obtain ⟨xs, n', _, _, hl6, hx6, hf⟩ := DataW.trod_struct Tryz.underlying27 h
  rw [cellsVal] at hl6
  obtain ⟨l⟩ := cs
  simp only at hf hl6
  match l, hl6, xs, hx6 with
  | [c0, c1], _, [y0, y1], _ =>
    obtain ⟨x0, h0, _, w0⟩ := DataW.trod_int Tryz.underlying25 (hf 0 _ rfl)
    obtain ⟨x1, h1, _, w1⟩ := DataW.trod_int Tryz.underlying2 (hf 1 _ rfl)
    have k0 : Tryz.prog.cellsOf 25 = 1 := by kernel_rfl
    have k1 : Tryz.prog.cellsOf 2 = 1 := by kernel_rfl
    simp [k0, k1] at h0 h1
    subst h0 h1
    obtain ⟨m0, rfl, b0'⟩ := nat_u8 w0
    exact ⟨⟨m0, x1⟩, rfl, b0', i64_wf w1⟩

theorem pow_data : (Rows.laid_internal_strconv_uint64pow10 : DataW Unit) = Lib.tabData .u64 Lib.pow10Tab := by kernel_rfl

/-- The table, out of what the row lists. -/
theorem tab_of {W : World} (h : laidMetH Tryz.prog [("math/bits.deBruijn32tab", Rows.laid_math_bits_deBruijn32tab), ("math/bits.deBruijn64tab", Rows.laid_math_bits_deBruijn64tab), ("internal/strconv.uint64pow10", Rows.laid_internal_strconv_uint64pow10)] W) : Tab W := by
  have h2 := h.filter (fun x => x.1 == "internal/strconv.uint64pow10")
  have h3 : laidMetH Tryz.prog [("internal/strconv.uint64pow10", Rows.laid_internal_strconv_uint64pow10)] W := h2
  have h4 : laidMet Tryz.prog [("internal/strconv.uint64pow10", Rows.laid_internal_strconv_uint64pow10)] W := h3
  rw [pow_data] at h4
  obtain ⟨g, hg⟩ := tabG
  refine Lib.tabIs_of_head (t := 359) (e := 334) (n := 20) hg ?_ Tryz.underlying359 Tryz.underlying334 (by kernel_rfl) (by kernel_rfl) h4
  have : (Tryz.prog.globalNamed "internal/strconv.uint64pow10").bind (fun g => (Tryz.prog.globals[g]?).map (·.type)) = some 359 := by kernel_rfl
  rw [hg] at this
  exact this

end Go.Proofs.YtgokofomoachaaaGreatDoor

namespace Go.Proofs.YtgokofomoachaaaGreatDoor
set_option linter.unusedVariables false
set_option linter.unusedSimpArgs false
open Go.ChangeShapes Go.WideShapes Go.ChangeAt Go.RowKit

theorem okWide_array {P : Program} {w : World} {r : _} {base n : Nat} {t e : TypeId} {v : Value} (ht : P.underlying t = some (.array n e)) (h : Value.okWide P w r base t v) : ∃ cs, v = .agg cs ∧ cs.size = P.cellsOf t := by
  simp only [Value.okWide, ht] at h
  obtain ⟨cs, h1, h2, _⟩ := h
  exact ⟨cs, h1, h2⟩

set_option maxRecDepth 20000 in
theorem val3_told {H : Type} {enc : TypeId × Value → H} {W : World} {fuel : Nat} {cs : Array Value} {x : DataW H × List MemPlace}
    (h : DataW.trod enc Tryz.prog W 0 (fun _ => true) true fuel 81 cs.toList = some x) : ∃ u v y : Vl, cs = #[.int .u8 u.k, .int .i64 u.n, .int .u8 v.k, .int .i64 v.n, .int .u8 y.k, .int .i64 y.n] ∧ u.fits ∧ v.fits ∧ y.fits := by
  obtain ⟨xs, n', _, _, hl6, hx6, hf⟩ := DataW.trod_array Tryz.underlying81 h
  have hc : Tryz.prog.cellsOf 81 = 6 := by kernel_rfl
  rw [hc] at hl6
  obtain ⟨l⟩ := cs
  simp only at hf hl6
  match l, hl6, xs, hx6 with
  | [c0, c1, c2, c3, c4, c5], _, [y0, y1, y2], _ =>
    have g0 := hf 0 (by omega)
    have g1 := hf 1 (by omega)
    have g2 := hf 2 (by omega)
    rw [cellsVal] at g0 g1 g2
    obtain ⟨u, hu, fu⟩ := val_told (cs := #[c0, c1]) (x := y0) (by simpa using g0)
    obtain ⟨v, hv, fv⟩ := val_told (cs := #[c2, c3]) (x := y1) (by simpa using g1)
    obtain ⟨y, hy, fy⟩ := val_told (cs := #[c4, c5]) (x := y2) (by simpa using g2)
    simp at hu hv hy
    obtain ⟨rfl, rfl⟩ := hu
    obtain ⟨rfl, rfl⟩ := hv
    obtain ⟨rfl, rfl⟩ := hy
    exact ⟨u, v, y, rfl, fu, fv, fy⟩

end Go.Proofs.YtgokofomoachaaaGreatDoor
