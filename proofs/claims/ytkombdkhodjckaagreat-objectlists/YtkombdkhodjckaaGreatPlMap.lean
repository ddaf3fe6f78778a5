/- Plain's maps: what was met, and the numbers of places, where there is one object alone. -/
import Derived.Test.YtkombdkhodjckaaGreatObFirst
import Derived.Test.YtkombdkhodjckaaGreatGcPlan
import Derived.Lib.SlKeysI
namespace Go.Proofs.YtkombdkhodjckaaGreat
set_option linter.unusedVariables false
set_option linter.unusedSimpArgs false
open Go.RowKit Go.Maps Go.WideElems Go.MapKept
open Go.WideMaps (KeyLaw)
open Go.ChangeMaps (setBlock heap_setBlock_same heap_setBlock_other)

variable {w : World}

/-- A body. -/
structure Bd where
  count : Nat
  room : Nat
  inn : Nat

def Bd.agg (x : Bd) : Value := .agg #[.int .i64 x.count, .int .i64 x.room, .int .i64 x.inn, .int .i64 0]

def Bd.fits (x : Bd) : Prop := x.count ≤ 4611686018427387904 ∧ x.room ≤ 4611686018427387904 ∧ x.inn ≤ 4611686018427387904

theorem rowBd : (58 : TypeId) < Tryz.prog.types.size := of_decide_eq_true (by kernel_rfl)

theorem wideBd : (match Tryz.prog.underlying 58 with | some (.array _ _) | some (.struct _) => true | _ => false) = true := by kernel_rfl

set_option maxRecDepth 100000 in
theorem lawBd : KeyLaw Tryz.prog 58 := deep_law_laid laidOut0 (m := 3) (by omega) rowBd (by kernel_rfl) wideBd

theorem keyedBd : Keyed Tryz.prog 58 := Keyed.of_law lawBd

theorem keyTypeBd : Tryz.prog.keyType 58 = true := by kernel_rfl

theorem cellsBd : Tryz.prog.cellsOf 58 = 4 := by kernel_rfl

def litB (x : Bd) : Lit := .string (keyBytes [.int .i64 x.count, .int .i64 x.room, .int .i64 x.inn, .int .i64 0])

set_option maxRecDepth 100000 in
theorem keyOf_bd {x : Bd} (h : x.fits) : keyOf Tryz.prog 58 x.agg = some (litB x) := by
  unfold Bd.agg
  obtain ⟨m, hm⟩ : ∃ m, Tryz.prog.types.size = m + 1 := ⟨Tryz.prog.types.size - 1, (Nat.succ_pred_eq_of_pos (Nat.lt_of_le_of_lt (Nat.zero_le _) rowBd)).symm⟩
  have c0 : Tryz.prog.cellsOf 3 = 1 := by kernel_rfl
  have c1 : Tryz.prog.cellsOf 2 = 1 := by kernel_rfl
  obtain ⟨h1, h2, h3⟩ := h
  have w0 : (Lit.int .i64 (x.count : Int)).wf = true := wfI64 (by omega)
  have w1 : (Lit.int .i64 (x.room : Int)).wf = true := wfI64 (by omega)
  have w2 : (Lit.int .i64 (x.inn : Int)).wf = true := wfI64 (by omega)
  have w3 : (Lit.int .i64 (0 : Int)).wf = true := wfI64 (by omega)
  have hf : (Value.agg #[.int .i64 x.count, .int .i64 x.room, .int .i64 x.inn, .int .i64 0]).formed Tryz.prog 58 = true := by
    simp [Value.formed, Tryz.underlying58, cellsBd]
  have hlits : Tryz.prog.keyLits (Tryz.prog.types.size + 1) 58 [.int .i64 x.count, .int .i64 x.room, .int .i64 x.inn, .int .i64 0] = some [.int .i64 x.count, .int .i64 x.room, .int .i64 x.inn, .int .i64 0] := by
    rw [hm]
    simp [Program.keyLits, Tryz.underlying58, cellsBd, c0, c1, Tryz.underlying3, Tryz.underlying2, w0, w1, w2, w3]
  unfold keyOf
  rw [Tryz.underlying58]
  simp only [keyTypeBd, hf, Bool.and_self, if_true]
  rw [show (Value.agg #[.int .i64 x.count, .int .i64 x.room, .int .i64 x.inn, .int .i64 0]).cells.toList = [.int .i64 x.count, .int .i64 x.room, .int .i64 x.inn, .int .i64 0] from rfl, hlits]
  rfl

def RBk (k : Value → Option Lit) (v : Value) : Option (DataW Unit × List MemPlace) := (k v).map (fun l => (.lit l, []))

theorem RB_bd {x : Bd} (h : x.fits) : (RBk (keyOf Tryz.prog 58)) x.agg = some (.lit (litB x), []) := by unfold RBk; rw [keyOf_bd h]; rfl

theorem bd0 : Bd.fits ⟨0, 0, 0⟩ := by unfold Bd.fits; simp

theorem RB_zero : (RBk (keyOf Tryz.prog 58)) (.agg #[.int .i64 0, .int .i64 0, .int .i64 0, .int .i64 0]) = some (.lit (litB ⟨0, 0, 0⟩), []) := by
  have := RB_bd bd0
  simpa [Bd.agg] using this

theorem RB_inv {x : Value} {v : Bd} {ps : List MemPlace} (hv : v.fits) (h : (RBk (keyOf Tryz.prog 58)) x = some (.lit (litB v), ps)) : x = v.agg := by
  unfold RBk at h
  cases hk : keyOf Tryz.prog 58 x with
  | none => rw [hk] at h; cases h
  | some l =>
    rw [hk] at h
    simp only [Option.map_some, Option.some.injEq, Prod.mk.injEq, DataW.lit.injEq] at h
    obtain ⟨rfl, -⟩ := h
    exact keyedBd.inj hk (keyOf_bd hv)

set_option maxRecDepth 100000 in
theorem zeroB (w : World) : (zeroValue 58).run Tryz.prog w = .ok (.agg #[.int .i64 0, .int .i64 0, .int .i64 0, .int .i64 0]) w := by kernel_rfl

theorem lawI : Keyed Tryz.prog 2 := int_keyed Tryz.underlying2

theorem keyOf_at {p : Nat} (hp : p ≤ 1048576) : keyOf Tryz.prog 2 (.int .i64 (p : Int)) = some (.int .i64 (p : Int)) := keyOf_int_mk Tryz.underlying2 (wfI64 (by omega))

/-- Nothing was met; one was. -/
def Met0 (w : World) (b : Nat) : Prop := w.ownsMap Tryz.prog 2 (RBk (keyOf Tryz.prog 58)) b 0 (.map [])

def Met1 (w : World) (b p : Nat) (x : Bd) : Prop := w.ownsMap Tryz.prog 2 (RBk (keyOf Tryz.prog 58)) b 1 (.map [(.int .i64 (p : Int), .lit (litB x))])

def Num1 (w : World) (b p : Nat) : Prop := w.ownsMap Tryz.prog 2 (plainElem Tryz.prog 2) b 1 (DataW.map (H := Unit) [(.int .i64 (p : Int), .lit (.int .i64 1))])

theorem Met0.made (w : World) : Met0 (w.alloc (.map #[] 0)) w.heap.size := World.ownsMap_made _ _ _ _

theorem Met0.kept {b : Nat} (h : Met0 w b) {w' : World} (hk : w'.heap[b]? = w.heap[b]?) : Met0 w' b := owns_same h hk

theorem Met1.kept {b p : Nat} {x : Bd} (h : Met1 w b p x) {w' : World} (hk : w'.heap[b]? = w.heap[b]?) : Met1 w' b p x := owns_same h hk

theorem Num1.kept {b p : Nat} (h : Num1 w b p) {w' : World} (hk : w'.heap[b]? = w.heap[b]?) : Num1 w' b p := owns_same h hk

theorem Met0.lt {b : Nat} (h : Met0 w b) : b < w.heap.size := World.ownsMap.lt h

theorem Met1.lt {b p : Nat} {x : Bd} (h : Met1 w b p x) : b < w.heap.size := World.ownsMap.lt h

theorem Num1.lt {b p : Nat} (h : Num1 w b p) : b < w.heap.size := World.ownsMap.lt h

theorem Met1.isMap {b p : Nat} {x : Bd} (h : Met1 w b p x) : ∃ es cl, w.heap[b]? = some (.map es cl) := by obtain ⟨es, cl, h1, _⟩ := h; exact ⟨es, cl, h1⟩

theorem Met0.isMap {b : Nat} (h : Met0 w b) : ∃ es cl, w.heap[b]? = some (.map es cl) := by obtain ⟨es, cl, h1, _⟩ := h; exact ⟨es, cl, h1⟩

theorem Num1.isMap {b p : Nat} (h : Num1 w b p) : ∃ es cl, w.heap[b]? = some (.map es cl) := by obtain ⟨es, cl, h1, _⟩ := h; exact ⟨es, cl, h1⟩

theorem one_put (p : Nat) (d : DataW Unit) : (DataW.map []).put (.int .i64 (p : Int)) d = .map [(.int .i64 (p : Int), d)] := by
  simp [DataW.put, DataW.insert]

/-- What is not there is not found, and is put. -/
theorem Met0.look {b p : Nat} (h : Met0 w b) (hp : p ≤ 1048576) : ∀ W : World, W.heap[b]? = w.heap[b]? → (Instr.lookup 64 (.map (some b)) (.int .i64 (p : Int)) true).run Tryz.prog W = .ok (.tuple #[.agg #[.int .i64 0, .int .i64 0, .int .i64 0, .int .i64 0], .bool false]) W := by
  intro W hW
  obtain ⟨x, ps, hrun, hx⟩ := (h.kept hW).look_ok lawI Tryz.underlying64 (zeroB W) RB_zero (keyOf_at hp)
  have hno : has (DataW.map (H := Unit) []) (.int .i64 (p : Int)) = false := by simp [has]
  rw [atKey_of_not_has hno] at hx
  have := RB_inv bd0 hx
  unfold Bd.agg at this
  rw [hrun, hno, this]
  rfl

theorem Met0.put {b p : Nat} {x : Bd} (h : Met0 w b) (hp : p ≤ 1048576) (hx : x.fits) : ∀ W : World, W.heap[b]? = w.heap[b]? → ∃ w2, (Instr.mapUpdate 64 (.map (some b)) (.int .i64 (p : Int)) x.agg).run Tryz.prog W = .ok () w2 ∧ Met1 w2 b p x ∧ W.grownBy w2 (some b) := by
  intro W hW
  obtain ⟨w2, hrun, hown, hg⟩ := (h.kept hW).update lawI Tryz.underlying64 (by unfold maxLen; omega) (keyOf_at hp) (RB_bd hx)
  rw [one_put] at hown
  exact ⟨w2, hrun, hown, hg⟩

/-- What is there. -/
theorem Met1.look {b p : Nat} {x : Bd} (h : Met1 w b p x) (hp : p ≤ 1048576) (hx : x.fits) : ∀ W : World, W.heap[b]? = w.heap[b]? → (Instr.lookup 64 (.map (some b)) (.int .i64 (p : Int)) false).run Tryz.prog W = .ok x.agg W := by
  intro W hW
  obtain ⟨v, ps, hrun, hv⟩ := World.ownsMap.lookup (h.kept hW) lawI Tryz.underlying64 (zeroB W) RB_zero (keyOf_at hp)
  have e : (DataW.map (H := Unit) [(.int .i64 (p : Int), .lit (litB x))]).atKey (.int .i64 (p : Int)) (.lit (litB ⟨0, 0, 0⟩)) = .lit (litB x) := by simp [DataW.atKey, Lit.sameKey]
  rw [e] at hv
  rw [hrun, RB_inv hx hv]

theorem Num1.look {b p : Nat} (h : Num1 w b p) (hp : p ≤ 1048576) : ∀ W : World, W.heap[b]? = w.heap[b]? → (Instr.lookup 69 (.map (some b)) (.int .i64 (p : Int)) false).run Tryz.prog W = .ok (.int .i64 1) W := by
  intro W hW
  obtain ⟨c, hrun, hc, _⟩ := World.ownsMap.lookup_int (h.kept hW) lawI Tryz.underlying69 Tryz.underlying2 (zeroK W) (keyOf_at hp)
  have e : (DataW.map (H := Unit) [(.int .i64 (p : Int), .lit (.int .i64 1))]).atKey (.int .i64 (p : Int)) (.lit (.int .i64 0)) = .lit (.int .i64 1) := by simp [DataW.atKey, Lit.sameKey]
  rw [e] at hc
  simp at hc
  rw [hrun, ← hc]

theorem num_put {b p : Nat} (h : w.ownsMap Tryz.prog 2 (plainElem Tryz.prog 2) b 0 (DataW.map (H := Unit) [])) (hp : p ≤ 1048576) : ∀ W : World, W.heap[b]? = w.heap[b]? → ∃ w2, (Instr.mapUpdate 69 (.map (some b)) (.int .i64 (p : Int)) (.int .i64 1)).run Tryz.prog W = .ok () w2 ∧ Num1 w2 b p ∧ W.grownBy w2 (some b) := by
  intro W hW
  obtain ⟨w2, hrun, hown, hg⟩ := (owns_same h hW).update lawI Tryz.underlying69 (by unfold maxLen; omega) (keyOf_at hp) (plainElem_int (a := 1) Tryz.underlying2 (wfK (by omega)))
  rw [one_put] at hown
  exact ⟨w2, hrun, hown, hg⟩

theorem keys_one (p : Nat) (d : DataW Unit) : intKeys (DataW.map [(.int .i64 (p : Int), d)]) = [(p : Int)] := by simp [intKeys, Go.intOf]

theorem size_one (p : Nat) (d : DataW Unit) : Maps.size (DataW.map [(.int .i64 (p : Int), d)]) = 1 := by simp [Maps.size]

end Go.Proofs.YtkombdkhodjckaaGreat
