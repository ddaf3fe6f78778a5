/- plain: a Deed, plainly: what an operation comes to, before it is done. -/
import Derived.Test.YtgokofomoachaaaPmDid
namespace Go.Proofs.Ytgokofomoachaaa
set_option linter.unusedVariables false
set_option linter.unusedSimpArgs false
open Go.RowKit

variable {w : World}

/-- A Deed, plainly. -/
structure Dd where
  t : ByteArray := ⟨#[]⟩
  n : Int := 0
  v : Vl := ⟨0, 0⟩
  o : Om := ⟨0, ⟨#[]⟩, [], 0, 0⟩
  of_ : Int := 0
  at_ : Int := 0
  l2 : List Vl := []
  r2 : Int := 0

/-- Its value. -/
def Dd.V (d : Dd) (q : Option Addr) (c : Nat) (q2 : Option Addr) : Value := .agg #[.string d.t, .int .i64 d.n, .int .u8 d.v.k, .int .i64 d.v.n, .int .u8 d.o.k, .string d.o.s, .slice q d.o.l.length c, .int .i64 d.o.room, .int .i64 d.o.fn, .int .i64 d.of_, .int .i64 d.at_, .slice q2 d.l2.length d.l2.length, .int .i64 d.r2]

/-- None, in a block of its own. -/
def zD : Obj := .cells #[.string ⟨#[]⟩, .int .i64 0, .int .u8 0, .int .i64 0, .int .u8 0, .string ⟨#[]⟩, .slice none 0 0, .int .i64 0, .int .i64 0, .int .i64 0, .int .i64 0, .slice none 0 0, .int .i64 0] 43 (0, 0)

theorem cell_row13 {W : World} {g : Nat} {a0 a1 a2 a3 a4 a5 a6 a7 a8 a9 a10 a11 a12 : Value} {t : TypeId} (h : W.heap[g]? = some (.cells #[a0, a1, a2, a3, a4, a5, a6, a7, a8, a9, a10, a11, a12] t (0, 0))) :
    (W.cell? ⟨g, 0, none⟩ = some a0 ∧ W.cell? ⟨g, 1, none⟩ = some a1 ∧ W.cell? ⟨g, 2, none⟩ = some a2 ∧ W.cell? ⟨g, 3, none⟩ = some a3 ∧ W.cell? ⟨g, 4, none⟩ = some a4 ∧ W.cell? ⟨g, 5, none⟩ = some a5 ∧ W.cell? ⟨g, 6, none⟩ = some a6 ∧ W.cell? ⟨g, 7, none⟩ = some a7 ∧ W.cell? ⟨g, 8, none⟩ = some a8 ∧ W.cell? ⟨g, 9, none⟩ = some a9 ∧ W.cell? ⟨g, 10, none⟩ = some a10 ∧ W.cell? ⟨g, 11, none⟩ = some a11 ∧ W.cell? ⟨g, 12, none⟩ = some a12) ∧ W.frozen? ⟨g, 0, none⟩ = false ∧ W.frozen? ⟨g, 1, none⟩ = false ∧ W.frozen? ⟨g, 2, none⟩ = false ∧ W.frozen? ⟨g, 3, none⟩ = false ∧ W.frozen? ⟨g, 4, none⟩ = false ∧ W.frozen? ⟨g, 5, none⟩ = false ∧ W.frozen? ⟨g, 6, none⟩ = false ∧ W.frozen? ⟨g, 7, none⟩ = false ∧ W.frozen? ⟨g, 8, none⟩ = false ∧ W.frozen? ⟨g, 9, none⟩ = false ∧ W.frozen? ⟨g, 10, none⟩ = false ∧ W.frozen? ⟨g, 11, none⟩ = false ∧ W.frozen? ⟨g, 12, none⟩ = false :=
  ⟨⟨by rw [cell_of_row W g 0 _ _ _ h]; rfl, by rw [cell_of_row W g 1 _ _ _ h]; rfl, by rw [cell_of_row W g 2 _ _ _ h]; rfl, by rw [cell_of_row W g 3 _ _ _ h]; rfl, by rw [cell_of_row W g 4 _ _ _ h]; rfl, by rw [cell_of_row W g 5 _ _ _ h]; rfl, by rw [cell_of_row W g 6 _ _ _ h]; rfl, by rw [cell_of_row W g 7 _ _ _ h]; rfl, by rw [cell_of_row W g 8 _ _ _ h]; rfl, by rw [cell_of_row W g 9 _ _ _ h]; rfl, by rw [cell_of_row W g 10 _ _ _ h]; rfl, by rw [cell_of_row W g 11 _ _ _ h]; rfl, by rw [cell_of_row W g 12 _ _ _ h]; rfl⟩, frozen_of_row W g 0 _ _ h, frozen_of_row W g 1 _ _ h, frozen_of_row W g 2 _ _ h, frozen_of_row W g 3 _ _ h, frozen_of_row W g 4 _ _ h, frozen_of_row W g 5 _ _ h, frozen_of_row W g 6 _ _ h, frozen_of_row W g 7 _ _ h, frozen_of_row W g 8 _ _ h, frozen_of_row W g 9 _ _ h, frozen_of_row W g 10 _ _ h, frozen_of_row W g 11 _ _ h, frozen_of_row W g 12 _ _ h⟩

theorem set13_row {W : World} {g : Nat} {a0 a1 a2 a3 a4 a5 a6 a7 a8 a9 a10 a11 a12 x0 x1 x2 x3 x4 x5 x6 x7 x8 x9 x10 x11 x12 : Value} {t : TypeId} (h : W.heap[g]? = some (.cells #[a0, a1, a2, a3, a4, a5, a6, a7, a8, a9, a10, a11, a12] t (0, 0))) : (((((((((((((W.setCell ⟨g, 0, none⟩ x0).setCell ⟨g, 1, none⟩ x1).setCell ⟨g, 2, none⟩ x2).setCell ⟨g, 3, none⟩ x3).setCell ⟨g, 4, none⟩ x4).setCell ⟨g, 5, none⟩ x5).setCell ⟨g, 6, none⟩ x6).setCell ⟨g, 7, none⟩ x7).setCell ⟨g, 8, none⟩ x8).setCell ⟨g, 9, none⟩ x9).setCell ⟨g, 10, none⟩ x10).setCell ⟨g, 11, none⟩ x11).setCell ⟨g, 12, none⟩ x12).heap[g]? = some (.cells #[x0, x1, x2, x3, x4, x5, x6, x7, x8, x9, x10, x11, x12] t (0, 0)) := by
  have h1 := heap_setCell_same W g 0 _ t x0 h
  have h2 := heap_setCell_same _ g 1 _ t x1 h1
  have h3 := heap_setCell_same _ g 2 _ t x2 h2
  have h4 := heap_setCell_same _ g 3 _ t x3 h3
  have h5 := heap_setCell_same _ g 4 _ t x4 h4
  have h6 := heap_setCell_same _ g 5 _ t x5 h5
  have h7 := heap_setCell_same _ g 6 _ t x6 h6
  have h8 := heap_setCell_same _ g 7 _ t x7 h7
  have h9 := heap_setCell_same _ g 8 _ t x8 h8
  have h10 := heap_setCell_same _ g 9 _ t x9 h9
  have h11 := heap_setCell_same _ g 10 _ t x10 h10
  have h12 := heap_setCell_same _ g 11 _ t x11 h11
  have h13 := heap_setCell_same _ g 12 _ t x12 h12
  simpa using h13

theorem set13_other {W : World} {g k : Nat} (x0 x1 x2 x3 x4 x5 x6 x7 x8 x9 x10 x11 x12 : Value) (h : k ≠ g) : (((((((((((((W.setCell ⟨g, 0, none⟩ x0).setCell ⟨g, 1, none⟩ x1).setCell ⟨g, 2, none⟩ x2).setCell ⟨g, 3, none⟩ x3).setCell ⟨g, 4, none⟩ x4).setCell ⟨g, 5, none⟩ x5).setCell ⟨g, 6, none⟩ x6).setCell ⟨g, 7, none⟩ x7).setCell ⟨g, 8, none⟩ x8).setCell ⟨g, 9, none⟩ x9).setCell ⟨g, 10, none⟩ x10).setCell ⟨g, 11, none⟩ x11).setCell ⟨g, 12, none⟩ x12).heap[k]? = W.heap[k]? := by
  rw [heap_setCell_other _ ⟨g, 12, none⟩ _ _ h, heap_setCell_other _ ⟨g, 11, none⟩ _ _ h, heap_setCell_other _ ⟨g, 10, none⟩ _ _ h, heap_setCell_other _ ⟨g, 9, none⟩ _ _ h, heap_setCell_other _ ⟨g, 8, none⟩ _ _ h, heap_setCell_other _ ⟨g, 7, none⟩ _ _ h, heap_setCell_other _ ⟨g, 6, none⟩ _ _ h, heap_setCell_other _ ⟨g, 5, none⟩ _ _ h, heap_setCell_other _ ⟨g, 4, none⟩ _ _ h, heap_setCell_other _ ⟨g, 3, none⟩ _ _ h, heap_setCell_other _ ⟨g, 2, none⟩ _ _ h, heap_setCell_other _ ⟨g, 1, none⟩ _ _ h, heap_setCell_other _ ⟨g, 0, none⟩ _ _ h]

theorem below_set13 {n : Nat} {w W : World} (h : Below n w W) {g : Nat} (hg : n ≤ g) (x0 x1 x2 x3 x4 x5 x6 x7 x8 x9 x10 x11 x12 : Value) : Below n w (((((((((((((W.setCell ⟨g, 0, none⟩ x0).setCell ⟨g, 1, none⟩ x1).setCell ⟨g, 2, none⟩ x2).setCell ⟨g, 3, none⟩ x3).setCell ⟨g, 4, none⟩ x4).setCell ⟨g, 5, none⟩ x5).setCell ⟨g, 6, none⟩ x6).setCell ⟨g, 7, none⟩ x7).setCell ⟨g, 8, none⟩ x8).setCell ⟨g, 9, none⟩ x9).setCell ⟨g, 10, none⟩ x10).setCell ⟨g, 11, none⟩ x11).setCell ⟨g, 12, none⟩ x12) :=
  below_set (below_set (below_set (below_set (below_set (below_set (below_set (below_set (below_set (below_set (below_set (below_set (below_set h hg _) hg _) hg _) hg _) hg _) hg _) hg _) hg _) hg _) hg _) hg _) hg _) hg _

theorem cell_set13 {W : World} {g : Nat} {x0 x1 x2 x3 x4 x5 x6 x7 x8 x9 x10 x11 x12 : Value} {a : Addr} (h : a.block ≠ g) : (((((((((((((W.setCell ⟨g, 0, none⟩ x0).setCell ⟨g, 1, none⟩ x1).setCell ⟨g, 2, none⟩ x2).setCell ⟨g, 3, none⟩ x3).setCell ⟨g, 4, none⟩ x4).setCell ⟨g, 5, none⟩ x5).setCell ⟨g, 6, none⟩ x6).setCell ⟨g, 7, none⟩ x7).setCell ⟨g, 8, none⟩ x8).setCell ⟨g, 9, none⟩ x9).setCell ⟨g, 10, none⟩ x10).setCell ⟨g, 11, none⟩ x11).setCell ⟨g, 12, none⟩ x12).cell? a = W.cell? a :=
  World.cell?_of_block (set13_other _ _ _ _ _ _ _ _ _ _ _ _ _ h)

theorem infoDeed : (Try.prog.info? 43).map (·.size) = some 13 := by kernel_rfl

/-- Values in a block of values. -/
def VT (w : World) (q : Option Addr) (l : List Vl) : Prop := Vals w q l ∧ ∀ ad, q = some ad → ∃ cs, w.heap[ad.block]? = some (.cells cs 26 (0, 0))

theorem VT.none (w : World) : VT w none [] := ⟨fun j v hj => by simp at hj, fun ad e => by cases e⟩

theorem VT.below {q : Option Addr} {l : List Vl} (h : VT w q l) {w' : World} (hB : Below w.heap.size w w') : VT w' q l :=
  ⟨h.1.below hB, fun ad e => by obtain ⟨cs, hc⟩ := h.2 ad e; exact ⟨cs, (hB.block _ (Array.getElem?_eq_some_iff.1 hc).1).trans hc⟩⟩

theorem Vals.kept_at {q : Option Addr} {l : List Vl} {W W' : World} (h : Vals W q l) (hk : ∀ ad, q = some ad → W'.heap[ad.block]? = W.heap[ad.block]?) : Vals W' q l := by
  intro j v hj
  obtain ⟨b0, off, e, h1, h2⟩ := h j v hj
  have hb := hk _ e
  have key : ∀ i, W'.cell? ⟨b0, i, none⟩ = W.cell? ⟨b0, i, none⟩ := fun i => World.cell?_of_block (a := ⟨b0, i, none⟩) hb
  exact ⟨b0, off, e, (key _).trans h1, (key _).trans h2⟩

/-- What a function that works an operation out comes to: its lists lie in blocks of values. -/
def DeedR (w : World) (d : Dd) (e : Ending) (w' : World) : Prop :=
  ∃ q c q2, e = .returned (.agg #[.string d.t, .int .i64 d.n, .int .u8 d.v.k, .int .i64 d.v.n, .int .u8 d.o.k, .string d.o.s, .slice q d.o.l.length c, .int .i64 d.o.room, .int .i64 d.o.fn, .int .i64 d.of_, .int .i64 d.at_, .slice q2 d.l2.length d.l2.length, .int .i64 d.r2]) ∧ (VT w' q d.o.l ∧ (q = none → c = 0)) ∧ VT w' q2 d.l2 ∧ Below w.heap.size w w'

set_option maxHeartbeats 1000000 in
theorem deed_fin {W : World} {r : Nat} {a0 a1 a2 a3 a4 a5 a6 a7 a8 a9 a10 a11 a12 : Value} (hr : W.heap[r]? = some (.cells #[a0, a1, a2, a3, a4, a5, a6, a7, a8, a9, a10, a11, a12] 43 (0, 0))) (hge : w.heap.size ≤ r) (d : Dd) {q : Option Addr} {c : Nat} {q2 : Option Addr} (h1 : VT W q d.o.l ∧ (q = none → c = 0)) (h2 : VT W q2 d.l2) (hB : Below w.heap.size w W) :
    DeedR w d (.returned (.agg #[.string d.t, .int .i64 d.n, .int .u8 d.v.k, .int .i64 d.v.n, .int .u8 d.o.k, .string d.o.s, .slice q d.o.l.length c, .int .i64 d.o.room, .int .i64 d.o.fn, .int .i64 d.of_, .int .i64 d.at_, .slice q2 d.l2.length d.l2.length, .int .i64 d.r2])) (((((((((((((W.setCell ⟨r, 0, none⟩ (.string d.t)).setCell ⟨r, 1, none⟩ (.int .i64 d.n)).setCell ⟨r, 2, none⟩ (.int .u8 d.v.k)).setCell ⟨r, 3, none⟩ (.int .i64 d.v.n)).setCell ⟨r, 4, none⟩ (.int .u8 d.o.k)).setCell ⟨r, 5, none⟩ (.string d.o.s)).setCell ⟨r, 6, none⟩ (.slice q d.o.l.length c)).setCell ⟨r, 7, none⟩ (.int .i64 d.o.room)).setCell ⟨r, 8, none⟩ (.int .i64 d.o.fn)).setCell ⟨r, 9, none⟩ (.int .i64 d.of_)).setCell ⟨r, 10, none⟩ (.int .i64 d.at_)).setCell ⟨r, 11, none⟩ (.slice q2 d.l2.length d.l2.length)).setCell ⟨r, 12, none⟩ (.int .i64 d.r2)) := by
  have ho : ∀ k, k ≠ r → (((((((((((((W.setCell ⟨r, 0, none⟩ (.string d.t)).setCell ⟨r, 1, none⟩ (.int .i64 d.n)).setCell ⟨r, 2, none⟩ (.int .u8 d.v.k)).setCell ⟨r, 3, none⟩ (.int .i64 d.v.n)).setCell ⟨r, 4, none⟩ (.int .u8 d.o.k)).setCell ⟨r, 5, none⟩ (.string d.o.s)).setCell ⟨r, 6, none⟩ (.slice q d.o.l.length c)).setCell ⟨r, 7, none⟩ (.int .i64 d.o.room)).setCell ⟨r, 8, none⟩ (.int .i64 d.o.fn)).setCell ⟨r, 9, none⟩ (.int .i64 d.of_)).setCell ⟨r, 10, none⟩ (.int .i64 d.at_)).setCell ⟨r, 11, none⟩ (.slice q2 d.l2.length d.l2.length)).setCell ⟨r, 12, none⟩ (.int .i64 d.r2)).heap[k]? = W.heap[k]? := fun k hk => set13_other _ _ _ _ _ _ _ _ _ _ _ _ _ hk
  have hBB : Below w.heap.size w (((((((((((((W.setCell ⟨r, 0, none⟩ (.string d.t)).setCell ⟨r, 1, none⟩ (.int .i64 d.n)).setCell ⟨r, 2, none⟩ (.int .u8 d.v.k)).setCell ⟨r, 3, none⟩ (.int .i64 d.v.n)).setCell ⟨r, 4, none⟩ (.int .u8 d.o.k)).setCell ⟨r, 5, none⟩ (.string d.o.s)).setCell ⟨r, 6, none⟩ (.slice q d.o.l.length c)).setCell ⟨r, 7, none⟩ (.int .i64 d.o.room)).setCell ⟨r, 8, none⟩ (.int .i64 d.o.fn)).setCell ⟨r, 9, none⟩ (.int .i64 d.of_)).setCell ⟨r, 10, none⟩ (.int .i64 d.at_)).setCell ⟨r, 11, none⟩ (.slice q2 d.l2.length d.l2.length)).setCell ⟨r, 12, none⟩ (.int .i64 d.r2)) := below_set13 hB hge _ _ _ _ _ _ _ _ _ _ _ _ _
  generalize ((((((((((((W.setCell ⟨r, 0, none⟩ (.string d.t)).setCell ⟨r, 1, none⟩ (.int .i64 d.n)).setCell ⟨r, 2, none⟩ (.int .u8 d.v.k)).setCell ⟨r, 3, none⟩ (.int .i64 d.v.n)).setCell ⟨r, 4, none⟩ (.int .u8 d.o.k)).setCell ⟨r, 5, none⟩ (.string d.o.s)).setCell ⟨r, 6, none⟩ (.slice q d.o.l.length c)).setCell ⟨r, 7, none⟩ (.int .i64 d.o.room)).setCell ⟨r, 8, none⟩ (.int .i64 d.o.fn)).setCell ⟨r, 9, none⟩ (.int .i64 d.of_)).setCell ⟨r, 10, none⟩ (.int .i64 d.at_)).setCell ⟨r, 11, none⟩ (.slice q2 d.l2.length d.l2.length)).setCell ⟨r, 12, none⟩ (.int .i64 d.r2) = W' at ho hBB ⊢
  have key : ∀ {q : Option Addr} {l : List Vl}, VT W q l → VT W' q l := fun {q l} hv => by
    have hne : ∀ ad, q = some ad → ad.block ≠ r := fun ad e hx => by
      obtain ⟨cs, hc⟩ := hv.2 ad e
      rw [hx, hr] at hc; cases hc
    exact ⟨hv.1.kept_at (fun ad e => ho _ (hne ad e)), fun ad e => by rw [ho _ (hne ad e)]; exact hv.2 ad e⟩
  exact ⟨q, c, q2, rfl, ⟨key h1.1, h1.2⟩, key h2, hBB⟩

theorem DeedR.from {w0 : World} {d : Dd} {e : Ending} {w' : World} (h : DeedR w d e w') (hB : Below w0.heap.size w0 w) : DeedR w0 d e w' := by
  obtain ⟨q, c, q2, he, h1, h2, hb⟩ := h
  exact ⟨q, c, q2, he, h1, h2, hB.trans (hb.mono hB.size)⟩

/-- What is thrown. -/
def tKind : ByteArray := ⟨#[107, 105, 110, 100]⟩

def tZero : ByteArray := ⟨#[122, 101, 114, 111]⟩

def tGreat : ByteArray := ⟨#[103, 114, 101, 97, 116]⟩

def tItems : ByteArray := ⟨#[105, 116, 101, 109, 115]⟩

def tBounds : ByteArray := ⟨#[98, 111, 117, 110, 100, 115]⟩

set_option maxRecDepth 20000 in
set_option maxHeartbeats 1000000 in
theorem Throws_in (t : ByteArray) (w : World) : Calls Try.prog 16 #[.string t] w (DeedR w { t := t }) := by
  go_enter Try.func16, Try.ntmps16
  go_wp2
  refine bodyPost_ret (results_cell_row (by rfl) _ _ w.heap.size 43 _ _ _ (by rfl) (heap_alloc_new w _) Try.underlying43 (by rfl) infoDeed) (by rfl) ?_
  exact ⟨none, 0, none, rfl, ⟨VT.none _, fun _ => rfl⟩, VT.none _, below1 _ _⟩

set_option maxRecDepth 20000 in
set_option maxHeartbeats 1000000 in
theorem deedTo_in (v : Vl) (w : World) : Calls Try.prog 50 #[.agg #[.int .u8 v.k, .int .i64 v.n]] w (DeedR w { v := v }) := by
  go_enter Try.func50, Try.ntmps50
  go_wp2
  refine bodyPost_ret (results_cell_row (by rfl) _ _ (w.heap.size + 1) 43 _ _ _ (by rfl) (heap_two w _ _) Try.underlying43 (by rfl) infoDeed) (by rfl) ?_
  exact ⟨none, 0, none, rfl, ⟨VT.none _, fun _ => rfl⟩, VT.none _, below2' _ _ _⟩

end Go.Proofs.Ytgokofomoachaaa
