/- prim: what signs do with whole numbers. -/
import Derived.Test.YtlghciglofbkaaaPmList
namespace Go.Proofs.Ytlghciglofbkaaa
set_option linter.unusedVariables false
set_option linter.unusedSimpArgs false
open Go.RowKit

variable {w : World}


set_option maxRecDepth 20000 in
set_option maxHeartbeats 1000000 in
theorem sAdd_in {p : Option Addr} {S : List Om} (h : Ask w p S) (c : Nat) (a b : Int) :
    Calls Try.prog 28 #[.slice p S.length c, .int .i64 a, .int .i64 b] w (DidR w S ⟨2, wrap64 (a + b)⟩ ⟨#[]⟩ 0) := by
  have hB := below1 w noD
  have hb := heap_alloc_new w noD
  have HW := fun (n : Int) (W : World) => pwhole_in n W
  have HC := fun (n : Int) (W : World) (hb : Below w.heap.size w W) => comesTo_in (h.below hb) c ⟨2, n⟩
  simp only [show ((2 : Nat) : Int) = 2 from rfl] at HC
  unfold noD at hB hb
  go_enter Try.func28, Try.ntmps28
  go_wp2_with (first
    | (go_at_call 23; (with_reducible refine (HW _ _).mono ?_); clear HW; rintro e w1 ⟨rfl, hB1⟩; have hBw := hB.trans (hB1.mono hB.size); have hb1 := (hB1.block _ (Array.getElem?_eq_some_iff.1 hb).1).trans hb)
    | (go_at_call 22; (with_reducible refine (HC _ w1 hBw).mono ?_); clear HC; rintro e w2 ⟨p1, c1, rfl, hts, hB2⟩; have hr := (hB2.block _ (Array.getElem?_eq_some_iff.1 hb1).1).trans hb1; obtain ⟨⟨z0, z1, z2, z3, z4⟩, s0, s1, s2, s3, s4⟩ := cell_row5 hr))
  refine bodyPost_ret (results_cell_row (by rfl) _ _ w.heap.size 28 _ _ _ (by rfl) (set5_row hr) Try.underlying28 (by rfl) infoDid) (by rfl) ?_
  exact did_fin hr (Nat.le_refl _) (hts_mono hts hBw.size) (hBw.trans (hB2.mono hBw.size)) ⟨2, _⟩ ⟨#[]⟩ 0

set_option maxRecDepth 20000 in
set_option maxHeartbeats 1000000 in
theorem sSub_in {p : Option Addr} {S : List Om} (h : Ask w p S) (c : Nat) (a b : Int) :
    Calls Try.prog 31 #[.slice p S.length c, .int .i64 a, .int .i64 b] w (DidR w S ⟨2, wrap64 (a - b)⟩ ⟨#[]⟩ 0) := by
  have hB := below1 w noD
  have hb := heap_alloc_new w noD
  have HW := fun (n : Int) (W : World) => pwhole_in n W
  have HC := fun (n : Int) (W : World) (hb : Below w.heap.size w W) => comesTo_in (h.below hb) c ⟨2, n⟩
  simp only [show ((2 : Nat) : Int) = 2 from rfl] at HC
  unfold noD at hB hb
  go_enter Try.func31, Try.ntmps31
  go_wp2_with (first
    | (go_at_call 23; (with_reducible refine (HW _ _).mono ?_); clear HW; rintro e w1 ⟨rfl, hB1⟩; have hBw := hB.trans (hB1.mono hB.size); have hb1 := (hB1.block _ (Array.getElem?_eq_some_iff.1 hb).1).trans hb)
    | (go_at_call 22; (with_reducible refine (HC _ w1 hBw).mono ?_); clear HC; rintro e w2 ⟨p1, c1, rfl, hts, hB2⟩; have hr := (hB2.block _ (Array.getElem?_eq_some_iff.1 hb1).1).trans hb1; obtain ⟨⟨z0, z1, z2, z3, z4⟩, s0, s1, s2, s3, s4⟩ := cell_row5 hr))
  refine bodyPost_ret (results_cell_row (by rfl) _ _ w.heap.size 28 _ _ _ (by rfl) (set5_row hr) Try.underlying28 (by rfl) infoDid) (by rfl) ?_
  exact did_fin hr (Nat.le_refl _) (hts_mono hts hBw.size) (hBw.trans (hB2.mono hBw.size)) ⟨2, _⟩ ⟨#[]⟩ 0

set_option maxRecDepth 20000 in
set_option maxHeartbeats 1000000 in
theorem sMul_in {p : Option Addr} {S : List Om} (h : Ask w p S) (c : Nat) (a b : Int) :
    Calls Try.prog 32 #[.slice p S.length c, .int .i64 a, .int .i64 b] w (DidR w S ⟨2, wrap64 (a * b)⟩ ⟨#[]⟩ 0) := by
  have hB := below1 w noD
  have hb := heap_alloc_new w noD
  have HW := fun (n : Int) (W : World) => pwhole_in n W
  have HC := fun (n : Int) (W : World) (hb : Below w.heap.size w W) => comesTo_in (h.below hb) c ⟨2, n⟩
  simp only [show ((2 : Nat) : Int) = 2 from rfl] at HC
  unfold noD at hB hb
  go_enter Try.func32, Try.ntmps32
  go_wp2_with (first
    | (go_at_call 23; (with_reducible refine (HW _ _).mono ?_); clear HW; rintro e w1 ⟨rfl, hB1⟩; have hBw := hB.trans (hB1.mono hB.size); have hb1 := (hB1.block _ (Array.getElem?_eq_some_iff.1 hb).1).trans hb)
    | (go_at_call 22; (with_reducible refine (HC _ w1 hBw).mono ?_); clear HC; rintro e w2 ⟨p1, c1, rfl, hts, hB2⟩; have hr := (hB2.block _ (Array.getElem?_eq_some_iff.1 hb1).1).trans hb1; obtain ⟨⟨z0, z1, z2, z3, z4⟩, s0, s1, s2, s3, s4⟩ := cell_row5 hr))
  refine bodyPost_ret (results_cell_row (by rfl) _ _ w.heap.size 28 _ _ _ (by rfl) (set5_row hr) Try.underlying28 (by rfl) infoDid) (by rfl) ?_
  exact did_fin hr (Nat.le_refl _) (hts_mono hts hBw.size) (hBw.trans (hB2.mono hBw.size)) ⟨2, _⟩ ⟨#[]⟩ 0

set_option maxRecDepth 20000 in
set_option maxHeartbeats 1000000 in
theorem sLess_in {p : Option Addr} {S : List Om} (h : Ask w p S) (c : Nat) (a b : Int) (r : Bool) (hr : r = decide (a < b)) :
    Calls Try.prog 36 #[.slice p S.length c, .int .i64 a, .int .i64 b] w (DidR w S (tru r) ⟨#[]⟩ 0) := by
  have hB := below1 w noD
  have hb := heap_alloc_new w noD
  have HW := fun (W : World) => truth_in r W
  have HC := fun (W : World) (hb : Below w.heap.size w W) => comesTo_in (h.below hb) c (tru r)
  unfold noD at hB hb
  rw [hr] at HW
  go_enter Try.func36, Try.ntmps36
  go_wp2_with (first
    | (go_at_call 37; (with_reducible refine (HW _).mono ?_); clear HW; rintro e w1 ⟨rfl, hB1⟩; have hBw := hB.trans (hB1.mono hB.size); have hb1 := (hB1.block _ (Array.getElem?_eq_some_iff.1 hb).1).trans hb; have HC1 := HC w1 hBw; rw [hr] at HC1)
    | (go_at_call 22; (with_reducible refine HC1.mono ?_); clear HC1; rintro e w2 ⟨p1, c1, rfl, hts, hB2⟩; have hr2 := (hB2.block _ (Array.getElem?_eq_some_iff.1 hb1).1).trans hb1; obtain ⟨⟨z0, z1, z2, z3, z4⟩, s0, s1, s2, s3, s4⟩ := cell_row5 hr2))
  refine bodyPost_ret (results_cell_row (by rfl) _ _ w.heap.size 28 _ _ _ (by rfl) (set5_row hr2) Try.underlying28 (by rfl) infoDid) (by rfl) ?_
  rw [hr]
  exact did_fin hr2 (Nat.le_refl _) (hts_mono hts hBw.size) (hBw.trans (hB2.mono hBw.size)) _ ⟨#[]⟩ 0

set_option maxRecDepth 20000 in
set_option maxHeartbeats 1000000 in
theorem sMost_in {p : Option Addr} {S : List Om} (h : Ask w p S) (c : Nat) (a b : Int) (r : Bool) (hr : r = decide (a ≤ b)) :
    Calls Try.prog 39 #[.slice p S.length c, .int .i64 a, .int .i64 b] w (DidR w S (tru r) ⟨#[]⟩ 0) := by
  have hB := below1 w noD
  have hb := heap_alloc_new w noD
  have HW := fun (W : World) => truth_in r W
  have HC := fun (W : World) (hb : Below w.heap.size w W) => comesTo_in (h.below hb) c (tru r)
  unfold noD at hB hb
  rw [hr] at HW
  go_enter Try.func39, Try.ntmps39
  go_wp2_with (first
    | (go_at_call 37; (with_reducible refine (HW _).mono ?_); clear HW; rintro e w1 ⟨rfl, hB1⟩; have hBw := hB.trans (hB1.mono hB.size); have hb1 := (hB1.block _ (Array.getElem?_eq_some_iff.1 hb).1).trans hb; have HC1 := HC w1 hBw; rw [hr] at HC1)
    | (go_at_call 22; (with_reducible refine HC1.mono ?_); clear HC1; rintro e w2 ⟨p1, c1, rfl, hts, hB2⟩; have hr2 := (hB2.block _ (Array.getElem?_eq_some_iff.1 hb1).1).trans hb1; obtain ⟨⟨z0, z1, z2, z3, z4⟩, s0, s1, s2, s3, s4⟩ := cell_row5 hr2))
  refine bodyPost_ret (results_cell_row (by rfl) _ _ w.heap.size 28 _ _ _ (by rfl) (set5_row hr2) Try.underlying28 (by rfl) infoDid) (by rfl) ?_
  rw [hr]
  exact did_fin hr2 (Nat.le_refl _) (hts_mono hts hBw.size) (hBw.trans (hB2.mono hBw.size)) _ ⟨#[]⟩ 0

set_option maxHeartbeats 1000000 in
theorem sQuo_in (a b : Int) (hb : b ≠ 0) (w : World) : Calls Try.prog 34 #[.int .i64 a, .int .i64 b] w fun e w' => e = .returned (.int .i64 (wrap64 (Int.tdiv a b))) ∧ w' = w := by
  have hb' : (b == 0) = false := by simpa using hb
  go_enter Try.func34, Try.ntmps34
  go_wp2
  go_ret
  exact ⟨rfl, rfl⟩

set_option maxHeartbeats 1000000 in
theorem sRem_in (a b : Int) (hb : b ≠ 0) (w : World) : Calls Try.prog 35 #[.int .i64 a, .int .i64 b] w fun e w' => e = .returned (.int .i64 (Int.tmod a b)) ∧ w' = w := by
  have hb' : (b == 0) = false := by simpa using hb
  go_enter Try.func35, Try.ntmps35
  go_wp2
  go_ret
  exact ⟨rfl, rfl⟩

theorem unlessZero_in (f : Nat) (w : World) : Calls Try.prog 33 #[.func (.func f) #[] #[]] w fun e w' => e = .returned (.func (.func 54) #[] #[.pointer (some ⟨w.heap.size, 0, none⟩)]) ∧ w' = w.alloc (.cells #[.func (.func f) #[] #[]] 62) := by
  go_enter Try.func33, Try.ntmps33
  go_wp2
  go_ret
  exact ⟨rfl, rfl⟩

/-- Signs on whole numbers that may not be divided by 0. -/
theorem divided_zero {p : Option Addr} {S : List Om} (h : Ask w p S) (c : Nat) (a : Int) (B : Nat) :
    Calls Try.prog 54 #[.slice p S.length c, .int .i64 a, .int .i64 0, .pointer (some ⟨B, 0, none⟩)] w (DidR w S ⟨0, 0⟩ tZero 0) := by
  have hB := below1 w noD
  have hb := heap_alloc_new w noD
  have HT := throws_in (h.below hB) c ⟨#[122, 101, 114, 111]⟩
  unfold noD at hB hb HT
  unfold tZero
  go_enter Try.func54, Try.ntmps54
  go_wp2_with (first
    | (go_at_call 14; (with_reducible refine HT.mono ?_); clear HT; rintro e w2 ⟨p1, c1, rfl, hts, hB2⟩; have hr := (hB2.block _ (Array.getElem?_eq_some_iff.1 hb).1).trans hb; obtain ⟨⟨z0, z1, z2, z3, z4⟩, s0, s1, s2, s3, s4⟩ := cell_row5 hr))
  refine bodyPost_ret (results_cell_row (by rfl) _ _ w.heap.size 28 _ _ _ (by rfl) (set5_row hr) Try.underlying28 (by rfl) infoDid) (by rfl) ?_
  exact did_fin hr (Nat.le_refl _) (hts_mono hts hB.size) (hB.trans (hB2.mono hB.size)) ⟨0, 0⟩ _ 0

set_option maxRecDepth 20000 in
set_option maxHeartbeats 1000000 in
theorem divided_Quo {p : Option Addr} {S : List Om} (h : Ask w p S) (c : Nat) (a b : Int) (hb0 : b ≠ 0) {B : Nat} (hB0 : w.heap[B]? = some (.cells #[.func (.func 34) #[] #[]] 62 (0, 0))) :
    Calls Try.prog 54 #[.slice p S.length c, .int .i64 a, .int .i64 b, .pointer (some ⟨B, 0, none⟩)] w (DidR w S ⟨2, wrap64 (Int.tdiv a b)⟩ ⟨#[]⟩ 0) := by
  have hB := below1 w noD
  have hb := heap_alloc_new w noD
  have HQ := fun (W : World) => sQuo_in a b hb0 W
  have HW := fun (n : Int) (W : World) => pwhole_in n W
  have HC := fun (n : Int) (W : World) (hb : Below w.heap.size w W) => comesTo_in (h.below hb) c ⟨2, n⟩
  simp only [show ((2 : Nat) : Int) = 2 from rfl] at HC
  have hx := (hB.block _ (Array.getElem?_eq_some_iff.1 hB0).1).trans hB0
  unfold noD at hB hb hx
  obtain ⟨x0, -⟩ := cell_row1 hx
  have hb' : (b == 0) = false := by simpa using hb0
  go_enter Try.func54, Try.ntmps54
  go_wp2_with (first
    | (go_at_call 34; (with_reducible refine (HQ _).mono ?_); clear HQ; rintro e w0 ⟨rfl, rfl⟩)
    | (go_at_call 23; (with_reducible refine (HW _ _).mono ?_); clear HW; rintro e w1 ⟨rfl, hB1⟩; have hBw := hB.trans (hB1.mono hB.size); have hb1 := (hB1.block _ (Array.getElem?_eq_some_iff.1 hb).1).trans hb)
    | (go_at_call 22; (with_reducible refine (HC _ w1 hBw).mono ?_); clear HC; rintro e w2 ⟨p1, c1, rfl, hts, hB2⟩; have hr := (hB2.block _ (Array.getElem?_eq_some_iff.1 hb1).1).trans hb1; obtain ⟨⟨z0, z1, z2, z3, z4⟩, s0, s1, s2, s3, s4⟩ := cell_row5 hr))
  refine bodyPost_ret (results_cell_row (by rfl) _ _ w.heap.size 28 _ _ _ (by rfl) (set5_row hr) Try.underlying28 (by rfl) infoDid) (by rfl) ?_
  exact did_fin hr (Nat.le_refl _) (hts_mono hts hBw.size) (hBw.trans (hB2.mono hBw.size)) ⟨2, _⟩ ⟨#[]⟩ 0

set_option maxRecDepth 20000 in
set_option maxHeartbeats 1000000 in
theorem divided_Rem {p : Option Addr} {S : List Om} (h : Ask w p S) (c : Nat) (a b : Int) (hb0 : b ≠ 0) {B : Nat} (hB0 : w.heap[B]? = some (.cells #[.func (.func 35) #[] #[]] 62 (0, 0))) :
    Calls Try.prog 54 #[.slice p S.length c, .int .i64 a, .int .i64 b, .pointer (some ⟨B, 0, none⟩)] w (DidR w S ⟨2, Int.tmod a b⟩ ⟨#[]⟩ 0) := by
  have hB := below1 w noD
  have hb := heap_alloc_new w noD
  have HQ := fun (W : World) => sRem_in a b hb0 W
  have HW := fun (n : Int) (W : World) => pwhole_in n W
  have HC := fun (n : Int) (W : World) (hb : Below w.heap.size w W) => comesTo_in (h.below hb) c ⟨2, n⟩
  simp only [show ((2 : Nat) : Int) = 2 from rfl] at HC
  have hx := (hB.block _ (Array.getElem?_eq_some_iff.1 hB0).1).trans hB0
  unfold noD at hB hb hx
  obtain ⟨x0, -⟩ := cell_row1 hx
  have hb' : (b == 0) = false := by simpa using hb0
  go_enter Try.func54, Try.ntmps54
  go_wp2_with (first
    | (go_at_call 35; (with_reducible refine (HQ _).mono ?_); clear HQ; rintro e w0 ⟨rfl, rfl⟩)
    | (go_at_call 23; (with_reducible refine (HW _ _).mono ?_); clear HW; rintro e w1 ⟨rfl, hB1⟩; have hBw := hB.trans (hB1.mono hB.size); have hb1 := (hB1.block _ (Array.getElem?_eq_some_iff.1 hb).1).trans hb)
    | (go_at_call 22; (with_reducible refine (HC _ w1 hBw).mono ?_); clear HC; rintro e w2 ⟨p1, c1, rfl, hts, hB2⟩; have hr := (hB2.block _ (Array.getElem?_eq_some_iff.1 hb1).1).trans hb1; obtain ⟨⟨z0, z1, z2, z3, z4⟩, s0, s1, s2, s3, s4⟩ := cell_row5 hr))
  refine bodyPost_ret (results_cell_row (by rfl) _ _ w.heap.size 28 _ _ _ (by rfl) (set5_row hr) Try.underlying28 (by rfl) infoDid) (by rfl) ?_
  exact did_fin hr (Nat.le_refl _) (hts_mono hts hBw.size) (hBw.trans (hB2.mono hBw.size)) ⟨2, _⟩ ⟨#[]⟩ 0

/-- The signs' functions, as a table. -/
def fnV (n : Nat) : Value := .func (.func n) #[] #[]

def signRow (b4 b5 : Nat) : Array Value := #[.nilFunc, .nilFunc, .nilFunc, fnV 28, fnV 29, .nilFunc, fnV 31, .nilFunc, .nilFunc, fnV 32, .nilFunc, .nilFunc, .func (.func 54) #[] #[.pointer (some ⟨b4, 0, none⟩)], .nilFunc, .nilFunc, .func (.func 54) #[] #[.pointer (some ⟨b5, 0, none⟩)], .nilFunc, .nilFunc, fnV 36, fnV 38, .nilFunc, fnV 39, fnV 40, .nilFunc, .nilFunc, .nilFunc, fnV 41, .nilFunc, .nilFunc, fnV 43]

set_option maxRecDepth 20000 in
set_option maxHeartbeats 1000000 in
theorem signs_in (w : World) : Calls Try.prog 12 #[] w fun e w' => e = .returned (.slice (some ⟨w.heap.size + 1 + 1, 0, none⟩) 10 10) ∧ w' = ((w.alloc (.cells #[fnV 34] 62)).alloc (.cells #[fnV 35] 62)).alloc (.cells (signRow w.heap.size (w.heap.size + 1)) 49) := by
  have HU := fun (f : Nat) (W : World) => unlessZero_in f W
  unfold fnV signRow
  go_enter Try.func12, Try.ntmps12
  go_wp2_with (first
    | (go_at_call 33; (with_reducible refine (HU _ _).mono ?_); rintro e w2 ⟨rfl, rfl⟩))
  go_ret
  exact ⟨rfl, rfl⟩

end Go.Proofs.Ytlghciglofbkaaa
