/- Signs.Bin: of all values, of texts; out of the table; cells. -/
import Derived.Test.YtgokofomoachaaaGreatDoorPbSign2
import Derived.Deep.Cut
namespace Go.Proofs.YtgokofomoachaaaGreatDoor
set_option linter.unusedVariables false
set_option linter.unusedSimpArgs false
open Go.RowKit

variable {w : World}

set_option maxRecDepth 20000 in
set_option maxHeartbeats 4000000 in
theorem sBin_a8 {p : Option Addr} {S : List Om} (h : Ask w p S) (c : Nat) {g : Nat} (hs : Sgn w g) (a b : Vl) (ha7 : a.k ≠ 7) (hb7 : b.k ≠ 7) (ha : a.k = 3 → leadO S a ≠ none) (hb : b.k = 3 → leadO S b ≠ none) (r : Bool) (hr0 : r = true ↔ essP S a = essP S b) {d : Dd} (hd : d = truthD (r)) :
    Calls Tryz.prog 53 #[.slice (some ⟨g, 0, none⟩) 10 10, .slice p S.length c, .int .u8 8, .agg #[.int .u8 a.k, .int .i64 a.n], .agg #[.int .u8 b.k, .int .i64 b.n]] w (DeedR w d) := by
  obtain ⟨b4, b5, hg, -, -⟩ := hs
  have hB := below3' w (.cells #[.int .u8 a.k, .int .i64 a.n] 27) (.cells #[.int .u8 b.k, .int .i64 b.n] 27) (.cells #[.string ⟨#[]⟩, .int .i64 0, .int .u8 0, .int .i64 0, .int .u8 0, .string ⟨#[]⟩, .slice none 0 0, .int .i64 0, .int .i64 0, .int .i64 0, .int .i64 0, .slice none 0 0, .int .i64 0] 100)
  have e0 := heap3_0 w (.cells #[.int .u8 a.k, .int .i64 a.n] 27) (.cells #[.int .u8 b.k, .int .i64 b.n] 27) (.cells #[.string ⟨#[]⟩, .int .i64 0, .int .u8 0, .int .i64 0, .int .u8 0, .string ⟨#[]⟩, .slice none 0 0, .int .i64 0, .int .i64 0, .int .i64 0, .int .i64 0, .slice none 0 0, .int .i64 0] 100)
  have e1 := heap3_1 w (.cells #[.int .u8 a.k, .int .i64 a.n] 27) (.cells #[.int .u8 b.k, .int .i64 b.n] 27) (.cells #[.string ⟨#[]⟩, .int .i64 0, .int .u8 0, .int .i64 0, .int .u8 0, .string ⟨#[]⟩, .slice none 0 0, .int .i64 0, .int .i64 0, .int .i64 0, .int .i64 0, .slice none 0 0, .int .i64 0] 100)
  have e2 := heap3_2 w (.cells #[.int .u8 a.k, .int .i64 a.n] 27) (.cells #[.int .u8 b.k, .int .i64 b.n] 27) (.cells #[.string ⟨#[]⟩, .int .i64 0, .int .u8 0, .int .i64 0, .int .u8 0, .string ⟨#[]⟩, .slice none 0 0, .int .i64 0, .int .i64 0, .int .i64 0, .int .i64 0, .slice none 0 0, .int .i64 0] 100)
  obtain ⟨x0, x1⟩ := cell_row2 e0
  obtain ⟨u0, u1⟩ := cell_row2 e1
  have HDq : Hid _ := hd
  have N1 := neqI
  have N2 := neqI0
  have N3 := neqX
  have N4 := neqX0
  have N5 := neqA
  have N6 := neqA0
  clear hd
  go_enter Tryz.func53, Tryz.ntmps53
  go_wp2_with (first
    | (go_at_call 174; refine halt_here ?_))
  unfold Halted
  have hsz : (((w.alloc (.cells #[.int .u8 a.k, .int .i64 a.n] 27)).alloc (.cells #[.int .u8 b.k, .int .i64 b.n] 27)).alloc (.cells #[.string ⟨#[]⟩, .int .i64 0, .int .u8 0, .int .i64 0, .int .u8 0, .string ⟨#[]⟩, .slice none 0 0, .int .i64 0, .int .i64 0, .int .i64 0, .int .i64 0, .slice none 0 0, .int .i64 0] 100)).heap.size = w.heap.size + 1 + 1 + 1 := by simp
  generalize hW : ((w.alloc (.cells #[.int .u8 a.k, .int .i64 a.n] 27)).alloc (.cells #[.int .u8 b.k, .int .i64 b.n] 27)).alloc (.cells #[.string ⟨#[]⟩, .int .i64 0, .int .u8 0, .int .i64 0, .int .u8 0, .string ⟨#[]⟩, .slice none 0 0, .int .i64 0, .int .i64 0, .int .i64 0, .int .i64 0, .slice none 0 0, .int .i64 0] 100) = W at *
  clear hW
  have hnew := heap_alloc_new W (.cells #[.int .u8 a.k, .int .i64 a.n, .int .u8 b.k, .int .i64 b.n] 27)
  have hBY := below1 W (.cells #[.int .u8 a.k, .int .i64 a.n, .int .u8 b.k, .int .i64 b.n] 27)
  rw [hsz] at hnew
  clear hsz
  refine Calls.mono (anyCell_in (l := [a, b]) 2 (one_vals2 hnew) (by simp) false (no_cells2 ha7 hb7)) ?_
  rintro e w0 ⟨rfl, hB0⟩
  have hB' := hBY.trans (hB0.mono hBY.size)
  have hBw := hB.trans (hB'.mono hB.size)
  have f0 := (hB'.block _ (Array.getElem?_eq_some_iff.1 e0).1).trans e0
  have f1 := (hB'.block _ (Array.getElem?_eq_some_iff.1 e1).1).trans e1
  have f2 := (hB'.block _ (Array.getElem?_eq_some_iff.1 e2).1).trans e2
  have fg := (hBw.block _ (Array.getElem?_eq_some_iff.1 hg).1).trans hg
  clear x0 x1 u0 u1 e0 e1 e2 hnew hBY hB'
  have t0 := cell_sign fg (i := 24) (v := .nilFunc) (by rfl)
  have t1 := cell_sign fg (i := 25) (v := .nilFunc) (by rfl)
  have t2 := cell_sign fg (i := 26) (v := .func (.func 171) #[] #[]) (by rfl)
  have hBS := below1 w0 (.cells #[.nilFunc, .nilFunc, .func (.func 171) #[] #[]] 148)
  have hBw2 := hBw.trans (hBS.mono hBw.size)
  have g0 := (hBS.block _ (Array.getElem?_eq_some_iff.1 f0).1).trans f0
  have g1 := (hBS.block _ (Array.getElem?_eq_some_iff.1 f1).1).trans f1
  have g2 := (hBS.block _ (Array.getElem?_eq_some_iff.1 f2).1).trans f2
  have g3 := heap_alloc_new w0 (.cells #[.nilFunc, .nilFunc, .func (.func 171) #[] #[]] 148)
  obtain ⟨x0, x1⟩ := cell_row2 g0
  obtain ⟨u0, u1⟩ := cell_row2 g1
  obtain ⟨⟨s0, s1, s2⟩, -⟩ := cell_row3P g3
  clear hg fg
  have H1 := sSame_in (h.below hBw2) c a b ha hb r hr0 HDq.out
  clear HDq ha hb hr0 ha7 hb7
  go_wp2_with (first
    | (go_at_call 171; (with_reducible refine H1.mono ?_); clear H1; rintro e w1 ⟨q, c_, q2, rfl, h1, h2, hB1⟩; have hr := (hB1.block _ (Array.getElem?_eq_some_iff.1 g2).1).trans g2; obtain ⟨⟨z0, z1, z2, z3, z4, z5, z6, z7, z8, z9, z10, z11, z12⟩, y0, y1, y2, y3, y4, y5, y6, y7, y8, y9, y10, y11, y12⟩ := cell_row13 hr))
  refine bodyPost_ret (results_cell_row (by rfl) _ _ (w.heap.size + 1 + 1) 100 _ _ _ (by rfl) (set13_row hr) Tryz.underlying100 (by rfl) infoDeed) (by rfl) ?_
  exact deed_fin hr (by omega) d h1 h2 (hBw2.trans (hB1.mono hBw2.size))

set_option maxRecDepth 20000 in
set_option maxHeartbeats 4000000 in
theorem sBin_a9 {p : Option Addr} {S : List Om} (h : Ask w p S) (c : Nat) {g : Nat} (hs : Sgn w g) (a b : Vl) (ha7 : a.k ≠ 7) (hb7 : b.k ≠ 7) (ha : a.k = 3 → leadO S a ≠ none) (hb : b.k = 3 → leadO S b ≠ none) (r : Bool) (hr0 : r = true ↔ essP S a = essP S b) {d : Dd} (hd : d = truthD (!r)) :
    Calls Tryz.prog 53 #[.slice (some ⟨g, 0, none⟩) 10 10, .slice p S.length c, .int .u8 9, .agg #[.int .u8 a.k, .int .i64 a.n], .agg #[.int .u8 b.k, .int .i64 b.n]] w (DeedR w d) := by
  obtain ⟨b4, b5, hg, -, -⟩ := hs
  have hB := below3' w (.cells #[.int .u8 a.k, .int .i64 a.n] 27) (.cells #[.int .u8 b.k, .int .i64 b.n] 27) (.cells #[.string ⟨#[]⟩, .int .i64 0, .int .u8 0, .int .i64 0, .int .u8 0, .string ⟨#[]⟩, .slice none 0 0, .int .i64 0, .int .i64 0, .int .i64 0, .int .i64 0, .slice none 0 0, .int .i64 0] 100)
  have e0 := heap3_0 w (.cells #[.int .u8 a.k, .int .i64 a.n] 27) (.cells #[.int .u8 b.k, .int .i64 b.n] 27) (.cells #[.string ⟨#[]⟩, .int .i64 0, .int .u8 0, .int .i64 0, .int .u8 0, .string ⟨#[]⟩, .slice none 0 0, .int .i64 0, .int .i64 0, .int .i64 0, .int .i64 0, .slice none 0 0, .int .i64 0] 100)
  have e1 := heap3_1 w (.cells #[.int .u8 a.k, .int .i64 a.n] 27) (.cells #[.int .u8 b.k, .int .i64 b.n] 27) (.cells #[.string ⟨#[]⟩, .int .i64 0, .int .u8 0, .int .i64 0, .int .u8 0, .string ⟨#[]⟩, .slice none 0 0, .int .i64 0, .int .i64 0, .int .i64 0, .int .i64 0, .slice none 0 0, .int .i64 0] 100)
  have e2 := heap3_2 w (.cells #[.int .u8 a.k, .int .i64 a.n] 27) (.cells #[.int .u8 b.k, .int .i64 b.n] 27) (.cells #[.string ⟨#[]⟩, .int .i64 0, .int .u8 0, .int .i64 0, .int .u8 0, .string ⟨#[]⟩, .slice none 0 0, .int .i64 0, .int .i64 0, .int .i64 0, .int .i64 0, .slice none 0 0, .int .i64 0] 100)
  obtain ⟨x0, x1⟩ := cell_row2 e0
  obtain ⟨u0, u1⟩ := cell_row2 e1
  have HDq : Hid _ := hd
  have N1 := neqI
  have N2 := neqI0
  have N3 := neqX
  have N4 := neqX0
  have N5 := neqA
  have N6 := neqA0
  clear hd
  go_enter Tryz.func53, Tryz.ntmps53
  go_wp2_with (first
    | (go_at_call 174; refine halt_here ?_))
  unfold Halted
  have hsz : (((w.alloc (.cells #[.int .u8 a.k, .int .i64 a.n] 27)).alloc (.cells #[.int .u8 b.k, .int .i64 b.n] 27)).alloc (.cells #[.string ⟨#[]⟩, .int .i64 0, .int .u8 0, .int .i64 0, .int .u8 0, .string ⟨#[]⟩, .slice none 0 0, .int .i64 0, .int .i64 0, .int .i64 0, .int .i64 0, .slice none 0 0, .int .i64 0] 100)).heap.size = w.heap.size + 1 + 1 + 1 := by simp
  generalize hW : ((w.alloc (.cells #[.int .u8 a.k, .int .i64 a.n] 27)).alloc (.cells #[.int .u8 b.k, .int .i64 b.n] 27)).alloc (.cells #[.string ⟨#[]⟩, .int .i64 0, .int .u8 0, .int .i64 0, .int .u8 0, .string ⟨#[]⟩, .slice none 0 0, .int .i64 0, .int .i64 0, .int .i64 0, .int .i64 0, .slice none 0 0, .int .i64 0] 100) = W at *
  clear hW
  have hnew := heap_alloc_new W (.cells #[.int .u8 a.k, .int .i64 a.n, .int .u8 b.k, .int .i64 b.n] 27)
  have hBY := below1 W (.cells #[.int .u8 a.k, .int .i64 a.n, .int .u8 b.k, .int .i64 b.n] 27)
  rw [hsz] at hnew
  clear hsz
  refine Calls.mono (anyCell_in (l := [a, b]) 2 (one_vals2 hnew) (by simp) false (no_cells2 ha7 hb7)) ?_
  rintro e w0 ⟨rfl, hB0⟩
  have hB' := hBY.trans (hB0.mono hBY.size)
  have hBw := hB.trans (hB'.mono hB.size)
  have f0 := (hB'.block _ (Array.getElem?_eq_some_iff.1 e0).1).trans e0
  have f1 := (hB'.block _ (Array.getElem?_eq_some_iff.1 e1).1).trans e1
  have f2 := (hB'.block _ (Array.getElem?_eq_some_iff.1 e2).1).trans e2
  have fg := (hBw.block _ (Array.getElem?_eq_some_iff.1 hg).1).trans hg
  clear x0 x1 u0 u1 e0 e1 e2 hnew hBY hB'
  have t0 := cell_sign fg (i := 27) (v := .nilFunc) (by rfl)
  have t1 := cell_sign fg (i := 28) (v := .nilFunc) (by rfl)
  have t2 := cell_sign fg (i := 29) (v := .func (.func 173) #[] #[]) (by rfl)
  have hBS := below1 w0 (.cells #[.nilFunc, .nilFunc, .func (.func 173) #[] #[]] 148)
  have hBw2 := hBw.trans (hBS.mono hBw.size)
  have g0 := (hBS.block _ (Array.getElem?_eq_some_iff.1 f0).1).trans f0
  have g1 := (hBS.block _ (Array.getElem?_eq_some_iff.1 f1).1).trans f1
  have g2 := (hBS.block _ (Array.getElem?_eq_some_iff.1 f2).1).trans f2
  have g3 := heap_alloc_new w0 (.cells #[.nilFunc, .nilFunc, .func (.func 173) #[] #[]] 148)
  obtain ⟨x0, x1⟩ := cell_row2 g0
  obtain ⟨u0, u1⟩ := cell_row2 g1
  obtain ⟨⟨s0, s1, s2⟩, -⟩ := cell_row3P g3
  clear hg fg
  have H1 := sUnlike_in (h.below hBw2) c a b ha hb r hr0 HDq.out
  clear HDq ha hb hr0 ha7 hb7
  go_wp2_with (first
    | (go_at_call 173; (with_reducible refine H1.mono ?_); clear H1; rintro e w1 ⟨q, c_, q2, rfl, h1, h2, hB1⟩; have hr := (hB1.block _ (Array.getElem?_eq_some_iff.1 g2).1).trans g2; obtain ⟨⟨z0, z1, z2, z3, z4, z5, z6, z7, z8, z9, z10, z11, z12⟩, y0, y1, y2, y3, y4, y5, y6, y7, y8, y9, y10, y11, y12⟩ := cell_row13 hr))
  refine bodyPost_ret (results_cell_row (by rfl) _ _ (w.heap.size + 1 + 1) 100 _ _ _ (by rfl) (set13_row hr) Tryz.underlying100 (by rfl) infoDeed) (by rfl) ?_
  exact deed_fin hr (by omega) d h1 h2 (hBw2.trans (hB1.mono hBw2.size))

set_option maxRecDepth 20000 in
set_option maxHeartbeats 4000000 in
theorem sBin_t6 {p : Option Addr} {S : List Om} (h : Ask w p S) (c : Nat) {g : Nat} (hs : Sgn w g) (a b : Vl) (ha7 : a.k ≠ 7) (hb7 : b.k ≠ 7) (ha : a.k = 3) (hb : b.k = 3) {x y : Om} (hx : leadO S a = some x) (hy : leadO S b = some y) (hm : ¬ (9223372036854775807 < x.s.size + y.s.size)) {d : Dd} (hd : d = truthD (Op.bytesLess x.s.toList y.s.toList)) :
    Calls Tryz.prog 53 #[.slice (some ⟨g, 0, none⟩) 10 10, .slice p S.length c, .int .u8 6, .agg #[.int .u8 a.k, .int .i64 a.n], .agg #[.int .u8 b.k, .int .i64 b.n]] w (DeedR w d) := by
  have H_ha : Hid _ := ha
  clear ha
  have H_hb : Hid _ := hb
  clear hb
  obtain ⟨b4, b5, hg, -, -⟩ := hs
  have hB := below3' w (.cells #[.int .u8 a.k, .int .i64 a.n] 27) (.cells #[.int .u8 b.k, .int .i64 b.n] 27) (.cells #[.string ⟨#[]⟩, .int .i64 0, .int .u8 0, .int .i64 0, .int .u8 0, .string ⟨#[]⟩, .slice none 0 0, .int .i64 0, .int .i64 0, .int .i64 0, .int .i64 0, .slice none 0 0, .int .i64 0] 100)
  have e0 := heap3_0 w (.cells #[.int .u8 a.k, .int .i64 a.n] 27) (.cells #[.int .u8 b.k, .int .i64 b.n] 27) (.cells #[.string ⟨#[]⟩, .int .i64 0, .int .u8 0, .int .i64 0, .int .u8 0, .string ⟨#[]⟩, .slice none 0 0, .int .i64 0, .int .i64 0, .int .i64 0, .int .i64 0, .slice none 0 0, .int .i64 0] 100)
  have e1 := heap3_1 w (.cells #[.int .u8 a.k, .int .i64 a.n] 27) (.cells #[.int .u8 b.k, .int .i64 b.n] 27) (.cells #[.string ⟨#[]⟩, .int .i64 0, .int .u8 0, .int .i64 0, .int .u8 0, .string ⟨#[]⟩, .slice none 0 0, .int .i64 0, .int .i64 0, .int .i64 0, .int .i64 0, .slice none 0 0, .int .i64 0] 100)
  have e2 := heap3_2 w (.cells #[.int .u8 a.k, .int .i64 a.n] 27) (.cells #[.int .u8 b.k, .int .i64 b.n] 27) (.cells #[.string ⟨#[]⟩, .int .i64 0, .int .u8 0, .int .i64 0, .int .u8 0, .string ⟨#[]⟩, .slice none 0 0, .int .i64 0, .int .i64 0, .int .i64 0, .int .i64 0, .slice none 0 0, .int .i64 0] 100)
  obtain ⟨x0, x1⟩ := cell_row2 e0
  obtain ⟨u0, u1⟩ := cell_row2 e1
  have HDq : Hid _ := hd
  have N1 := neqI
  have N2 := neqI0
  have N3 := neqX
  have N4 := neqX0
  have N5 := neqA
  have N6 := neqA0
  clear hd
  go_enter Tryz.func53, Tryz.ntmps53
  go_wp2_with (first
    | (go_at_call 174; refine halt_here ?_))
  unfold Halted
  have hsz : (((w.alloc (.cells #[.int .u8 a.k, .int .i64 a.n] 27)).alloc (.cells #[.int .u8 b.k, .int .i64 b.n] 27)).alloc (.cells #[.string ⟨#[]⟩, .int .i64 0, .int .u8 0, .int .i64 0, .int .u8 0, .string ⟨#[]⟩, .slice none 0 0, .int .i64 0, .int .i64 0, .int .i64 0, .int .i64 0, .slice none 0 0, .int .i64 0] 100)).heap.size = w.heap.size + 1 + 1 + 1 := by simp
  generalize hW : ((w.alloc (.cells #[.int .u8 a.k, .int .i64 a.n] 27)).alloc (.cells #[.int .u8 b.k, .int .i64 b.n] 27)).alloc (.cells #[.string ⟨#[]⟩, .int .i64 0, .int .u8 0, .int .i64 0, .int .u8 0, .string ⟨#[]⟩, .slice none 0 0, .int .i64 0, .int .i64 0, .int .i64 0, .int .i64 0, .slice none 0 0, .int .i64 0] 100) = W at *
  clear hW
  have hnew := heap_alloc_new W (.cells #[.int .u8 a.k, .int .i64 a.n, .int .u8 b.k, .int .i64 b.n] 27)
  have hBY := below1 W (.cells #[.int .u8 a.k, .int .i64 a.n, .int .u8 b.k, .int .i64 b.n] 27)
  rw [hsz] at hnew
  clear hsz
  refine Calls.mono (anyCell_in (l := [a, b]) 2 (one_vals2 hnew) (by simp) false (no_cells2 ha7 hb7)) ?_
  rintro e w0 ⟨rfl, hB0⟩
  have hB' := hBY.trans (hB0.mono hBY.size)
  have hBw := hB.trans (hB'.mono hB.size)
  have f0 := (hB'.block _ (Array.getElem?_eq_some_iff.1 e0).1).trans e0
  have f1 := (hB'.block _ (Array.getElem?_eq_some_iff.1 e1).1).trans e1
  have f2 := (hB'.block _ (Array.getElem?_eq_some_iff.1 e2).1).trans e2
  have fg := (hBw.block _ (Array.getElem?_eq_some_iff.1 hg).1).trans hg
  clear x0 x1 u0 u1 e0 e1 e2 hnew hBY hB'
  have t0 := cell_sign fg (i := 18) (v := .func (.func 166) #[] #[]) (by rfl)
  have t1 := cell_sign fg (i := 19) (v := .func (.func 168) #[] #[]) (by rfl)
  have t2 := cell_sign fg (i := 20) (v := .nilFunc) (by rfl)
  have hBS := below1 w0 (.cells #[.func (.func 166) #[] #[], .func (.func 168) #[] #[], .nilFunc] 148)
  have hBw2 := hBw.trans (hBS.mono hBw.size)
  have g0 := (hBS.block _ (Array.getElem?_eq_some_iff.1 f0).1).trans f0
  have g1 := (hBS.block _ (Array.getElem?_eq_some_iff.1 f1).1).trans f1
  have g2 := (hBS.block _ (Array.getElem?_eq_some_iff.1 f2).1).trans f2
  have g3 := heap_alloc_new w0 (.cells #[.func (.func 166) #[] #[], .func (.func 168) #[] #[], .nilFunc] 148)
  obtain ⟨x0, x1⟩ := cell_row2 g0
  obtain ⟨u0, u1⟩ := cell_row2 g1
  obtain ⟨⟨s0, s1, s2⟩, -⟩ := cell_row3P g3
  clear hg fg
  have ha := H_ha.out
  clear H_ha
  have hb := H_hb.out
  clear H_hb
  obtain ⟨ak, an⟩ := a
  simp only at ha
  subst ha
  obtain ⟨bk, bn⟩ := b
  simp only at hb
  subst hb
  simp only [show ((3 : Nat) : Int) = 3 from rfl] at x0 x1 u0 u1 f0 f1 g0 g1
  have HT : ∀ W, Calls Tryz.prog 168 #[.string x.s, .string y.s] W (DeedR W d) := fun W => sLessT_in _ _ W HDq.out
  have HXo := fun (W : World) (hb : Below w.heap.size w W) => object_in (h.below hb) c ⟨3, an⟩ hx
  have HYo := fun (W : World) (hb : Below w.heap.size w W) => object_in (h.below hb) c ⟨3, bn⟩ hy
  simp only [show ((3 : Nat) : Int) = 3 from rfl] at HXo HYo
  have HF1 := fldO1
  clear HDq ha7 hb7
  go_upto_region 9 with fail
  generalize w0.alloc (.cells #[.func (.func 166) #[] #[], .func (.func 168) #[] #[], .nilFunc] 148) = wS at *
  generalize w0.heap.size = gS at *
  have l0 := (Array.getElem?_eq_some_iff.1 g0).1
  have l1 := (Array.getElem?_eq_some_iff.1 g1).1
  have l2 := (Array.getElem?_eq_some_iff.1 g2).1
  have l3 := (Array.getElem?_eq_some_iff.1 g3).1
  have FCS : ∀ W', Below wS.heap.size wS W' → (W'.cell? ⟨w.heap.size, 0, none⟩ = some (.int .u8 3) ∧ W'.cell? ⟨w.heap.size, 1, none⟩ = some (.int .i64 an)) ∧ (W'.cell? ⟨w.heap.size + 1, 0, none⟩ = some (.int .u8 3) ∧ W'.cell? ⟨w.heap.size + 1, 1, none⟩ = some (.int .i64 bn)) ∧ W'.cell? ⟨gS, 1, none⟩ = some (.func (.func 168) #[] #[]) := fun W' hb => ⟨cell_row2 ((hb.block _ l0).trans g0), cell_row2 ((hb.block _ l1).trans g1), (cell_row3P ((hb.block _ l3).trans g3)).1.2.1⟩
  have hD := below_drew (Below.refl wS.heap.size wS)
  have S0 := FCS _ hD
  have SW := FCS _ (Below.refl _ _)
  have HXd := HXo _ (hBw2.trans (hD.mono hBw2.size))
  have hn02 : w.heap.size ≠ w.heap.size + 1 + 1 := by omega
  have hn12 : w.heap.size + 1 ≠ w.heap.size + 1 + 1 := by omega
  have hn32 : gS ≠ w.heap.size + 1 + 1 := fun e => by rw [e, g2] at g3; cases g3
  clear HXo x0 x1 u0 u1 s0 s1 s2 t0 t1 t2 f0 f1 f2
  go_region_held3 (fun W => (W.cell? ⟨w.heap.size, 0, none⟩ = some (.int .u8 3) ∧ W.cell? ⟨w.heap.size, 1, none⟩ = some (.int .i64 an)) ∧ (W.cell? ⟨w.heap.size + 1, 0, none⟩ = some (.int .u8 3) ∧ W.cell? ⟨w.heap.size + 1, 1, none⟩ = some (.int .i64 bn)) ∧ W.cell? ⟨gS, 1, none⟩ = some (.func (.func 168) #[] #[])) (first | with_reducible exact S0 | with_reducible exact SW | with_reducible exact T1 | with_reducible exact T2 | with_reducible exact T3 | with_reducible exact ⟨⟨(cell_set13 hn02).trans k0, (cell_set13 hn02).trans k1⟩, ⟨(cell_set13 hn12).trans k2, (cell_set13 hn12).trans k3⟩, (cell_set13 hn32).trans k4⟩ | go_keep)
    (first
      | (go_at_call 175; (with_reducible refine HY1.mono ?_); clear HY1; rintro e y2 ⟨q_2, c_2, rfl, -, -, hY2⟩; have hC2 := hC1.trans (hY2.mono hC1.size); have T2 := FCS _ hC2; have HT2 := HT y2)
      | (go_at_call 175; (with_reducible refine HXd.mono ?_); clear HXd; rintro e y1 ⟨q_1, c_1, rfl, -, -, hY1⟩; have hC1 := hD.trans (hY1.mono hD.size); have T1 := FCS _ hC1; have HY1 := HYo y1 (hBw2.trans (hC1.mono hBw2.size)); clear HYo)
      | (go_at_call 168; (with_reducible refine HT2.mono ?_); clear HT2; rintro e y3 ⟨q, c_, q2, rfl, h1, h2, hY3⟩; have hC3 := hC2.trans (hY3.mono hC2.size); have T3 := FCS _ hC3; obtain ⟨⟨k0, k1⟩, ⟨k2, k3⟩, k4⟩ := T3; have T3 := FCS _ hC3; have hr := (hC3.block _ l2).trans g2; obtain ⟨⟨z0, z1, z2, z3, z4, z5, z6, z7, z8, z9, z10, z11, z12⟩, y0, y1, y2, y3, y4, y5, y6, y7, y8, y9, y10, y11, y12⟩ := cell_row13 hr))
  all_goals
    go_wp2
    refine bodyPost_ret (results_cell_row (by rfl) _ _ (w.heap.size + 1 + 1) 100 _ _ _ (by rfl) (set13_row hr) Tryz.underlying100 (by rfl) infoDeed) (by rfl) ?_
    exact deed_fin hr (by omega) d h1 h2 (hBw2.trans (hC3.mono hBw2.size))

set_option maxRecDepth 20000 in
set_option maxHeartbeats 4000000 in
theorem sBin_t7 {p : Option Addr} {S : List Om} (h : Ask w p S) (c : Nat) {g : Nat} (hs : Sgn w g) (a b : Vl) (ha7 : a.k ≠ 7) (hb7 : b.k ≠ 7) (ha : a.k = 3) (hb : b.k = 3) {x y : Om} (hx : leadO S a = some x) (hy : leadO S b = some y) (hm : ¬ (9223372036854775807 < x.s.size + y.s.size)) {d : Dd} (hd : d = truthD (Op.bytesLess x.s.toList y.s.toList || x.s.toList == y.s.toList)) :
    Calls Tryz.prog 53 #[.slice (some ⟨g, 0, none⟩) 10 10, .slice p S.length c, .int .u8 7, .agg #[.int .u8 a.k, .int .i64 a.n], .agg #[.int .u8 b.k, .int .i64 b.n]] w (DeedR w d) := by
  have H_ha : Hid _ := ha
  clear ha
  have H_hb : Hid _ := hb
  clear hb
  obtain ⟨b4, b5, hg, -, -⟩ := hs
  have hB := below3' w (.cells #[.int .u8 a.k, .int .i64 a.n] 27) (.cells #[.int .u8 b.k, .int .i64 b.n] 27) (.cells #[.string ⟨#[]⟩, .int .i64 0, .int .u8 0, .int .i64 0, .int .u8 0, .string ⟨#[]⟩, .slice none 0 0, .int .i64 0, .int .i64 0, .int .i64 0, .int .i64 0, .slice none 0 0, .int .i64 0] 100)
  have e0 := heap3_0 w (.cells #[.int .u8 a.k, .int .i64 a.n] 27) (.cells #[.int .u8 b.k, .int .i64 b.n] 27) (.cells #[.string ⟨#[]⟩, .int .i64 0, .int .u8 0, .int .i64 0, .int .u8 0, .string ⟨#[]⟩, .slice none 0 0, .int .i64 0, .int .i64 0, .int .i64 0, .int .i64 0, .slice none 0 0, .int .i64 0] 100)
  have e1 := heap3_1 w (.cells #[.int .u8 a.k, .int .i64 a.n] 27) (.cells #[.int .u8 b.k, .int .i64 b.n] 27) (.cells #[.string ⟨#[]⟩, .int .i64 0, .int .u8 0, .int .i64 0, .int .u8 0, .string ⟨#[]⟩, .slice none 0 0, .int .i64 0, .int .i64 0, .int .i64 0, .int .i64 0, .slice none 0 0, .int .i64 0] 100)
  have e2 := heap3_2 w (.cells #[.int .u8 a.k, .int .i64 a.n] 27) (.cells #[.int .u8 b.k, .int .i64 b.n] 27) (.cells #[.string ⟨#[]⟩, .int .i64 0, .int .u8 0, .int .i64 0, .int .u8 0, .string ⟨#[]⟩, .slice none 0 0, .int .i64 0, .int .i64 0, .int .i64 0, .int .i64 0, .slice none 0 0, .int .i64 0] 100)
  obtain ⟨x0, x1⟩ := cell_row2 e0
  obtain ⟨u0, u1⟩ := cell_row2 e1
  have HDq : Hid _ := hd
  have N1 := neqI
  have N2 := neqI0
  have N3 := neqX
  have N4 := neqX0
  have N5 := neqA
  have N6 := neqA0
  clear hd
  go_enter Tryz.func53, Tryz.ntmps53
  go_wp2_with (first
    | (go_at_call 174; refine halt_here ?_))
  unfold Halted
  have hsz : (((w.alloc (.cells #[.int .u8 a.k, .int .i64 a.n] 27)).alloc (.cells #[.int .u8 b.k, .int .i64 b.n] 27)).alloc (.cells #[.string ⟨#[]⟩, .int .i64 0, .int .u8 0, .int .i64 0, .int .u8 0, .string ⟨#[]⟩, .slice none 0 0, .int .i64 0, .int .i64 0, .int .i64 0, .int .i64 0, .slice none 0 0, .int .i64 0] 100)).heap.size = w.heap.size + 1 + 1 + 1 := by simp
  generalize hW : ((w.alloc (.cells #[.int .u8 a.k, .int .i64 a.n] 27)).alloc (.cells #[.int .u8 b.k, .int .i64 b.n] 27)).alloc (.cells #[.string ⟨#[]⟩, .int .i64 0, .int .u8 0, .int .i64 0, .int .u8 0, .string ⟨#[]⟩, .slice none 0 0, .int .i64 0, .int .i64 0, .int .i64 0, .int .i64 0, .slice none 0 0, .int .i64 0] 100) = W at *
  clear hW
  have hnew := heap_alloc_new W (.cells #[.int .u8 a.k, .int .i64 a.n, .int .u8 b.k, .int .i64 b.n] 27)
  have hBY := below1 W (.cells #[.int .u8 a.k, .int .i64 a.n, .int .u8 b.k, .int .i64 b.n] 27)
  rw [hsz] at hnew
  clear hsz
  refine Calls.mono (anyCell_in (l := [a, b]) 2 (one_vals2 hnew) (by simp) false (no_cells2 ha7 hb7)) ?_
  rintro e w0 ⟨rfl, hB0⟩
  have hB' := hBY.trans (hB0.mono hBY.size)
  have hBw := hB.trans (hB'.mono hB.size)
  have f0 := (hB'.block _ (Array.getElem?_eq_some_iff.1 e0).1).trans e0
  have f1 := (hB'.block _ (Array.getElem?_eq_some_iff.1 e1).1).trans e1
  have f2 := (hB'.block _ (Array.getElem?_eq_some_iff.1 e2).1).trans e2
  have fg := (hBw.block _ (Array.getElem?_eq_some_iff.1 hg).1).trans hg
  clear x0 x1 u0 u1 e0 e1 e2 hnew hBY hB'
  have t0 := cell_sign fg (i := 21) (v := .func (.func 169) #[] #[]) (by rfl)
  have t1 := cell_sign fg (i := 22) (v := .func (.func 170) #[] #[]) (by rfl)
  have t2 := cell_sign fg (i := 23) (v := .nilFunc) (by rfl)
  have hBS := below1 w0 (.cells #[.func (.func 169) #[] #[], .func (.func 170) #[] #[], .nilFunc] 148)
  have hBw2 := hBw.trans (hBS.mono hBw.size)
  have g0 := (hBS.block _ (Array.getElem?_eq_some_iff.1 f0).1).trans f0
  have g1 := (hBS.block _ (Array.getElem?_eq_some_iff.1 f1).1).trans f1
  have g2 := (hBS.block _ (Array.getElem?_eq_some_iff.1 f2).1).trans f2
  have g3 := heap_alloc_new w0 (.cells #[.func (.func 169) #[] #[], .func (.func 170) #[] #[], .nilFunc] 148)
  obtain ⟨x0, x1⟩ := cell_row2 g0
  obtain ⟨u0, u1⟩ := cell_row2 g1
  obtain ⟨⟨s0, s1, s2⟩, -⟩ := cell_row3P g3
  clear hg fg
  have ha := H_ha.out
  clear H_ha
  have hb := H_hb.out
  clear H_hb
  obtain ⟨ak, an⟩ := a
  simp only at ha
  subst ha
  obtain ⟨bk, bn⟩ := b
  simp only at hb
  subst hb
  simp only [show ((3 : Nat) : Int) = 3 from rfl] at x0 x1 u0 u1 f0 f1 g0 g1
  have HT : ∀ W, Calls Tryz.prog 170 #[.string x.s, .string y.s] W (DeedR W d) := fun W => sMostT_in _ _ W HDq.out
  have HXo := fun (W : World) (hb : Below w.heap.size w W) => object_in (h.below hb) c ⟨3, an⟩ hx
  have HYo := fun (W : World) (hb : Below w.heap.size w W) => object_in (h.below hb) c ⟨3, bn⟩ hy
  simp only [show ((3 : Nat) : Int) = 3 from rfl] at HXo HYo
  have HF1 := fldO1
  clear HDq ha7 hb7
  go_upto_region 9 with fail
  generalize w0.alloc (.cells #[.func (.func 169) #[] #[], .func (.func 170) #[] #[], .nilFunc] 148) = wS at *
  generalize w0.heap.size = gS at *
  have l0 := (Array.getElem?_eq_some_iff.1 g0).1
  have l1 := (Array.getElem?_eq_some_iff.1 g1).1
  have l2 := (Array.getElem?_eq_some_iff.1 g2).1
  have l3 := (Array.getElem?_eq_some_iff.1 g3).1
  have FCS : ∀ W', Below wS.heap.size wS W' → (W'.cell? ⟨w.heap.size, 0, none⟩ = some (.int .u8 3) ∧ W'.cell? ⟨w.heap.size, 1, none⟩ = some (.int .i64 an)) ∧ (W'.cell? ⟨w.heap.size + 1, 0, none⟩ = some (.int .u8 3) ∧ W'.cell? ⟨w.heap.size + 1, 1, none⟩ = some (.int .i64 bn)) ∧ W'.cell? ⟨gS, 1, none⟩ = some (.func (.func 170) #[] #[]) := fun W' hb => ⟨cell_row2 ((hb.block _ l0).trans g0), cell_row2 ((hb.block _ l1).trans g1), (cell_row3P ((hb.block _ l3).trans g3)).1.2.1⟩
  have hD := below_drew (Below.refl wS.heap.size wS)
  have S0 := FCS _ hD
  have SW := FCS _ (Below.refl _ _)
  have HXd := HXo _ (hBw2.trans (hD.mono hBw2.size))
  have hn02 : w.heap.size ≠ w.heap.size + 1 + 1 := by omega
  have hn12 : w.heap.size + 1 ≠ w.heap.size + 1 + 1 := by omega
  have hn32 : gS ≠ w.heap.size + 1 + 1 := fun e => by rw [e, g2] at g3; cases g3
  clear HXo x0 x1 u0 u1 s0 s1 s2 t0 t1 t2 f0 f1 f2
  go_region_held3 (fun W => (W.cell? ⟨w.heap.size, 0, none⟩ = some (.int .u8 3) ∧ W.cell? ⟨w.heap.size, 1, none⟩ = some (.int .i64 an)) ∧ (W.cell? ⟨w.heap.size + 1, 0, none⟩ = some (.int .u8 3) ∧ W.cell? ⟨w.heap.size + 1, 1, none⟩ = some (.int .i64 bn)) ∧ W.cell? ⟨gS, 1, none⟩ = some (.func (.func 170) #[] #[])) (first | with_reducible exact S0 | with_reducible exact SW | with_reducible exact T1 | with_reducible exact T2 | with_reducible exact T3 | with_reducible exact ⟨⟨(cell_set13 hn02).trans k0, (cell_set13 hn02).trans k1⟩, ⟨(cell_set13 hn12).trans k2, (cell_set13 hn12).trans k3⟩, (cell_set13 hn32).trans k4⟩ | go_keep)
    (first
      | (go_at_call 175; (with_reducible refine HY1.mono ?_); clear HY1; rintro e y2 ⟨q_2, c_2, rfl, -, -, hY2⟩; have hC2 := hC1.trans (hY2.mono hC1.size); have T2 := FCS _ hC2; have HT2 := HT y2)
      | (go_at_call 175; (with_reducible refine HXd.mono ?_); clear HXd; rintro e y1 ⟨q_1, c_1, rfl, -, -, hY1⟩; have hC1 := hD.trans (hY1.mono hD.size); have T1 := FCS _ hC1; have HY1 := HYo y1 (hBw2.trans (hC1.mono hBw2.size)); clear HYo)
      | (go_at_call 170; (with_reducible refine HT2.mono ?_); clear HT2; rintro e y3 ⟨q, c_, q2, rfl, h1, h2, hY3⟩; have hC3 := hC2.trans (hY3.mono hC2.size); have T3 := FCS _ hC3; obtain ⟨⟨k0, k1⟩, ⟨k2, k3⟩, k4⟩ := T3; have T3 := FCS _ hC3; have hr := (hC3.block _ l2).trans g2; obtain ⟨⟨z0, z1, z2, z3, z4, z5, z6, z7, z8, z9, z10, z11, z12⟩, y0, y1, y2, y3, y4, y5, y6, y7, y8, y9, y10, y11, y12⟩ := cell_row13 hr))
  all_goals
    go_wp2
    refine bodyPost_ret (results_cell_row (by rfl) _ _ (w.heap.size + 1 + 1) 100 _ _ _ (by rfl) (set13_row hr) Tryz.underlying100 (by rfl) infoDeed) (by rfl) ?_
    exact deed_fin hr (by omega) d h1 h2 (hBw2.trans (hC3.mono hBw2.size))

set_option maxRecDepth 20000 in
set_option maxHeartbeats 4000000 in
theorem sBin_t1 {p : Option Addr} {S : List Om} (h : Ask w p S) (c : Nat) {g : Nat} (hs : Sgn w g) (a b : Vl) (ha7 : a.k ≠ 7) (hb7 : b.k ≠ 7) (ha : a.k = 3) (hb : b.k = 3) {x y : Om} (hx : leadO S a = some x) (hy : leadO S b = some y) (hm : ¬ (9223372036854775807 < x.s.size + y.s.size)) (hg : ¬ 4096 < (x.s ++ y.s).size) {d : Dd} (hd : d = makesD (txtO (x.s ++ y.s))) :
    Calls Tryz.prog 53 #[.slice (some ⟨g, 0, none⟩) 10 10, .slice p S.length c, .int .u8 1, .agg #[.int .u8 a.k, .int .i64 a.n], .agg #[.int .u8 b.k, .int .i64 b.n]] w (DeedR w d) := by
  have H_ha : Hid _ := ha
  clear ha
  have H_hb : Hid _ := hb
  clear hb
  obtain ⟨b4, b5, hg, -, -⟩ := hs
  have hB := below3' w (.cells #[.int .u8 a.k, .int .i64 a.n] 27) (.cells #[.int .u8 b.k, .int .i64 b.n] 27) (.cells #[.string ⟨#[]⟩, .int .i64 0, .int .u8 0, .int .i64 0, .int .u8 0, .string ⟨#[]⟩, .slice none 0 0, .int .i64 0, .int .i64 0, .int .i64 0, .int .i64 0, .slice none 0 0, .int .i64 0] 100)
  have e0 := heap3_0 w (.cells #[.int .u8 a.k, .int .i64 a.n] 27) (.cells #[.int .u8 b.k, .int .i64 b.n] 27) (.cells #[.string ⟨#[]⟩, .int .i64 0, .int .u8 0, .int .i64 0, .int .u8 0, .string ⟨#[]⟩, .slice none 0 0, .int .i64 0, .int .i64 0, .int .i64 0, .int .i64 0, .slice none 0 0, .int .i64 0] 100)
  have e1 := heap3_1 w (.cells #[.int .u8 a.k, .int .i64 a.n] 27) (.cells #[.int .u8 b.k, .int .i64 b.n] 27) (.cells #[.string ⟨#[]⟩, .int .i64 0, .int .u8 0, .int .i64 0, .int .u8 0, .string ⟨#[]⟩, .slice none 0 0, .int .i64 0, .int .i64 0, .int .i64 0, .int .i64 0, .slice none 0 0, .int .i64 0] 100)
  have e2 := heap3_2 w (.cells #[.int .u8 a.k, .int .i64 a.n] 27) (.cells #[.int .u8 b.k, .int .i64 b.n] 27) (.cells #[.string ⟨#[]⟩, .int .i64 0, .int .u8 0, .int .i64 0, .int .u8 0, .string ⟨#[]⟩, .slice none 0 0, .int .i64 0, .int .i64 0, .int .i64 0, .int .i64 0, .slice none 0 0, .int .i64 0] 100)
  obtain ⟨x0, x1⟩ := cell_row2 e0
  obtain ⟨u0, u1⟩ := cell_row2 e1
  have HDq : Hid _ := hd
  have N1 := neqI
  have N2 := neqI0
  have N3 := neqX
  have N4 := neqX0
  have N5 := neqA
  have N6 := neqA0
  clear hd
  go_enter Tryz.func53, Tryz.ntmps53
  go_wp2_with (first
    | (go_at_call 174; refine halt_here ?_))
  unfold Halted
  have hsz : (((w.alloc (.cells #[.int .u8 a.k, .int .i64 a.n] 27)).alloc (.cells #[.int .u8 b.k, .int .i64 b.n] 27)).alloc (.cells #[.string ⟨#[]⟩, .int .i64 0, .int .u8 0, .int .i64 0, .int .u8 0, .string ⟨#[]⟩, .slice none 0 0, .int .i64 0, .int .i64 0, .int .i64 0, .int .i64 0, .slice none 0 0, .int .i64 0] 100)).heap.size = w.heap.size + 1 + 1 + 1 := by simp
  generalize hW : ((w.alloc (.cells #[.int .u8 a.k, .int .i64 a.n] 27)).alloc (.cells #[.int .u8 b.k, .int .i64 b.n] 27)).alloc (.cells #[.string ⟨#[]⟩, .int .i64 0, .int .u8 0, .int .i64 0, .int .u8 0, .string ⟨#[]⟩, .slice none 0 0, .int .i64 0, .int .i64 0, .int .i64 0, .int .i64 0, .slice none 0 0, .int .i64 0] 100) = W at *
  clear hW
  have hnew := heap_alloc_new W (.cells #[.int .u8 a.k, .int .i64 a.n, .int .u8 b.k, .int .i64 b.n] 27)
  have hBY := below1 W (.cells #[.int .u8 a.k, .int .i64 a.n, .int .u8 b.k, .int .i64 b.n] 27)
  rw [hsz] at hnew
  clear hsz
  refine Calls.mono (anyCell_in (l := [a, b]) 2 (one_vals2 hnew) (by simp) false (no_cells2 ha7 hb7)) ?_
  rintro e w0 ⟨rfl, hB0⟩
  have hB' := hBY.trans (hB0.mono hBY.size)
  have hBw := hB.trans (hB'.mono hB.size)
  have f0 := (hB'.block _ (Array.getElem?_eq_some_iff.1 e0).1).trans e0
  have f1 := (hB'.block _ (Array.getElem?_eq_some_iff.1 e1).1).trans e1
  have f2 := (hB'.block _ (Array.getElem?_eq_some_iff.1 e2).1).trans e2
  have fg := (hBw.block _ (Array.getElem?_eq_some_iff.1 hg).1).trans hg
  clear x0 x1 u0 u1 e0 e1 e2 hnew hBY hB'
  have t0 := cell_sign fg (i := 3) (v := .func (.func 158) #[] #[]) (by rfl)
  have t1 := cell_sign fg (i := 4) (v := .func (.func 160) #[] #[]) (by rfl)
  have t2 := cell_sign fg (i := 5) (v := .nilFunc) (by rfl)
  have hBS := below1 w0 (.cells #[.func (.func 158) #[] #[], .func (.func 160) #[] #[], .nilFunc] 148)
  have hBw2 := hBw.trans (hBS.mono hBw.size)
  have g0 := (hBS.block _ (Array.getElem?_eq_some_iff.1 f0).1).trans f0
  have g1 := (hBS.block _ (Array.getElem?_eq_some_iff.1 f1).1).trans f1
  have g2 := (hBS.block _ (Array.getElem?_eq_some_iff.1 f2).1).trans f2
  have g3 := heap_alloc_new w0 (.cells #[.func (.func 158) #[] #[], .func (.func 160) #[] #[], .nilFunc] 148)
  obtain ⟨x0, x1⟩ := cell_row2 g0
  obtain ⟨u0, u1⟩ := cell_row2 g1
  obtain ⟨⟨s0, s1, s2⟩, -⟩ := cell_row3P g3
  clear hg fg
  have ha := H_ha.out
  clear H_ha
  have hb := H_hb.out
  clear H_hb
  obtain ⟨ak, an⟩ := a
  simp only at ha
  subst ha
  obtain ⟨bk, bn⟩ := b
  simp only at hb
  subst hb
  simp only [show ((3 : Nat) : Int) = 3 from rfl] at x0 x1 u0 u1 f0 f1 g0 g1
  have HT : ∀ W, Calls Tryz.prog 160 #[.string x.s, .string y.s] W (DeedR W d) := fun W => sAddT_ok _ _ hm hg W HDq.out
  have HXo := fun (W : World) (hb : Below w.heap.size w W) => object_in (h.below hb) c ⟨3, an⟩ hx
  have HYo := fun (W : World) (hb : Below w.heap.size w W) => object_in (h.below hb) c ⟨3, bn⟩ hy
  simp only [show ((3 : Nat) : Int) = 3 from rfl] at HXo HYo
  have HF1 := fldO1
  clear HDq ha7 hb7 hg
  go_upto_region 9 with fail
  generalize w0.alloc (.cells #[.func (.func 158) #[] #[], .func (.func 160) #[] #[], .nilFunc] 148) = wS at *
  generalize w0.heap.size = gS at *
  have l0 := (Array.getElem?_eq_some_iff.1 g0).1
  have l1 := (Array.getElem?_eq_some_iff.1 g1).1
  have l2 := (Array.getElem?_eq_some_iff.1 g2).1
  have l3 := (Array.getElem?_eq_some_iff.1 g3).1
  have FCS : ∀ W', Below wS.heap.size wS W' → (W'.cell? ⟨w.heap.size, 0, none⟩ = some (.int .u8 3) ∧ W'.cell? ⟨w.heap.size, 1, none⟩ = some (.int .i64 an)) ∧ (W'.cell? ⟨w.heap.size + 1, 0, none⟩ = some (.int .u8 3) ∧ W'.cell? ⟨w.heap.size + 1, 1, none⟩ = some (.int .i64 bn)) ∧ W'.cell? ⟨gS, 1, none⟩ = some (.func (.func 160) #[] #[]) := fun W' hb => ⟨cell_row2 ((hb.block _ l0).trans g0), cell_row2 ((hb.block _ l1).trans g1), (cell_row3P ((hb.block _ l3).trans g3)).1.2.1⟩
  have hD := below_drew (Below.refl wS.heap.size wS)
  have S0 := FCS _ hD
  have SW := FCS _ (Below.refl _ _)
  have HXd := HXo _ (hBw2.trans (hD.mono hBw2.size))
  have hn02 : w.heap.size ≠ w.heap.size + 1 + 1 := by omega
  have hn12 : w.heap.size + 1 ≠ w.heap.size + 1 + 1 := by omega
  have hn32 : gS ≠ w.heap.size + 1 + 1 := fun e => by rw [e, g2] at g3; cases g3
  clear HXo x0 x1 u0 u1 s0 s1 s2 t0 t1 t2 f0 f1 f2
  go_region_held3 (fun W => (W.cell? ⟨w.heap.size, 0, none⟩ = some (.int .u8 3) ∧ W.cell? ⟨w.heap.size, 1, none⟩ = some (.int .i64 an)) ∧ (W.cell? ⟨w.heap.size + 1, 0, none⟩ = some (.int .u8 3) ∧ W.cell? ⟨w.heap.size + 1, 1, none⟩ = some (.int .i64 bn)) ∧ W.cell? ⟨gS, 1, none⟩ = some (.func (.func 160) #[] #[])) (first | with_reducible exact S0 | with_reducible exact SW | with_reducible exact T1 | with_reducible exact T2 | with_reducible exact T3 | with_reducible exact ⟨⟨(cell_set13 hn02).trans k0, (cell_set13 hn02).trans k1⟩, ⟨(cell_set13 hn12).trans k2, (cell_set13 hn12).trans k3⟩, (cell_set13 hn32).trans k4⟩ | go_keep)
    (first
      | (go_at_call 175; (with_reducible refine HY1.mono ?_); clear HY1; rintro e y2 ⟨q_2, c_2, rfl, -, -, hY2⟩; have hC2 := hC1.trans (hY2.mono hC1.size); have T2 := FCS _ hC2; have HT2 := HT y2)
      | (go_at_call 175; (with_reducible refine HXd.mono ?_); clear HXd; rintro e y1 ⟨q_1, c_1, rfl, -, -, hY1⟩; have hC1 := hD.trans (hY1.mono hD.size); have T1 := FCS _ hC1; have HY1 := HYo y1 (hBw2.trans (hC1.mono hBw2.size)); clear HYo)
      | (go_at_call 160; (with_reducible refine HT2.mono ?_); clear HT2; rintro e y3 ⟨q, c_, q2, rfl, h1, h2, hY3⟩; have hC3 := hC2.trans (hY3.mono hC2.size); have T3 := FCS _ hC3; obtain ⟨⟨k0, k1⟩, ⟨k2, k3⟩, k4⟩ := T3; have T3 := FCS _ hC3; have hr := (hC3.block _ l2).trans g2; obtain ⟨⟨z0, z1, z2, z3, z4, z5, z6, z7, z8, z9, z10, z11, z12⟩, y0, y1, y2, y3, y4, y5, y6, y7, y8, y9, y10, y11, y12⟩ := cell_row13 hr))
  all_goals
    go_wp2
    refine bodyPost_ret (results_cell_row (by rfl) _ _ (w.heap.size + 1 + 1) 100 _ _ _ (by rfl) (set13_row hr) Tryz.underlying100 (by rfl) infoDeed) (by rfl) ?_
    exact deed_fin hr (by omega) d h1 h2 (hBw2.trans (hC3.mono hBw2.size))

set_option maxRecDepth 20000 in
set_option maxHeartbeats 4000000 in
theorem sBin_t1f {p : Option Addr} {S : List Om} (h : Ask w p S) (c : Nat) {g : Nat} (hs : Sgn w g) (a b : Vl) (ha7 : a.k ≠ 7) (hb7 : b.k ≠ 7) (ha : a.k = 3) (hb : b.k = 3) {x y : Om} (hx : leadO S a = some x) (hy : leadO S b = some y) (hm : ¬ (9223372036854775807 < x.s.size + y.s.size)) (hg : 4096 < (x.s ++ y.s).size) {d : Dd} (hd : d = thrD tGreat) :
    Calls Tryz.prog 53 #[.slice (some ⟨g, 0, none⟩) 10 10, .slice p S.length c, .int .u8 1, .agg #[.int .u8 a.k, .int .i64 a.n], .agg #[.int .u8 b.k, .int .i64 b.n]] w (DeedR w d) := by
  have H_ha : Hid _ := ha
  clear ha
  have H_hb : Hid _ := hb
  clear hb
  obtain ⟨b4, b5, hg, -, -⟩ := hs
  have hB := below3' w (.cells #[.int .u8 a.k, .int .i64 a.n] 27) (.cells #[.int .u8 b.k, .int .i64 b.n] 27) (.cells #[.string ⟨#[]⟩, .int .i64 0, .int .u8 0, .int .i64 0, .int .u8 0, .string ⟨#[]⟩, .slice none 0 0, .int .i64 0, .int .i64 0, .int .i64 0, .int .i64 0, .slice none 0 0, .int .i64 0] 100)
  have e0 := heap3_0 w (.cells #[.int .u8 a.k, .int .i64 a.n] 27) (.cells #[.int .u8 b.k, .int .i64 b.n] 27) (.cells #[.string ⟨#[]⟩, .int .i64 0, .int .u8 0, .int .i64 0, .int .u8 0, .string ⟨#[]⟩, .slice none 0 0, .int .i64 0, .int .i64 0, .int .i64 0, .int .i64 0, .slice none 0 0, .int .i64 0] 100)
  have e1 := heap3_1 w (.cells #[.int .u8 a.k, .int .i64 a.n] 27) (.cells #[.int .u8 b.k, .int .i64 b.n] 27) (.cells #[.string ⟨#[]⟩, .int .i64 0, .int .u8 0, .int .i64 0, .int .u8 0, .string ⟨#[]⟩, .slice none 0 0, .int .i64 0, .int .i64 0, .int .i64 0, .int .i64 0, .slice none 0 0, .int .i64 0] 100)
  have e2 := heap3_2 w (.cells #[.int .u8 a.k, .int .i64 a.n] 27) (.cells #[.int .u8 b.k, .int .i64 b.n] 27) (.cells #[.string ⟨#[]⟩, .int .i64 0, .int .u8 0, .int .i64 0, .int .u8 0, .string ⟨#[]⟩, .slice none 0 0, .int .i64 0, .int .i64 0, .int .i64 0, .int .i64 0, .slice none 0 0, .int .i64 0] 100)
  obtain ⟨x0, x1⟩ := cell_row2 e0
  obtain ⟨u0, u1⟩ := cell_row2 e1
  have HDq : Hid _ := hd
  have N1 := neqI
  have N2 := neqI0
  have N3 := neqX
  have N4 := neqX0
  have N5 := neqA
  have N6 := neqA0
  clear hd
  go_enter Tryz.func53, Tryz.ntmps53
  go_wp2_with (first
    | (go_at_call 174; refine halt_here ?_))
  unfold Halted
  have hsz : (((w.alloc (.cells #[.int .u8 a.k, .int .i64 a.n] 27)).alloc (.cells #[.int .u8 b.k, .int .i64 b.n] 27)).alloc (.cells #[.string ⟨#[]⟩, .int .i64 0, .int .u8 0, .int .i64 0, .int .u8 0, .string ⟨#[]⟩, .slice none 0 0, .int .i64 0, .int .i64 0, .int .i64 0, .int .i64 0, .slice none 0 0, .int .i64 0] 100)).heap.size = w.heap.size + 1 + 1 + 1 := by simp
  generalize hW : ((w.alloc (.cells #[.int .u8 a.k, .int .i64 a.n] 27)).alloc (.cells #[.int .u8 b.k, .int .i64 b.n] 27)).alloc (.cells #[.string ⟨#[]⟩, .int .i64 0, .int .u8 0, .int .i64 0, .int .u8 0, .string ⟨#[]⟩, .slice none 0 0, .int .i64 0, .int .i64 0, .int .i64 0, .int .i64 0, .slice none 0 0, .int .i64 0] 100) = W at *
  clear hW
  have hnew := heap_alloc_new W (.cells #[.int .u8 a.k, .int .i64 a.n, .int .u8 b.k, .int .i64 b.n] 27)
  have hBY := below1 W (.cells #[.int .u8 a.k, .int .i64 a.n, .int .u8 b.k, .int .i64 b.n] 27)
  rw [hsz] at hnew
  clear hsz
  refine Calls.mono (anyCell_in (l := [a, b]) 2 (one_vals2 hnew) (by simp) false (no_cells2 ha7 hb7)) ?_
  rintro e w0 ⟨rfl, hB0⟩
  have hB' := hBY.trans (hB0.mono hBY.size)
  have hBw := hB.trans (hB'.mono hB.size)
  have f0 := (hB'.block _ (Array.getElem?_eq_some_iff.1 e0).1).trans e0
  have f1 := (hB'.block _ (Array.getElem?_eq_some_iff.1 e1).1).trans e1
  have f2 := (hB'.block _ (Array.getElem?_eq_some_iff.1 e2).1).trans e2
  have fg := (hBw.block _ (Array.getElem?_eq_some_iff.1 hg).1).trans hg
  clear x0 x1 u0 u1 e0 e1 e2 hnew hBY hB'
  have t0 := cell_sign fg (i := 3) (v := .func (.func 158) #[] #[]) (by rfl)
  have t1 := cell_sign fg (i := 4) (v := .func (.func 160) #[] #[]) (by rfl)
  have t2 := cell_sign fg (i := 5) (v := .nilFunc) (by rfl)
  have hBS := below1 w0 (.cells #[.func (.func 158) #[] #[], .func (.func 160) #[] #[], .nilFunc] 148)
  have hBw2 := hBw.trans (hBS.mono hBw.size)
  have g0 := (hBS.block _ (Array.getElem?_eq_some_iff.1 f0).1).trans f0
  have g1 := (hBS.block _ (Array.getElem?_eq_some_iff.1 f1).1).trans f1
  have g2 := (hBS.block _ (Array.getElem?_eq_some_iff.1 f2).1).trans f2
  have g3 := heap_alloc_new w0 (.cells #[.func (.func 158) #[] #[], .func (.func 160) #[] #[], .nilFunc] 148)
  obtain ⟨x0, x1⟩ := cell_row2 g0
  obtain ⟨u0, u1⟩ := cell_row2 g1
  obtain ⟨⟨s0, s1, s2⟩, -⟩ := cell_row3P g3
  clear hg fg
  have ha := H_ha.out
  clear H_ha
  have hb := H_hb.out
  clear H_hb
  obtain ⟨ak, an⟩ := a
  simp only at ha
  subst ha
  obtain ⟨bk, bn⟩ := b
  simp only at hb
  subst hb
  simp only [show ((3 : Nat) : Int) = 3 from rfl] at x0 x1 u0 u1 f0 f1 g0 g1
  have HT : ∀ W, Calls Tryz.prog 160 #[.string x.s, .string y.s] W (DeedR W d) := fun W => sAddT_far _ _ hm hg W HDq.out
  have HXo := fun (W : World) (hb : Below w.heap.size w W) => object_in (h.below hb) c ⟨3, an⟩ hx
  have HYo := fun (W : World) (hb : Below w.heap.size w W) => object_in (h.below hb) c ⟨3, bn⟩ hy
  simp only [show ((3 : Nat) : Int) = 3 from rfl] at HXo HYo
  have HF1 := fldO1
  clear HDq ha7 hb7 hg
  go_upto_region 9 with fail
  generalize w0.alloc (.cells #[.func (.func 158) #[] #[], .func (.func 160) #[] #[], .nilFunc] 148) = wS at *
  generalize w0.heap.size = gS at *
  have l0 := (Array.getElem?_eq_some_iff.1 g0).1
  have l1 := (Array.getElem?_eq_some_iff.1 g1).1
  have l2 := (Array.getElem?_eq_some_iff.1 g2).1
  have l3 := (Array.getElem?_eq_some_iff.1 g3).1
  have FCS : ∀ W', Below wS.heap.size wS W' → (W'.cell? ⟨w.heap.size, 0, none⟩ = some (.int .u8 3) ∧ W'.cell? ⟨w.heap.size, 1, none⟩ = some (.int .i64 an)) ∧ (W'.cell? ⟨w.heap.size + 1, 0, none⟩ = some (.int .u8 3) ∧ W'.cell? ⟨w.heap.size + 1, 1, none⟩ = some (.int .i64 bn)) ∧ W'.cell? ⟨gS, 1, none⟩ = some (.func (.func 160) #[] #[]) := fun W' hb => ⟨cell_row2 ((hb.block _ l0).trans g0), cell_row2 ((hb.block _ l1).trans g1), (cell_row3P ((hb.block _ l3).trans g3)).1.2.1⟩
  have hD := below_drew (Below.refl wS.heap.size wS)
  have S0 := FCS _ hD
  have SW := FCS _ (Below.refl _ _)
  have HXd := HXo _ (hBw2.trans (hD.mono hBw2.size))
  have hn02 : w.heap.size ≠ w.heap.size + 1 + 1 := by omega
  have hn12 : w.heap.size + 1 ≠ w.heap.size + 1 + 1 := by omega
  have hn32 : gS ≠ w.heap.size + 1 + 1 := fun e => by rw [e, g2] at g3; cases g3
  clear HXo x0 x1 u0 u1 s0 s1 s2 t0 t1 t2 f0 f1 f2
  go_region_held3 (fun W => (W.cell? ⟨w.heap.size, 0, none⟩ = some (.int .u8 3) ∧ W.cell? ⟨w.heap.size, 1, none⟩ = some (.int .i64 an)) ∧ (W.cell? ⟨w.heap.size + 1, 0, none⟩ = some (.int .u8 3) ∧ W.cell? ⟨w.heap.size + 1, 1, none⟩ = some (.int .i64 bn)) ∧ W.cell? ⟨gS, 1, none⟩ = some (.func (.func 160) #[] #[])) (first | with_reducible exact S0 | with_reducible exact SW | with_reducible exact T1 | with_reducible exact T2 | with_reducible exact T3 | with_reducible exact ⟨⟨(cell_set13 hn02).trans k0, (cell_set13 hn02).trans k1⟩, ⟨(cell_set13 hn12).trans k2, (cell_set13 hn12).trans k3⟩, (cell_set13 hn32).trans k4⟩ | go_keep)
    (first
      | (go_at_call 175; (with_reducible refine HY1.mono ?_); clear HY1; rintro e y2 ⟨q_2, c_2, rfl, -, -, hY2⟩; have hC2 := hC1.trans (hY2.mono hC1.size); have T2 := FCS _ hC2; have HT2 := HT y2)
      | (go_at_call 175; (with_reducible refine HXd.mono ?_); clear HXd; rintro e y1 ⟨q_1, c_1, rfl, -, -, hY1⟩; have hC1 := hD.trans (hY1.mono hD.size); have T1 := FCS _ hC1; have HY1 := HYo y1 (hBw2.trans (hC1.mono hBw2.size)); clear HYo)
      | (go_at_call 160; (with_reducible refine HT2.mono ?_); clear HT2; rintro e y3 ⟨q, c_, q2, rfl, h1, h2, hY3⟩; have hC3 := hC2.trans (hY3.mono hC2.size); have T3 := FCS _ hC3; obtain ⟨⟨k0, k1⟩, ⟨k2, k3⟩, k4⟩ := T3; have T3 := FCS _ hC3; have hr := (hC3.block _ l2).trans g2; obtain ⟨⟨z0, z1, z2, z3, z4, z5, z6, z7, z8, z9, z10, z11, z12⟩, y0, y1, y2, y3, y4, y5, y6, y7, y8, y9, y10, y11, y12⟩ := cell_row13 hr))
  all_goals
    go_wp2
    refine bodyPost_ret (results_cell_row (by rfl) _ _ (w.heap.size + 1 + 1) 100 _ _ _ (by rfl) (set13_row hr) Tryz.underlying100 (by rfl) infoDeed) (by rfl) ?_
    exact deed_fin hr (by omega) d h1 h2 (hBw2.trans (hC3.mono hBw2.size))

theorem wrapB {m : Nat} (h : m < 256) : IntKind.i64.wrap (m : Int) = (m : Int) := by
  unfold IntKind.wrap
  simp [IntKind.bits, IntKind.signed]
  omega

set_option maxRecDepth 20000 in
set_option maxHeartbeats 4000000 in
theorem sBin_out {p : Option Addr} {n : Nat} (c : Nat) {g : Nat} (op : Nat) (a b : Vl) (hop : 10 ≤ op) (h256 : op < 256) {d : Dd} (hd : d = thrD tKind) :
    Calls Tryz.prog 53 #[.slice (some ⟨g, 0, none⟩) 10 10, .slice p n c, .int .u8 op, .agg #[.int .u8 a.k, .int .i64 a.n], .agg #[.int .u8 b.k, .int .i64 b.n]] w (DeedR w d) := by
  have hB := below3' w (.cells #[.int .u8 a.k, .int .i64 a.n] 27) (.cells #[.int .u8 b.k, .int .i64 b.n] 27) (.cells #[.string ⟨#[]⟩, .int .i64 0, .int .u8 0, .int .i64 0, .int .u8 0, .string ⟨#[]⟩, .slice none 0 0, .int .i64 0, .int .i64 0, .int .i64 0, .int .i64 0, .slice none 0 0, .int .i64 0] 100)
  have e2 := heap3_2 w (.cells #[.int .u8 a.k, .int .i64 a.n] 27) (.cells #[.int .u8 b.k, .int .i64 b.n] 27) (.cells #[.string ⟨#[]⟩, .int .i64 0, .int .u8 0, .int .i64 0, .int .u8 0, .string ⟨#[]⟩, .slice none 0 0, .int .i64 0, .int .i64 0, .int .i64 0, .int .i64 0, .slice none 0 0, .int .i64 0] 100)
  have H1 := throwsD hd (((w.alloc (.cells #[.int .u8 a.k, .int .i64 a.n] 27)).alloc (.cells #[.int .u8 b.k, .int .i64 b.n] 27)).alloc (.cells #[.string ⟨#[]⟩, .int .i64 0, .int .u8 0, .int .i64 0, .int .u8 0, .string ⟨#[]⟩, .slice none 0 0, .int .i64 0, .int .i64 0, .int .i64 0, .int .i64 0, .slice none 0 0, .int .i64 0] 100))
  unfold tKind at H1
  have hq : (10 : Int) ≤ (op : Int) := by omega
  have hq2 : (op : Int) < 256 := by omega
  have hwr : IntKind.i64.wrap (op : Int) = (op : Int) := wrapB h256
  clear hd hop h256
  go_enter Tryz.func53, Tryz.ntmps53
  go_wp2_with (first
    | (go_at_call 154; (with_reducible refine H1.mono ?_); clear H1; rintro e w1 ⟨q, c_, q2, rfl, h1, h2, hB1⟩; have hr := (hB1.block _ (Array.getElem?_eq_some_iff.1 e2).1).trans e2; obtain ⟨⟨z0, z1, z2, z3, z4, z5, z6, z7, z8, z9, z10, z11, z12⟩, y0, y1, y2, y3, y4, y5, y6, y7, y8, y9, y10, y11, y12⟩ := cell_row13 hr))
  refine bodyPost_ret (results_cell_row (by rfl) _ _ (w.heap.size + 1 + 1) 100 _ _ _ (by rfl) (set13_row hr) Tryz.underlying100 (by rfl) infoDeed) (by rfl) ?_
  exact deed_fin hr (by omega) d h1 h2 (hB.trans (hB1.mono hB.size))

set_option maxRecDepth 20000 in
set_option maxHeartbeats 4000000 in
theorem sBin_cell {p : Option Addr} {n : Nat} (c : Nat) {g : Nat} (op : Nat) (a b : Vl) (hop : op < 10) (h7 : a.k = 7 ∨ b.k = 7) {d : Dd} (hd : d = thrD tKind) :
    Calls Tryz.prog 53 #[.slice (some ⟨g, 0, none⟩) 10 10, .slice p n c, .int .u8 op, .agg #[.int .u8 a.k, .int .i64 a.n], .agg #[.int .u8 b.k, .int .i64 b.n]] w (DeedR w d) := by
  have hB := below3' w (.cells #[.int .u8 a.k, .int .i64 a.n] 27) (.cells #[.int .u8 b.k, .int .i64 b.n] 27) (.cells #[.string ⟨#[]⟩, .int .i64 0, .int .u8 0, .int .i64 0, .int .u8 0, .string ⟨#[]⟩, .slice none 0 0, .int .i64 0, .int .i64 0, .int .i64 0, .int .i64 0, .slice none 0 0, .int .i64 0] 100)
  have e0 := heap3_0 w (.cells #[.int .u8 a.k, .int .i64 a.n] 27) (.cells #[.int .u8 b.k, .int .i64 b.n] 27) (.cells #[.string ⟨#[]⟩, .int .i64 0, .int .u8 0, .int .i64 0, .int .u8 0, .string ⟨#[]⟩, .slice none 0 0, .int .i64 0, .int .i64 0, .int .i64 0, .int .i64 0, .slice none 0 0, .int .i64 0] 100)
  have e1 := heap3_1 w (.cells #[.int .u8 a.k, .int .i64 a.n] 27) (.cells #[.int .u8 b.k, .int .i64 b.n] 27) (.cells #[.string ⟨#[]⟩, .int .i64 0, .int .u8 0, .int .i64 0, .int .u8 0, .string ⟨#[]⟩, .slice none 0 0, .int .i64 0, .int .i64 0, .int .i64 0, .int .i64 0, .slice none 0 0, .int .i64 0] 100)
  have e2 := heap3_2 w (.cells #[.int .u8 a.k, .int .i64 a.n] 27) (.cells #[.int .u8 b.k, .int .i64 b.n] 27) (.cells #[.string ⟨#[]⟩, .int .i64 0, .int .u8 0, .int .i64 0, .int .u8 0, .string ⟨#[]⟩, .slice none 0 0, .int .i64 0, .int .i64 0, .int .i64 0, .int .i64 0, .slice none 0 0, .int .i64 0] 100)
  obtain ⟨x0, x1⟩ := cell_row2 e0
  obtain ⟨u0, u1⟩ := cell_row2 e1
  have hq : ¬ ((10 : Int) ≤ (op : Int)) := by omega
  have H7 : Hid _ := h7
  have HDq : Hid _ := hd
  clear h7 hd hop
  go_enter Tryz.func53, Tryz.ntmps53
  go_wp2_with (first
    | (go_at_call 174; refine halt_here ?_))
  unfold Halted
  have hsz : (((w.alloc (.cells #[.int .u8 a.k, .int .i64 a.n] 27)).alloc (.cells #[.int .u8 b.k, .int .i64 b.n] 27)).alloc (.cells #[.string ⟨#[]⟩, .int .i64 0, .int .u8 0, .int .i64 0, .int .u8 0, .string ⟨#[]⟩, .slice none 0 0, .int .i64 0, .int .i64 0, .int .i64 0, .int .i64 0, .slice none 0 0, .int .i64 0] 100)).heap.size = w.heap.size + 1 + 1 + 1 := by simp
  generalize hW : ((w.alloc (.cells #[.int .u8 a.k, .int .i64 a.n] 27)).alloc (.cells #[.int .u8 b.k, .int .i64 b.n] 27)).alloc (.cells #[.string ⟨#[]⟩, .int .i64 0, .int .u8 0, .int .i64 0, .int .u8 0, .string ⟨#[]⟩, .slice none 0 0, .int .i64 0, .int .i64 0, .int .i64 0, .int .i64 0, .slice none 0 0, .int .i64 0] 100) = W at *
  clear hW
  have hnew := heap_alloc_new W (.cells #[.int .u8 a.k, .int .i64 a.n, .int .u8 b.k, .int .i64 b.n] 27)
  have hBY := below1 W (.cells #[.int .u8 a.k, .int .i64 a.n, .int .u8 b.k, .int .i64 b.n] 27)
  rw [hsz] at hnew
  clear hsz
  refine Calls.mono (anyCell_in (l := [a, b]) 2 (one_vals2 hnew) (by simp) true ⟨fun _ => by rcases H7.out with e | e; exact ⟨a, by simp, e⟩; exact ⟨b, by simp, e⟩, fun _ => rfl⟩) ?_
  rintro e w0 ⟨rfl, hB0⟩
  have hB' := hBY.trans (hB0.mono hBY.size)
  have hBw := hB.trans (hB'.mono hB.size)
  have f2 := (hB'.block _ (Array.getElem?_eq_some_iff.1 e2).1).trans e2
  have H1 := throwsD HDq.out w0
  unfold tKind at H1
  clear HDq H7 x0 x1 u0 u1 e0 e1 e2 hnew
  go_wp2_with (first
    | (go_at_call 154; (with_reducible refine H1.mono ?_); clear H1; rintro e w1 ⟨q, c_, q2, rfl, h1, h2, hB1⟩; have hr := (hB1.block _ (Array.getElem?_eq_some_iff.1 f2).1).trans f2; obtain ⟨⟨z0, z1, z2, z3, z4, z5, z6, z7, z8, z9, z10, z11, z12⟩, y0, y1, y2, y3, y4, y5, y6, y7, y8, y9, y10, y11, y12⟩ := cell_row13 hr))
  refine bodyPost_ret (results_cell_row (by rfl) _ _ (w.heap.size + 1 + 1) 100 _ _ _ (by rfl) (set13_row hr) Tryz.underlying100 (by rfl) infoDeed) (by rfl) ?_
  exact deed_fin hr (by omega) d h1 h2 (hBw.trans (hB1.mono hBw.size))


end Go.Proofs.YtgokofomoachaaaGreatDoor
