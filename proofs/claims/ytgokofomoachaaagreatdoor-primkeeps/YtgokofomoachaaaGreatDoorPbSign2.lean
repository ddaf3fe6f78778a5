/- Signs.Bin: what throws. -/
import Derived.Test.YtgokofomoachaaaGreatDoorPbFns
import Derived.Laws.EntriesVeiled
namespace Go.Proofs.YtgokofomoachaaaGreatDoor
set_option linter.unusedVariables false
set_option linter.unusedSimpArgs false
open Go.RowKit

variable {w : World}

theorem neqI (W : World) (f : Nat) (bd : Array Value) : (binOp .neq 145 (.func (.func f) #[] bd) .nilFunc).run Tryz.prog W = .ok (.bool true) W := by kernel_rfl

theorem neqI0 (W : World) : (binOp .neq 145 .nilFunc .nilFunc).run Tryz.prog W = .ok (.bool false) W := by kernel_rfl

theorem neqX (W : World) (f : Nat) (bd : Array Value) : (binOp .neq 146 (.func (.func f) #[] bd) .nilFunc).run Tryz.prog W = .ok (.bool true) W := by kernel_rfl

theorem neqX0 (W : World) : (binOp .neq 146 .nilFunc .nilFunc).run Tryz.prog W = .ok (.bool false) W := by kernel_rfl

theorem neqA (W : World) (f : Nat) (bd : Array Value) : (binOp .neq 131 (.func (.func f) #[] bd) .nilFunc).run Tryz.prog W = .ok (.bool true) W := by kernel_rfl

theorem neqA0 (W : World) : (binOp .neq 131 .nilFunc .nilFunc).run Tryz.prog W = .ok (.bool false) W := by kernel_rfl

theorem no_cells2 {a b : Vl} (ha : a.k ≠ 7) (hb : b.k ≠ 7) : (false = true) ↔ ∃ v ∈ [a, b], v.k = 7 := by
  constructor
  · intro h; cases h
  · rintro ⟨v, hv, h7⟩
    simp at hv
    rcases hv with rfl | rfl
    · exact (ha h7).elim
    · exact (hb h7).elim

set_option maxRecDepth 20000 in
set_option maxHeartbeats 4000000 in
theorem sBin_k0 {p : Option Addr} {n : Nat} (c : Nat) {g : Nat} (hs : Sgn w g) (a b : Vl) (ha7 : a.k ≠ 7) (hb7 : b.k ≠ 7) {d : Dd} (hd : d = thrD tKind) :
    Calls Tryz.prog 53 #[.slice (some ⟨g, 0, none⟩) 10 10, .slice p n c, .int .u8 0, .agg #[.int .u8 a.k, .int .i64 a.n], .agg #[.int .u8 b.k, .int .i64 b.n]] w (DeedR w d) := by
  obtain ⟨b4, b5, hg, -, -⟩ := hs
  have hB := below3' w (.cells #[.int .u8 a.k, .int .i64 a.n] 27) (.cells #[.int .u8 b.k, .int .i64 b.n] 27) (.cells #[.string ⟨#[]⟩, .int .i64 0, .int .u8 0, .int .i64 0, .int .u8 0, .string ⟨#[]⟩, .slice none 0 0, .int .i64 0, .int .i64 0, .int .i64 0, .int .i64 0, .slice none 0 0, .int .i64 0] 100)
  have e0 := heap3_0 w (.cells #[.int .u8 a.k, .int .i64 a.n] 27) (.cells #[.int .u8 b.k, .int .i64 b.n] 27) (.cells #[.string ⟨#[]⟩, .int .i64 0, .int .u8 0, .int .i64 0, .int .u8 0, .string ⟨#[]⟩, .slice none 0 0, .int .i64 0, .int .i64 0, .int .i64 0, .int .i64 0, .slice none 0 0, .int .i64 0] 100)
  have e1 := heap3_1 w (.cells #[.int .u8 a.k, .int .i64 a.n] 27) (.cells #[.int .u8 b.k, .int .i64 b.n] 27) (.cells #[.string ⟨#[]⟩, .int .i64 0, .int .u8 0, .int .i64 0, .int .u8 0, .string ⟨#[]⟩, .slice none 0 0, .int .i64 0, .int .i64 0, .int .i64 0, .int .i64 0, .slice none 0 0, .int .i64 0] 100)
  have e2 := heap3_2 w (.cells #[.int .u8 a.k, .int .i64 a.n] 27) (.cells #[.int .u8 b.k, .int .i64 b.n] 27) (.cells #[.string ⟨#[]⟩, .int .i64 0, .int .u8 0, .int .i64 0, .int .u8 0, .string ⟨#[]⟩, .slice none 0 0, .int .i64 0, .int .i64 0, .int .i64 0, .int .i64 0, .slice none 0 0, .int .i64 0] 100)
  obtain ⟨x0, x1⟩ := cell_row2 e0
  obtain ⟨u0, u1⟩ := cell_row2 e1
  have HDq : Hid _ := hd
  have N1 := neqI
  have N2 := neqI0
  have N3 := neqX
  have N4 := neqX0
  have N5 := neqA
  have N6 := neqA0
  clear hd
  go_enter Tryz.func53, Tryz.ntmps53
  go_wp2_with (first
    | (go_at_call 174; refine halt_here ?_))
  unfold Halted
  have hsz : (((w.alloc (.cells #[.int .u8 a.k, .int .i64 a.n] 27)).alloc (.cells #[.int .u8 b.k, .int .i64 b.n] 27)).alloc (.cells #[.string ⟨#[]⟩, .int .i64 0, .int .u8 0, .int .i64 0, .int .u8 0, .string ⟨#[]⟩, .slice none 0 0, .int .i64 0, .int .i64 0, .int .i64 0, .int .i64 0, .slice none 0 0, .int .i64 0] 100)).heap.size = w.heap.size + 1 + 1 + 1 := by simp
  generalize hW : ((w.alloc (.cells #[.int .u8 a.k, .int .i64 a.n] 27)).alloc (.cells #[.int .u8 b.k, .int .i64 b.n] 27)).alloc (.cells #[.string ⟨#[]⟩, .int .i64 0, .int .u8 0, .int .i64 0, .int .u8 0, .string ⟨#[]⟩, .slice none 0 0, .int .i64 0, .int .i64 0, .int .i64 0, .int .i64 0, .slice none 0 0, .int .i64 0] 100) = W at *
  clear hW
  have hnew := heap_alloc_new W (.cells #[.int .u8 a.k, .int .i64 a.n, .int .u8 b.k, .int .i64 b.n] 27)
  have hBY := below1 W (.cells #[.int .u8 a.k, .int .i64 a.n, .int .u8 b.k, .int .i64 b.n] 27)
  rw [hsz] at hnew
  clear hsz
  refine Calls.mono (anyCell_in (l := [a, b]) 2 (one_vals2 hnew) (by simp) false (no_cells2 ha7 hb7)) ?_
  rintro e w0 ⟨rfl, hB0⟩
  have hB' := hBY.trans (hB0.mono hBY.size)
  have hBw := hB.trans (hB'.mono hB.size)
  have f0 := (hB'.block _ (Array.getElem?_eq_some_iff.1 e0).1).trans e0
  have f1 := (hB'.block _ (Array.getElem?_eq_some_iff.1 e1).1).trans e1
  have f2 := (hB'.block _ (Array.getElem?_eq_some_iff.1 e2).1).trans e2
  have fg := (hBw.block _ (Array.getElem?_eq_some_iff.1 hg).1).trans hg
  clear x0 x1 u0 u1 e0 e1 e2 hnew hBY hB'
  have t0 := cell_sign fg (i := 0) (v := .nilFunc) (by rfl)
  have t1 := cell_sign fg (i := 1) (v := .nilFunc) (by rfl)
  have t2 := cell_sign fg (i := 2) (v := .nilFunc) (by rfl)
  have hBS := below1 w0 (.cells #[.nilFunc, .nilFunc, .nilFunc] 148)
  have hBw2 := hBw.trans (hBS.mono hBw.size)
  have g0 := (hBS.block _ (Array.getElem?_eq_some_iff.1 f0).1).trans f0
  have g1 := (hBS.block _ (Array.getElem?_eq_some_iff.1 f1).1).trans f1
  have g2 := (hBS.block _ (Array.getElem?_eq_some_iff.1 f2).1).trans f2
  have g3 := heap_alloc_new w0 (.cells #[.nilFunc, .nilFunc, .nilFunc] 148)
  obtain ⟨x0, x1⟩ := cell_row2 g0
  obtain ⟨u0, u1⟩ := cell_row2 g1
  obtain ⟨⟨s0, s1, s2⟩, -⟩ := cell_row3P g3
  clear hg fg
  clear ha7 hb7
  have H1 := fun (W : World) => throwsD HDq.out W
  unfold tKind at H1
  clear HDq
  go_wp2_with (first
    | (go_at_call 154; (with_reducible refine (H1 _).mono ?_); clear H1; rintro e w1 ⟨q, c_, q2, rfl, h1, h2, hB1⟩; have hr := (hB1.block _ (Array.getElem?_eq_some_iff.1 g2).1).trans g2; obtain ⟨⟨z0, z1, z2, z3, z4, z5, z6, z7, z8, z9, z10, z11, z12⟩, y0, y1, y2, y3, y4, y5, y6, y7, y8, y9, y10, y11, y12⟩ := cell_row13 hr))
  refine bodyPost_ret (results_cell_row (by rfl) _ _ (w.heap.size + 1 + 1) 100 _ _ _ (by rfl) (set13_row hr) Tryz.underlying100 (by rfl) infoDeed) (by rfl) ?_
  exact deed_fin hr (by omega) d h1 h2 (hBw2.trans (hB1.mono hBw2.size))

set_option maxRecDepth 20000 in
set_option maxHeartbeats 4000000 in
theorem sBin_k2a {p : Option Addr} {n : Nat} (c : Nat) {g : Nat} (hs : Sgn w g) (a b : Vl) (ha7 : a.k ≠ 7) (hb7 : b.k ≠ 7) (ha : a.k ≠ 2) {d : Dd} (hd : d = thrD tKind) :
    Calls Tryz.prog 53 #[.slice (some ⟨g, 0, none⟩) 10 10, .slice p n c, .int .u8 2, .agg #[.int .u8 a.k, .int .i64 a.n], .agg #[.int .u8 b.k, .int .i64 b.n]] w (DeedR w d) := by
  obtain ⟨b4, b5, hg, -, -⟩ := hs
  have hB := below3' w (.cells #[.int .u8 a.k, .int .i64 a.n] 27) (.cells #[.int .u8 b.k, .int .i64 b.n] 27) (.cells #[.string ⟨#[]⟩, .int .i64 0, .int .u8 0, .int .i64 0, .int .u8 0, .string ⟨#[]⟩, .slice none 0 0, .int .i64 0, .int .i64 0, .int .i64 0, .int .i64 0, .slice none 0 0, .int .i64 0] 100)
  have e0 := heap3_0 w (.cells #[.int .u8 a.k, .int .i64 a.n] 27) (.cells #[.int .u8 b.k, .int .i64 b.n] 27) (.cells #[.string ⟨#[]⟩, .int .i64 0, .int .u8 0, .int .i64 0, .int .u8 0, .string ⟨#[]⟩, .slice none 0 0, .int .i64 0, .int .i64 0, .int .i64 0, .int .i64 0, .slice none 0 0, .int .i64 0] 100)
  have e1 := heap3_1 w (.cells #[.int .u8 a.k, .int .i64 a.n] 27) (.cells #[.int .u8 b.k, .int .i64 b.n] 27) (.cells #[.string ⟨#[]⟩, .int .i64 0, .int .u8 0, .int .i64 0, .int .u8 0, .string ⟨#[]⟩, .slice none 0 0, .int .i64 0, .int .i64 0, .int .i64 0, .int .i64 0, .slice none 0 0, .int .i64 0] 100)
  have e2 := heap3_2 w (.cells #[.int .u8 a.k, .int .i64 a.n] 27) (.cells #[.int .u8 b.k, .int .i64 b.n] 27) (.cells #[.string ⟨#[]⟩, .int .i64 0, .int .u8 0, .int .i64 0, .int .u8 0, .string ⟨#[]⟩, .slice none 0 0, .int .i64 0, .int .i64 0, .int .i64 0, .int .i64 0, .slice none 0 0, .int .i64 0] 100)
  obtain ⟨x0, x1⟩ := cell_row2 e0
  obtain ⟨u0, u1⟩ := cell_row2 e1
  have HDq : Hid _ := hd
  have N1 := neqI
  have N2 := neqI0
  have N3 := neqX
  have N4 := neqX0
  have N5 := neqA
  have N6 := neqA0
  clear hd
  go_enter Tryz.func53, Tryz.ntmps53
  go_wp2_with (first
    | (go_at_call 174; refine halt_here ?_))
  unfold Halted
  have hsz : (((w.alloc (.cells #[.int .u8 a.k, .int .i64 a.n] 27)).alloc (.cells #[.int .u8 b.k, .int .i64 b.n] 27)).alloc (.cells #[.string ⟨#[]⟩, .int .i64 0, .int .u8 0, .int .i64 0, .int .u8 0, .string ⟨#[]⟩, .slice none 0 0, .int .i64 0, .int .i64 0, .int .i64 0, .int .i64 0, .slice none 0 0, .int .i64 0] 100)).heap.size = w.heap.size + 1 + 1 + 1 := by simp
  generalize hW : ((w.alloc (.cells #[.int .u8 a.k, .int .i64 a.n] 27)).alloc (.cells #[.int .u8 b.k, .int .i64 b.n] 27)).alloc (.cells #[.string ⟨#[]⟩, .int .i64 0, .int .u8 0, .int .i64 0, .int .u8 0, .string ⟨#[]⟩, .slice none 0 0, .int .i64 0, .int .i64 0, .int .i64 0, .int .i64 0, .slice none 0 0, .int .i64 0] 100) = W at *
  clear hW
  have hnew := heap_alloc_new W (.cells #[.int .u8 a.k, .int .i64 a.n, .int .u8 b.k, .int .i64 b.n] 27)
  have hBY := below1 W (.cells #[.int .u8 a.k, .int .i64 a.n, .int .u8 b.k, .int .i64 b.n] 27)
  rw [hsz] at hnew
  clear hsz
  refine Calls.mono (anyCell_in (l := [a, b]) 2 (one_vals2 hnew) (by simp) false (no_cells2 ha7 hb7)) ?_
  rintro e w0 ⟨rfl, hB0⟩
  have hB' := hBY.trans (hB0.mono hBY.size)
  have hBw := hB.trans (hB'.mono hB.size)
  have f0 := (hB'.block _ (Array.getElem?_eq_some_iff.1 e0).1).trans e0
  have f1 := (hB'.block _ (Array.getElem?_eq_some_iff.1 e1).1).trans e1
  have f2 := (hB'.block _ (Array.getElem?_eq_some_iff.1 e2).1).trans e2
  have fg := (hBw.block _ (Array.getElem?_eq_some_iff.1 hg).1).trans hg
  clear x0 x1 u0 u1 e0 e1 e2 hnew hBY hB'
  have t0 := cell_sign fg (i := 6) (v := .func (.func 161) #[] #[]) (by rfl)
  have t1 := cell_sign fg (i := 7) (v := .nilFunc) (by rfl)
  have t2 := cell_sign fg (i := 8) (v := .nilFunc) (by rfl)
  have hBS := below1 w0 (.cells #[.func (.func 161) #[] #[], .nilFunc, .nilFunc] 148)
  have hBw2 := hBw.trans (hBS.mono hBw.size)
  have g0 := (hBS.block _ (Array.getElem?_eq_some_iff.1 f0).1).trans f0
  have g1 := (hBS.block _ (Array.getElem?_eq_some_iff.1 f1).1).trans f1
  have g2 := (hBS.block _ (Array.getElem?_eq_some_iff.1 f2).1).trans f2
  have g3 := heap_alloc_new w0 (.cells #[.func (.func 161) #[] #[], .nilFunc, .nilFunc] 148)
  obtain ⟨x0, x1⟩ := cell_row2 g0
  obtain ⟨u0, u1⟩ := cell_row2 g1
  obtain ⟨⟨s0, s1, s2⟩, -⟩ := cell_row3P g3
  clear hg fg
  have n_ak2 : ¬ ((a.k : Int) = 2) := by omega
  have b_ak2 : ((a.k : Int) == 2) = false := by simp; omega
  clear ha7 hb7 ha
  have H1 := fun (W : World) => throwsD HDq.out W
  unfold tKind at H1
  clear HDq
  go_wp2_with (first
    | (go_at_call 154; (with_reducible refine (H1 _).mono ?_); clear H1; rintro e w1 ⟨q, c_, q2, rfl, h1, h2, hB1⟩; have hr := (hB1.block _ (Array.getElem?_eq_some_iff.1 g2).1).trans g2; obtain ⟨⟨z0, z1, z2, z3, z4, z5, z6, z7, z8, z9, z10, z11, z12⟩, y0, y1, y2, y3, y4, y5, y6, y7, y8, y9, y10, y11, y12⟩ := cell_row13 hr))
  refine bodyPost_ret (results_cell_row (by rfl) _ _ (w.heap.size + 1 + 1) 100 _ _ _ (by rfl) (set13_row hr) Tryz.underlying100 (by rfl) infoDeed) (by rfl) ?_
  exact deed_fin hr (by omega) d h1 h2 (hBw2.trans (hB1.mono hBw2.size))

set_option maxRecDepth 20000 in
set_option maxHeartbeats 4000000 in
theorem sBin_k2b {p : Option Addr} {n : Nat} (c : Nat) {g : Nat} (hs : Sgn w g) (a b : Vl) (ha7 : a.k ≠ 7) (hb7 : b.k ≠ 7) (ha : a.k = 2) (hb : b.k ≠ 2) {d : Dd} (hd : d = thrD tKind) :
    Calls Tryz.prog 53 #[.slice (some ⟨g, 0, none⟩) 10 10, .slice p n c, .int .u8 2, .agg #[.int .u8 a.k, .int .i64 a.n], .agg #[.int .u8 b.k, .int .i64 b.n]] w (DeedR w d) := by
  have H_ha : Hid _ := ha
  clear ha
  obtain ⟨b4, b5, hg, -, -⟩ := hs
  have hB := below3' w (.cells #[.int .u8 a.k, .int .i64 a.n] 27) (.cells #[.int .u8 b.k, .int .i64 b.n] 27) (.cells #[.string ⟨#[]⟩, .int .i64 0, .int .u8 0, .int .i64 0, .int .u8 0, .string ⟨#[]⟩, .slice none 0 0, .int .i64 0, .int .i64 0, .int .i64 0, .int .i64 0, .slice none 0 0, .int .i64 0] 100)
  have e0 := heap3_0 w (.cells #[.int .u8 a.k, .int .i64 a.n] 27) (.cells #[.int .u8 b.k, .int .i64 b.n] 27) (.cells #[.string ⟨#[]⟩, .int .i64 0, .int .u8 0, .int .i64 0, .int .u8 0, .string ⟨#[]⟩, .slice none 0 0, .int .i64 0, .int .i64 0, .int .i64 0, .int .i64 0, .slice none 0 0, .int .i64 0] 100)
  have e1 := heap3_1 w (.cells #[.int .u8 a.k, .int .i64 a.n] 27) (.cells #[.int .u8 b.k, .int .i64 b.n] 27) (.cells #[.string ⟨#[]⟩, .int .i64 0, .int .u8 0, .int .i64 0, .int .u8 0, .string ⟨#[]⟩, .slice none 0 0, .int .i64 0, .int .i64 0, .int .i64 0, .int .i64 0, .slice none 0 0, .int .i64 0] 100)
  have e2 := heap3_2 w (.cells #[.int .u8 a.k, .int .i64 a.n] 27) (.cells #[.int .u8 b.k, .int .i64 b.n] 27) (.cells #[.string ⟨#[]⟩, .int .i64 0, .int .u8 0, .int .i64 0, .int .u8 0, .string ⟨#[]⟩, .slice none 0 0, .int .i64 0, .int .i64 0, .int .i64 0, .int .i64 0, .slice none 0 0, .int .i64 0] 100)
  obtain ⟨x0, x1⟩ := cell_row2 e0
  obtain ⟨u0, u1⟩ := cell_row2 e1
  have HDq : Hid _ := hd
  have N1 := neqI
  have N2 := neqI0
  have N3 := neqX
  have N4 := neqX0
  have N5 := neqA
  have N6 := neqA0
  clear hd
  go_enter Tryz.func53, Tryz.ntmps53
  go_wp2_with (first
    | (go_at_call 174; refine halt_here ?_))
  unfold Halted
  have hsz : (((w.alloc (.cells #[.int .u8 a.k, .int .i64 a.n] 27)).alloc (.cells #[.int .u8 b.k, .int .i64 b.n] 27)).alloc (.cells #[.string ⟨#[]⟩, .int .i64 0, .int .u8 0, .int .i64 0, .int .u8 0, .string ⟨#[]⟩, .slice none 0 0, .int .i64 0, .int .i64 0, .int .i64 0, .int .i64 0, .slice none 0 0, .int .i64 0] 100)).heap.size = w.heap.size + 1 + 1 + 1 := by simp
  generalize hW : ((w.alloc (.cells #[.int .u8 a.k, .int .i64 a.n] 27)).alloc (.cells #[.int .u8 b.k, .int .i64 b.n] 27)).alloc (.cells #[.string ⟨#[]⟩, .int .i64 0, .int .u8 0, .int .i64 0, .int .u8 0, .string ⟨#[]⟩, .slice none 0 0, .int .i64 0, .int .i64 0, .int .i64 0, .int .i64 0, .slice none 0 0, .int .i64 0] 100) = W at *
  clear hW
  have hnew := heap_alloc_new W (.cells #[.int .u8 a.k, .int .i64 a.n, .int .u8 b.k, .int .i64 b.n] 27)
  have hBY := below1 W (.cells #[.int .u8 a.k, .int .i64 a.n, .int .u8 b.k, .int .i64 b.n] 27)
  rw [hsz] at hnew
  clear hsz
  refine Calls.mono (anyCell_in (l := [a, b]) 2 (one_vals2 hnew) (by simp) false (no_cells2 ha7 hb7)) ?_
  rintro e w0 ⟨rfl, hB0⟩
  have hB' := hBY.trans (hB0.mono hBY.size)
  have hBw := hB.trans (hB'.mono hB.size)
  have f0 := (hB'.block _ (Array.getElem?_eq_some_iff.1 e0).1).trans e0
  have f1 := (hB'.block _ (Array.getElem?_eq_some_iff.1 e1).1).trans e1
  have f2 := (hB'.block _ (Array.getElem?_eq_some_iff.1 e2).1).trans e2
  have fg := (hBw.block _ (Array.getElem?_eq_some_iff.1 hg).1).trans hg
  clear x0 x1 u0 u1 e0 e1 e2 hnew hBY hB'
  have t0 := cell_sign fg (i := 6) (v := .func (.func 161) #[] #[]) (by rfl)
  have t1 := cell_sign fg (i := 7) (v := .nilFunc) (by rfl)
  have t2 := cell_sign fg (i := 8) (v := .nilFunc) (by rfl)
  have hBS := below1 w0 (.cells #[.func (.func 161) #[] #[], .nilFunc, .nilFunc] 148)
  have hBw2 := hBw.trans (hBS.mono hBw.size)
  have g0 := (hBS.block _ (Array.getElem?_eq_some_iff.1 f0).1).trans f0
  have g1 := (hBS.block _ (Array.getElem?_eq_some_iff.1 f1).1).trans f1
  have g2 := (hBS.block _ (Array.getElem?_eq_some_iff.1 f2).1).trans f2
  have g3 := heap_alloc_new w0 (.cells #[.func (.func 161) #[] #[], .nilFunc, .nilFunc] 148)
  obtain ⟨x0, x1⟩ := cell_row2 g0
  obtain ⟨u0, u1⟩ := cell_row2 g1
  obtain ⟨⟨s0, s1, s2⟩, -⟩ := cell_row3P g3
  clear hg fg
  have ha := H_ha.out
  clear H_ha
  have n_bk2 : ¬ ((b.k : Int) = 2) := by omega
  have b_bk2 : ((b.k : Int) == 2) = false := by simp; omega
  clear ha7 hb7 hb
  obtain ⟨ak, an⟩ := a
  simp only at ha
  subst ha
  simp only [show ((2 : Nat) : Int) = 2 from rfl] at x0 x1
  have H1 := fun (W : World) => throwsD HDq.out W
  unfold tKind at H1
  clear HDq
  go_wp2_with (first
    | (go_at_call 154; (with_reducible refine (H1 _).mono ?_); clear H1; rintro e w1 ⟨q, c_, q2, rfl, h1, h2, hB1⟩; have hr := (hB1.block _ (Array.getElem?_eq_some_iff.1 g2).1).trans g2; obtain ⟨⟨z0, z1, z2, z3, z4, z5, z6, z7, z8, z9, z10, z11, z12⟩, y0, y1, y2, y3, y4, y5, y6, y7, y8, y9, y10, y11, y12⟩ := cell_row13 hr))
  refine bodyPost_ret (results_cell_row (by rfl) _ _ (w.heap.size + 1 + 1) 100 _ _ _ (by rfl) (set13_row hr) Tryz.underlying100 (by rfl) infoDeed) (by rfl) ?_
  exact deed_fin hr (by omega) d h1 h2 (hBw2.trans (hB1.mono hBw2.size))

set_option maxRecDepth 20000 in
set_option maxHeartbeats 4000000 in
theorem sBin_k3a {p : Option Addr} {n : Nat} (c : Nat) {g : Nat} (hs : Sgn w g) (a b : Vl) (ha7 : a.k ≠ 7) (hb7 : b.k ≠ 7) (ha : a.k ≠ 2) {d : Dd} (hd : d = thrD tKind) :
    Calls Tryz.prog 53 #[.slice (some ⟨g, 0, none⟩) 10 10, .slice p n c, .int .u8 3, .agg #[.int .u8 a.k, .int .i64 a.n], .agg #[.int .u8 b.k, .int .i64 b.n]] w (DeedR w d) := by
  obtain ⟨b4, b5, hg, -, -⟩ := hs
  have hB := below3' w (.cells #[.int .u8 a.k, .int .i64 a.n] 27) (.cells #[.int .u8 b.k, .int .i64 b.n] 27) (.cells #[.string ⟨#[]⟩, .int .i64 0, .int .u8 0, .int .i64 0, .int .u8 0, .string ⟨#[]⟩, .slice none 0 0, .int .i64 0, .int .i64 0, .int .i64 0, .int .i64 0, .slice none 0 0, .int .i64 0] 100)
  have e0 := heap3_0 w (.cells #[.int .u8 a.k, .int .i64 a.n] 27) (.cells #[.int .u8 b.k, .int .i64 b.n] 27) (.cells #[.string ⟨#[]⟩, .int .i64 0, .int .u8 0, .int .i64 0, .int .u8 0, .string ⟨#[]⟩, .slice none 0 0, .int .i64 0, .int .i64 0, .int .i64 0, .int .i64 0, .slice none 0 0, .int .i64 0] 100)
  have e1 := heap3_1 w (.cells #[.int .u8 a.k, .int .i64 a.n] 27) (.cells #[.int .u8 b.k, .int .i64 b.n] 27) (.cells #[.string ⟨#[]⟩, .int .i64 0, .int .u8 0, .int .i64 0, .int .u8 0, .string ⟨#[]⟩, .slice none 0 0, .int .i64 0, .int .i64 0, .int .i64 0, .int .i64 0, .slice none 0 0, .int .i64 0] 100)
  have e2 := heap3_2 w (.cells #[.int .u8 a.k, .int .i64 a.n] 27) (.cells #[.int .u8 b.k, .int .i64 b.n] 27) (.cells #[.string ⟨#[]⟩, .int .i64 0, .int .u8 0, .int .i64 0, .int .u8 0, .string ⟨#[]⟩, .slice none 0 0, .int .i64 0, .int .i64 0, .int .i64 0, .int .i64 0, .slice none 0 0, .int .i64 0] 100)
  obtain ⟨x0, x1⟩ := cell_row2 e0
  obtain ⟨u0, u1⟩ := cell_row2 e1
  have HDq : Hid _ := hd
  have N1 := neqI
  have N2 := neqI0
  have N3 := neqX
  have N4 := neqX0
  have N5 := neqA
  have N6 := neqA0
  clear hd
  go_enter Tryz.func53, Tryz.ntmps53
  go_wp2_with (first
    | (go_at_call 174; refine halt_here ?_))
  unfold Halted
  have hsz : (((w.alloc (.cells #[.int .u8 a.k, .int .i64 a.n] 27)).alloc (.cells #[.int .u8 b.k, .int .i64 b.n] 27)).alloc (.cells #[.string ⟨#[]⟩, .int .i64 0, .int .u8 0, .int .i64 0, .int .u8 0, .string ⟨#[]⟩, .slice none 0 0, .int .i64 0, .int .i64 0, .int .i64 0, .int .i64 0, .slice none 0 0, .int .i64 0] 100)).heap.size = w.heap.size + 1 + 1 + 1 := by simp
  generalize hW : ((w.alloc (.cells #[.int .u8 a.k, .int .i64 a.n] 27)).alloc (.cells #[.int .u8 b.k, .int .i64 b.n] 27)).alloc (.cells #[.string ⟨#[]⟩, .int .i64 0, .int .u8 0, .int .i64 0, .int .u8 0, .string ⟨#[]⟩, .slice none 0 0, .int .i64 0, .int .i64 0, .int .i64 0, .int .i64 0, .slice none 0 0, .int .i64 0] 100) = W at *
  clear hW
  have hnew := heap_alloc_new W (.cells #[.int .u8 a.k, .int .i64 a.n, .int .u8 b.k, .int .i64 b.n] 27)
  have hBY := below1 W (.cells #[.int .u8 a.k, .int .i64 a.n, .int .u8 b.k, .int .i64 b.n] 27)
  rw [hsz] at hnew
  clear hsz
  refine Calls.mono (anyCell_in (l := [a, b]) 2 (one_vals2 hnew) (by simp) false (no_cells2 ha7 hb7)) ?_
  rintro e w0 ⟨rfl, hB0⟩
  have hB' := hBY.trans (hB0.mono hBY.size)
  have hBw := hB.trans (hB'.mono hB.size)
  have f0 := (hB'.block _ (Array.getElem?_eq_some_iff.1 e0).1).trans e0
  have f1 := (hB'.block _ (Array.getElem?_eq_some_iff.1 e1).1).trans e1
  have f2 := (hB'.block _ (Array.getElem?_eq_some_iff.1 e2).1).trans e2
  have fg := (hBw.block _ (Array.getElem?_eq_some_iff.1 hg).1).trans hg
  clear x0 x1 u0 u1 e0 e1 e2 hnew hBY hB'
  have t0 := cell_sign fg (i := 9) (v := .func (.func 162) #[] #[]) (by rfl)
  have t1 := cell_sign fg (i := 10) (v := .nilFunc) (by rfl)
  have t2 := cell_sign fg (i := 11) (v := .nilFunc) (by rfl)
  have hBS := below1 w0 (.cells #[.func (.func 162) #[] #[], .nilFunc, .nilFunc] 148)
  have hBw2 := hBw.trans (hBS.mono hBw.size)
  have g0 := (hBS.block _ (Array.getElem?_eq_some_iff.1 f0).1).trans f0
  have g1 := (hBS.block _ (Array.getElem?_eq_some_iff.1 f1).1).trans f1
  have g2 := (hBS.block _ (Array.getElem?_eq_some_iff.1 f2).1).trans f2
  have g3 := heap_alloc_new w0 (.cells #[.func (.func 162) #[] #[], .nilFunc, .nilFunc] 148)
  obtain ⟨x0, x1⟩ := cell_row2 g0
  obtain ⟨u0, u1⟩ := cell_row2 g1
  obtain ⟨⟨s0, s1, s2⟩, -⟩ := cell_row3P g3
  clear hg fg
  have n_ak2 : ¬ ((a.k : Int) = 2) := by omega
  have b_ak2 : ((a.k : Int) == 2) = false := by simp; omega
  clear ha7 hb7 ha
  have H1 := fun (W : World) => throwsD HDq.out W
  unfold tKind at H1
  clear HDq
  go_wp2_with (first
    | (go_at_call 154; (with_reducible refine (H1 _).mono ?_); clear H1; rintro e w1 ⟨q, c_, q2, rfl, h1, h2, hB1⟩; have hr := (hB1.block _ (Array.getElem?_eq_some_iff.1 g2).1).trans g2; obtain ⟨⟨z0, z1, z2, z3, z4, z5, z6, z7, z8, z9, z10, z11, z12⟩, y0, y1, y2, y3, y4, y5, y6, y7, y8, y9, y10, y11, y12⟩ := cell_row13 hr))
  refine bodyPost_ret (results_cell_row (by rfl) _ _ (w.heap.size + 1 + 1) 100 _ _ _ (by rfl) (set13_row hr) Tryz.underlying100 (by rfl) infoDeed) (by rfl) ?_
  exact deed_fin hr (by omega) d h1 h2 (hBw2.trans (hB1.mono hBw2.size))

set_option maxRecDepth 20000 in
set_option maxHeartbeats 4000000 in
theorem sBin_k3b {p : Option Addr} {n : Nat} (c : Nat) {g : Nat} (hs : Sgn w g) (a b : Vl) (ha7 : a.k ≠ 7) (hb7 : b.k ≠ 7) (ha : a.k = 2) (hb : b.k ≠ 2) {d : Dd} (hd : d = thrD tKind) :
    Calls Tryz.prog 53 #[.slice (some ⟨g, 0, none⟩) 10 10, .slice p n c, .int .u8 3, .agg #[.int .u8 a.k, .int .i64 a.n], .agg #[.int .u8 b.k, .int .i64 b.n]] w (DeedR w d) := by
  have H_ha : Hid _ := ha
  clear ha
  obtain ⟨b4, b5, hg, -, -⟩ := hs
  have hB := below3' w (.cells #[.int .u8 a.k, .int .i64 a.n] 27) (.cells #[.int .u8 b.k, .int .i64 b.n] 27) (.cells #[.string ⟨#[]⟩, .int .i64 0, .int .u8 0, .int .i64 0, .int .u8 0, .string ⟨#[]⟩, .slice none 0 0, .int .i64 0, .int .i64 0, .int .i64 0, .int .i64 0, .slice none 0 0, .int .i64 0] 100)
  have e0 := heap3_0 w (.cells #[.int .u8 a.k, .int .i64 a.n] 27) (.cells #[.int .u8 b.k, .int .i64 b.n] 27) (.cells #[.string ⟨#[]⟩, .int .i64 0, .int .u8 0, .int .i64 0, .int .u8 0, .string ⟨#[]⟩, .slice none 0 0, .int .i64 0, .int .i64 0, .int .i64 0, .int .i64 0, .slice none 0 0, .int .i64 0] 100)
  have e1 := heap3_1 w (.cells #[.int .u8 a.k, .int .i64 a.n] 27) (.cells #[.int .u8 b.k, .int .i64 b.n] 27) (.cells #[.string ⟨#[]⟩, .int .i64 0, .int .u8 0, .int .i64 0, .int .u8 0, .string ⟨#[]⟩, .slice none 0 0, .int .i64 0, .int .i64 0, .int .i64 0, .int .i64 0, .slice none 0 0, .int .i64 0] 100)
  have e2 := heap3_2 w (.cells #[.int .u8 a.k, .int .i64 a.n] 27) (.cells #[.int .u8 b.k, .int .i64 b.n] 27) (.cells #[.string ⟨#[]⟩, .int .i64 0, .int .u8 0, .int .i64 0, .int .u8 0, .string ⟨#[]⟩, .slice none 0 0, .int .i64 0, .int .i64 0, .int .i64 0, .int .i64 0, .slice none 0 0, .int .i64 0] 100)
  obtain ⟨x0, x1⟩ := cell_row2 e0
  obtain ⟨u0, u1⟩ := cell_row2 e1
  have HDq : Hid _ := hd
  have N1 := neqI
  have N2 := neqI0
  have N3 := neqX
  have N4 := neqX0
  have N5 := neqA
  have N6 := neqA0
  clear hd
  go_enter Tryz.func53, Tryz.ntmps53
  go_wp2_with (first
    | (go_at_call 174; refine halt_here ?_))
  unfold Halted
  have hsz : (((w.alloc (.cells #[.int .u8 a.k, .int .i64 a.n] 27)).alloc (.cells #[.int .u8 b.k, .int .i64 b.n] 27)).alloc (.cells #[.string ⟨#[]⟩, .int .i64 0, .int .u8 0, .int .i64 0, .int .u8 0, .string ⟨#[]⟩, .slice none 0 0, .int .i64 0, .int .i64 0, .int .i64 0, .int .i64 0, .slice none 0 0, .int .i64 0] 100)).heap.size = w.heap.size + 1 + 1 + 1 := by simp
  generalize hW : ((w.alloc (.cells #[.int .u8 a.k, .int .i64 a.n] 27)).alloc (.cells #[.int .u8 b.k, .int .i64 b.n] 27)).alloc (.cells #[.string ⟨#[]⟩, .int .i64 0, .int .u8 0, .int .i64 0, .int .u8 0, .string ⟨#[]⟩, .slice none 0 0, .int .i64 0, .int .i64 0, .int .i64 0, .int .i64 0, .slice none 0 0, .int .i64 0] 100) = W at *
  clear hW
  have hnew := heap_alloc_new W (.cells #[.int .u8 a.k, .int .i64 a.n, .int .u8 b.k, .int .i64 b.n] 27)
  have hBY := below1 W (.cells #[.int .u8 a.k, .int .i64 a.n, .int .u8 b.k, .int .i64 b.n] 27)
  rw [hsz] at hnew
  clear hsz
  refine Calls.mono (anyCell_in (l := [a, b]) 2 (one_vals2 hnew) (by simp) false (no_cells2 ha7 hb7)) ?_
  rintro e w0 ⟨rfl, hB0⟩
  have hB' := hBY.trans (hB0.mono hBY.size)
  have hBw := hB.trans (hB'.mono hB.size)
  have f0 := (hB'.block _ (Array.getElem?_eq_some_iff.1 e0).1).trans e0
  have f1 := (hB'.block _ (Array.getElem?_eq_some_iff.1 e1).1).trans e1
  have f2 := (hB'.block _ (Array.getElem?_eq_some_iff.1 e2).1).trans e2
  have fg := (hBw.block _ (Array.getElem?_eq_some_iff.1 hg).1).trans hg
  clear x0 x1 u0 u1 e0 e1 e2 hnew hBY hB'
  have t0 := cell_sign fg (i := 9) (v := .func (.func 162) #[] #[]) (by rfl)
  have t1 := cell_sign fg (i := 10) (v := .nilFunc) (by rfl)
  have t2 := cell_sign fg (i := 11) (v := .nilFunc) (by rfl)
  have hBS := below1 w0 (.cells #[.func (.func 162) #[] #[], .nilFunc, .nilFunc] 148)
  have hBw2 := hBw.trans (hBS.mono hBw.size)
  have g0 := (hBS.block _ (Array.getElem?_eq_some_iff.1 f0).1).trans f0
  have g1 := (hBS.block _ (Array.getElem?_eq_some_iff.1 f1).1).trans f1
  have g2 := (hBS.block _ (Array.getElem?_eq_some_iff.1 f2).1).trans f2
  have g3 := heap_alloc_new w0 (.cells #[.func (.func 162) #[] #[], .nilFunc, .nilFunc] 148)
  obtain ⟨x0, x1⟩ := cell_row2 g0
  obtain ⟨u0, u1⟩ := cell_row2 g1
  obtain ⟨⟨s0, s1, s2⟩, -⟩ := cell_row3P g3
  clear hg fg
  have ha := H_ha.out
  clear H_ha
  have n_bk2 : ¬ ((b.k : Int) = 2) := by omega
  have b_bk2 : ((b.k : Int) == 2) = false := by simp; omega
  clear ha7 hb7 hb
  obtain ⟨ak, an⟩ := a
  simp only at ha
  subst ha
  simp only [show ((2 : Nat) : Int) = 2 from rfl] at x0 x1
  have H1 := fun (W : World) => throwsD HDq.out W
  unfold tKind at H1
  clear HDq
  go_wp2_with (first
    | (go_at_call 154; (with_reducible refine (H1 _).mono ?_); clear H1; rintro e w1 ⟨q, c_, q2, rfl, h1, h2, hB1⟩; have hr := (hB1.block _ (Array.getElem?_eq_some_iff.1 g2).1).trans g2; obtain ⟨⟨z0, z1, z2, z3, z4, z5, z6, z7, z8, z9, z10, z11, z12⟩, y0, y1, y2, y3, y4, y5, y6, y7, y8, y9, y10, y11, y12⟩ := cell_row13 hr))
  refine bodyPost_ret (results_cell_row (by rfl) _ _ (w.heap.size + 1 + 1) 100 _ _ _ (by rfl) (set13_row hr) Tryz.underlying100 (by rfl) infoDeed) (by rfl) ?_
  exact deed_fin hr (by omega) d h1 h2 (hBw2.trans (hB1.mono hBw2.size))

set_option maxRecDepth 20000 in
set_option maxHeartbeats 4000000 in
theorem sBin_k4a {p : Option Addr} {n : Nat} (c : Nat) {g : Nat} (hs : Sgn w g) (a b : Vl) (ha7 : a.k ≠ 7) (hb7 : b.k ≠ 7) (ha : a.k ≠ 2) {d : Dd} (hd : d = thrD tKind) :
    Calls Tryz.prog 53 #[.slice (some ⟨g, 0, none⟩) 10 10, .slice p n c, .int .u8 4, .agg #[.int .u8 a.k, .int .i64 a.n], .agg #[.int .u8 b.k, .int .i64 b.n]] w (DeedR w d) := by
  obtain ⟨b4, b5, hg, -, -⟩ := hs
  have hB := below3' w (.cells #[.int .u8 a.k, .int .i64 a.n] 27) (.cells #[.int .u8 b.k, .int .i64 b.n] 27) (.cells #[.string ⟨#[]⟩, .int .i64 0, .int .u8 0, .int .i64 0, .int .u8 0, .string ⟨#[]⟩, .slice none 0 0, .int .i64 0, .int .i64 0, .int .i64 0, .int .i64 0, .slice none 0 0, .int .i64 0] 100)
  have e0 := heap3_0 w (.cells #[.int .u8 a.k, .int .i64 a.n] 27) (.cells #[.int .u8 b.k, .int .i64 b.n] 27) (.cells #[.string ⟨#[]⟩, .int .i64 0, .int .u8 0, .int .i64 0, .int .u8 0, .string ⟨#[]⟩, .slice none 0 0, .int .i64 0, .int .i64 0, .int .i64 0, .int .i64 0, .slice none 0 0, .int .i64 0] 100)
  have e1 := heap3_1 w (.cells #[.int .u8 a.k, .int .i64 a.n] 27) (.cells #[.int .u8 b.k, .int .i64 b.n] 27) (.cells #[.string ⟨#[]⟩, .int .i64 0, .int .u8 0, .int .i64 0, .int .u8 0, .string ⟨#[]⟩, .slice none 0 0, .int .i64 0, .int .i64 0, .int .i64 0, .int .i64 0, .slice none 0 0, .int .i64 0] 100)
  have e2 := heap3_2 w (.cells #[.int .u8 a.k, .int .i64 a.n] 27) (.cells #[.int .u8 b.k, .int .i64 b.n] 27) (.cells #[.string ⟨#[]⟩, .int .i64 0, .int .u8 0, .int .i64 0, .int .u8 0, .string ⟨#[]⟩, .slice none 0 0, .int .i64 0, .int .i64 0, .int .i64 0, .int .i64 0, .slice none 0 0, .int .i64 0] 100)
  obtain ⟨x0, x1⟩ := cell_row2 e0
  obtain ⟨u0, u1⟩ := cell_row2 e1
  have HDq : Hid _ := hd
  have N1 := neqI
  have N2 := neqI0
  have N3 := neqX
  have N4 := neqX0
  have N5 := neqA
  have N6 := neqA0
  clear hd
  go_enter Tryz.func53, Tryz.ntmps53
  go_wp2_with (first
    | (go_at_call 174; refine halt_here ?_))
  unfold Halted
  have hsz : (((w.alloc (.cells #[.int .u8 a.k, .int .i64 a.n] 27)).alloc (.cells #[.int .u8 b.k, .int .i64 b.n] 27)).alloc (.cells #[.string ⟨#[]⟩, .int .i64 0, .int .u8 0, .int .i64 0, .int .u8 0, .string ⟨#[]⟩, .slice none 0 0, .int .i64 0, .int .i64 0, .int .i64 0, .int .i64 0, .slice none 0 0, .int .i64 0] 100)).heap.size = w.heap.size + 1 + 1 + 1 := by simp
  generalize hW : ((w.alloc (.cells #[.int .u8 a.k, .int .i64 a.n] 27)).alloc (.cells #[.int .u8 b.k, .int .i64 b.n] 27)).alloc (.cells #[.string ⟨#[]⟩, .int .i64 0, .int .u8 0, .int .i64 0, .int .u8 0, .string ⟨#[]⟩, .slice none 0 0, .int .i64 0, .int .i64 0, .int .i64 0, .int .i64 0, .slice none 0 0, .int .i64 0] 100) = W at *
  clear hW
  have hnew := heap_alloc_new W (.cells #[.int .u8 a.k, .int .i64 a.n, .int .u8 b.k, .int .i64 b.n] 27)
  have hBY := below1 W (.cells #[.int .u8 a.k, .int .i64 a.n, .int .u8 b.k, .int .i64 b.n] 27)
  rw [hsz] at hnew
  clear hsz
  refine Calls.mono (anyCell_in (l := [a, b]) 2 (one_vals2 hnew) (by simp) false (no_cells2 ha7 hb7)) ?_
  rintro e w0 ⟨rfl, hB0⟩
  have hB' := hBY.trans (hB0.mono hBY.size)
  have hBw := hB.trans (hB'.mono hB.size)
  have f0 := (hB'.block _ (Array.getElem?_eq_some_iff.1 e0).1).trans e0
  have f1 := (hB'.block _ (Array.getElem?_eq_some_iff.1 e1).1).trans e1
  have f2 := (hB'.block _ (Array.getElem?_eq_some_iff.1 e2).1).trans e2
  have fg := (hBw.block _ (Array.getElem?_eq_some_iff.1 hg).1).trans hg
  clear x0 x1 u0 u1 e0 e1 e2 hnew hBY hB'
  have t0 := cell_sign fg (i := 12) (v := .func (.func 243) #[] #[.pointer (some ⟨b4, 0, none⟩)]) (by rfl)
  have t1 := cell_sign fg (i := 13) (v := .nilFunc) (by rfl)
  have t2 := cell_sign fg (i := 14) (v := .nilFunc) (by rfl)
  have hBS := below1 w0 (.cells #[.func (.func 243) #[] #[.pointer (some ⟨b4, 0, none⟩)], .nilFunc, .nilFunc] 148)
  have hBw2 := hBw.trans (hBS.mono hBw.size)
  have g0 := (hBS.block _ (Array.getElem?_eq_some_iff.1 f0).1).trans f0
  have g1 := (hBS.block _ (Array.getElem?_eq_some_iff.1 f1).1).trans f1
  have g2 := (hBS.block _ (Array.getElem?_eq_some_iff.1 f2).1).trans f2
  have g3 := heap_alloc_new w0 (.cells #[.func (.func 243) #[] #[.pointer (some ⟨b4, 0, none⟩)], .nilFunc, .nilFunc] 148)
  obtain ⟨x0, x1⟩ := cell_row2 g0
  obtain ⟨u0, u1⟩ := cell_row2 g1
  obtain ⟨⟨s0, s1, s2⟩, -⟩ := cell_row3P g3
  clear hg fg
  have n_ak2 : ¬ ((a.k : Int) = 2) := by omega
  have b_ak2 : ((a.k : Int) == 2) = false := by simp; omega
  clear ha7 hb7 ha
  have H1 := fun (W : World) => throwsD HDq.out W
  unfold tKind at H1
  clear HDq
  go_wp2_with (first
    | (go_at_call 154; (with_reducible refine (H1 _).mono ?_); clear H1; rintro e w1 ⟨q, c_, q2, rfl, h1, h2, hB1⟩; have hr := (hB1.block _ (Array.getElem?_eq_some_iff.1 g2).1).trans g2; obtain ⟨⟨z0, z1, z2, z3, z4, z5, z6, z7, z8, z9, z10, z11, z12⟩, y0, y1, y2, y3, y4, y5, y6, y7, y8, y9, y10, y11, y12⟩ := cell_row13 hr))
  refine bodyPost_ret (results_cell_row (by rfl) _ _ (w.heap.size + 1 + 1) 100 _ _ _ (by rfl) (set13_row hr) Tryz.underlying100 (by rfl) infoDeed) (by rfl) ?_
  exact deed_fin hr (by omega) d h1 h2 (hBw2.trans (hB1.mono hBw2.size))

set_option maxRecDepth 20000 in
set_option maxHeartbeats 4000000 in
theorem sBin_k4b {p : Option Addr} {n : Nat} (c : Nat) {g : Nat} (hs : Sgn w g) (a b : Vl) (ha7 : a.k ≠ 7) (hb7 : b.k ≠ 7) (ha : a.k = 2) (hb : b.k ≠ 2) {d : Dd} (hd : d = thrD tKind) :
    Calls Tryz.prog 53 #[.slice (some ⟨g, 0, none⟩) 10 10, .slice p n c, .int .u8 4, .agg #[.int .u8 a.k, .int .i64 a.n], .agg #[.int .u8 b.k, .int .i64 b.n]] w (DeedR w d) := by
  have H_ha : Hid _ := ha
  clear ha
  obtain ⟨b4, b5, hg, -, -⟩ := hs
  have hB := below3' w (.cells #[.int .u8 a.k, .int .i64 a.n] 27) (.cells #[.int .u8 b.k, .int .i64 b.n] 27) (.cells #[.string ⟨#[]⟩, .int .i64 0, .int .u8 0, .int .i64 0, .int .u8 0, .string ⟨#[]⟩, .slice none 0 0, .int .i64 0, .int .i64 0, .int .i64 0, .int .i64 0, .slice none 0 0, .int .i64 0] 100)
  have e0 := heap3_0 w (.cells #[.int .u8 a.k, .int .i64 a.n] 27) (.cells #[.int .u8 b.k, .int .i64 b.n] 27) (.cells #[.string ⟨#[]⟩, .int .i64 0, .int .u8 0, .int .i64 0, .int .u8 0, .string ⟨#[]⟩, .slice none 0 0, .int .i64 0, .int .i64 0, .int .i64 0, .int .i64 0, .slice none 0 0, .int .i64 0] 100)
  have e1 := heap3_1 w (.cells #[.int .u8 a.k, .int .i64 a.n] 27) (.cells #[.int .u8 b.k, .int .i64 b.n] 27) (.cells #[.string ⟨#[]⟩, .int .i64 0, .int .u8 0, .int .i64 0, .int .u8 0, .string ⟨#[]⟩, .slice none 0 0, .int .i64 0, .int .i64 0, .int .i64 0, .int .i64 0, .slice none 0 0, .int .i64 0] 100)
  have e2 := heap3_2 w (.cells #[.int .u8 a.k, .int .i64 a.n] 27) (.cells #[.int .u8 b.k, .int .i64 b.n] 27) (.cells #[.string ⟨#[]⟩, .int .i64 0, .int .u8 0, .int .i64 0, .int .u8 0, .string ⟨#[]⟩, .slice none 0 0, .int .i64 0, .int .i64 0, .int .i64 0, .int .i64 0, .slice none 0 0, .int .i64 0] 100)
  obtain ⟨x0, x1⟩ := cell_row2 e0
  obtain ⟨u0, u1⟩ := cell_row2 e1
  have HDq : Hid _ := hd
  have N1 := neqI
  have N2 := neqI0
  have N3 := neqX
  have N4 := neqX0
  have N5 := neqA
  have N6 := neqA0
  clear hd
  go_enter Tryz.func53, Tryz.ntmps53
  go_wp2_with (first
    | (go_at_call 174; refine halt_here ?_))
  unfold Halted
  have hsz : (((w.alloc (.cells #[.int .u8 a.k, .int .i64 a.n] 27)).alloc (.cells #[.int .u8 b.k, .int .i64 b.n] 27)).alloc (.cells #[.string ⟨#[]⟩, .int .i64 0, .int .u8 0, .int .i64 0, .int .u8 0, .string ⟨#[]⟩, .slice none 0 0, .int .i64 0, .int .i64 0, .int .i64 0, .int .i64 0, .slice none 0 0, .int .i64 0] 100)).heap.size = w.heap.size + 1 + 1 + 1 := by simp
  generalize hW : ((w.alloc (.cells #[.int .u8 a.k, .int .i64 a.n] 27)).alloc (.cells #[.int .u8 b.k, .int .i64 b.n] 27)).alloc (.cells #[.string ⟨#[]⟩, .int .i64 0, .int .u8 0, .int .i64 0, .int .u8 0, .string ⟨#[]⟩, .slice none 0 0, .int .i64 0, .int .i64 0, .int .i64 0, .int .i64 0, .slice none 0 0, .int .i64 0] 100) = W at *
  clear hW
  have hnew := heap_alloc_new W (.cells #[.int .u8 a.k, .int .i64 a.n, .int .u8 b.k, .int .i64 b.n] 27)
  have hBY := below1 W (.cells #[.int .u8 a.k, .int .i64 a.n, .int .u8 b.k, .int .i64 b.n] 27)
  rw [hsz] at hnew
  clear hsz
  refine Calls.mono (anyCell_in (l := [a, b]) 2 (one_vals2 hnew) (by simp) false (no_cells2 ha7 hb7)) ?_
  rintro e w0 ⟨rfl, hB0⟩
  have hB' := hBY.trans (hB0.mono hBY.size)
  have hBw := hB.trans (hB'.mono hB.size)
  have f0 := (hB'.block _ (Array.getElem?_eq_some_iff.1 e0).1).trans e0
  have f1 := (hB'.block _ (Array.getElem?_eq_some_iff.1 e1).1).trans e1
  have f2 := (hB'.block _ (Array.getElem?_eq_some_iff.1 e2).1).trans e2
  have fg := (hBw.block _ (Array.getElem?_eq_some_iff.1 hg).1).trans hg
  clear x0 x1 u0 u1 e0 e1 e2 hnew hBY hB'
  have t0 := cell_sign fg (i := 12) (v := .func (.func 243) #[] #[.pointer (some ⟨b4, 0, none⟩)]) (by rfl)
  have t1 := cell_sign fg (i := 13) (v := .nilFunc) (by rfl)
  have t2 := cell_sign fg (i := 14) (v := .nilFunc) (by rfl)
  have hBS := below1 w0 (.cells #[.func (.func 243) #[] #[.pointer (some ⟨b4, 0, none⟩)], .nilFunc, .nilFunc] 148)
  have hBw2 := hBw.trans (hBS.mono hBw.size)
  have g0 := (hBS.block _ (Array.getElem?_eq_some_iff.1 f0).1).trans f0
  have g1 := (hBS.block _ (Array.getElem?_eq_some_iff.1 f1).1).trans f1
  have g2 := (hBS.block _ (Array.getElem?_eq_some_iff.1 f2).1).trans f2
  have g3 := heap_alloc_new w0 (.cells #[.func (.func 243) #[] #[.pointer (some ⟨b4, 0, none⟩)], .nilFunc, .nilFunc] 148)
  obtain ⟨x0, x1⟩ := cell_row2 g0
  obtain ⟨u0, u1⟩ := cell_row2 g1
  obtain ⟨⟨s0, s1, s2⟩, -⟩ := cell_row3P g3
  clear hg fg
  have ha := H_ha.out
  clear H_ha
  have n_bk2 : ¬ ((b.k : Int) = 2) := by omega
  have b_bk2 : ((b.k : Int) == 2) = false := by simp; omega
  clear ha7 hb7 hb
  obtain ⟨ak, an⟩ := a
  simp only at ha
  subst ha
  simp only [show ((2 : Nat) : Int) = 2 from rfl] at x0 x1
  have H1 := fun (W : World) => throwsD HDq.out W
  unfold tKind at H1
  clear HDq
  go_wp2_with (first
    | (go_at_call 154; (with_reducible refine (H1 _).mono ?_); clear H1; rintro e w1 ⟨q, c_, q2, rfl, h1, h2, hB1⟩; have hr := (hB1.block _ (Array.getElem?_eq_some_iff.1 g2).1).trans g2; obtain ⟨⟨z0, z1, z2, z3, z4, z5, z6, z7, z8, z9, z10, z11, z12⟩, y0, y1, y2, y3, y4, y5, y6, y7, y8, y9, y10, y11, y12⟩ := cell_row13 hr))
  refine bodyPost_ret (results_cell_row (by rfl) _ _ (w.heap.size + 1 + 1) 100 _ _ _ (by rfl) (set13_row hr) Tryz.underlying100 (by rfl) infoDeed) (by rfl) ?_
  exact deed_fin hr (by omega) d h1 h2 (hBw2.trans (hB1.mono hBw2.size))

set_option maxRecDepth 20000 in
set_option maxHeartbeats 4000000 in
theorem sBin_k5a {p : Option Addr} {n : Nat} (c : Nat) {g : Nat} (hs : Sgn w g) (a b : Vl) (ha7 : a.k ≠ 7) (hb7 : b.k ≠ 7) (ha : a.k ≠ 2) {d : Dd} (hd : d = thrD tKind) :
    Calls Tryz.prog 53 #[.slice (some ⟨g, 0, none⟩) 10 10, .slice p n c, .int .u8 5, .agg #[.int .u8 a.k, .int .i64 a.n], .agg #[.int .u8 b.k, .int .i64 b.n]] w (DeedR w d) := by
  obtain ⟨b4, b5, hg, -, -⟩ := hs
  have hB := below3' w (.cells #[.int .u8 a.k, .int .i64 a.n] 27) (.cells #[.int .u8 b.k, .int .i64 b.n] 27) (.cells #[.string ⟨#[]⟩, .int .i64 0, .int .u8 0, .int .i64 0, .int .u8 0, .string ⟨#[]⟩, .slice none 0 0, .int .i64 0, .int .i64 0, .int .i64 0, .int .i64 0, .slice none 0 0, .int .i64 0] 100)
  have e0 := heap3_0 w (.cells #[.int .u8 a.k, .int .i64 a.n] 27) (.cells #[.int .u8 b.k, .int .i64 b.n] 27) (.cells #[.string ⟨#[]⟩, .int .i64 0, .int .u8 0, .int .i64 0, .int .u8 0, .string ⟨#[]⟩, .slice none 0 0, .int .i64 0, .int .i64 0, .int .i64 0, .int .i64 0, .slice none 0 0, .int .i64 0] 100)
  have e1 := heap3_1 w (.cells #[.int .u8 a.k, .int .i64 a.n] 27) (.cells #[.int .u8 b.k, .int .i64 b.n] 27) (.cells #[.string ⟨#[]⟩, .int .i64 0, .int .u8 0, .int .i64 0, .int .u8 0, .string ⟨#[]⟩, .slice none 0 0, .int .i64 0, .int .i64 0, .int .i64 0, .int .i64 0, .slice none 0 0, .int .i64 0] 100)
  have e2 := heap3_2 w (.cells #[.int .u8 a.k, .int .i64 a.n] 27) (.cells #[.int .u8 b.k, .int .i64 b.n] 27) (.cells #[.string ⟨#[]⟩, .int .i64 0, .int .u8 0, .int .i64 0, .int .u8 0, .string ⟨#[]⟩, .slice none 0 0, .int .i64 0, .int .i64 0, .int .i64 0, .int .i64 0, .slice none 0 0, .int .i64 0] 100)
  obtain ⟨x0, x1⟩ := cell_row2 e0
  obtain ⟨u0, u1⟩ := cell_row2 e1
  have HDq : Hid _ := hd
  have N1 := neqI
  have N2 := neqI0
  have N3 := neqX
  have N4 := neqX0
  have N5 := neqA
  have N6 := neqA0
  clear hd
  go_enter Tryz.func53, Tryz.ntmps53
  go_wp2_with (first
    | (go_at_call 174; refine halt_here ?_))
  unfold Halted
  have hsz : (((w.alloc (.cells #[.int .u8 a.k, .int .i64 a.n] 27)).alloc (.cells #[.int .u8 b.k, .int .i64 b.n] 27)).alloc (.cells #[.string ⟨#[]⟩, .int .i64 0, .int .u8 0, .int .i64 0, .int .u8 0, .string ⟨#[]⟩, .slice none 0 0, .int .i64 0, .int .i64 0, .int .i64 0, .int .i64 0, .slice none 0 0, .int .i64 0] 100)).heap.size = w.heap.size + 1 + 1 + 1 := by simp
  generalize hW : ((w.alloc (.cells #[.int .u8 a.k, .int .i64 a.n] 27)).alloc (.cells #[.int .u8 b.k, .int .i64 b.n] 27)).alloc (.cells #[.string ⟨#[]⟩, .int .i64 0, .int .u8 0, .int .i64 0, .int .u8 0, .string ⟨#[]⟩, .slice none 0 0, .int .i64 0, .int .i64 0, .int .i64 0, .int .i64 0, .slice none 0 0, .int .i64 0] 100) = W at *
  clear hW
  have hnew := heap_alloc_new W (.cells #[.int .u8 a.k, .int .i64 a.n, .int .u8 b.k, .int .i64 b.n] 27)
  have hBY := below1 W (.cells #[.int .u8 a.k, .int .i64 a.n, .int .u8 b.k, .int .i64 b.n] 27)
  rw [hsz] at hnew
  clear hsz
  refine Calls.mono (anyCell_in (l := [a, b]) 2 (one_vals2 hnew) (by simp) false (no_cells2 ha7 hb7)) ?_
  rintro e w0 ⟨rfl, hB0⟩
  have hB' := hBY.trans (hB0.mono hBY.size)
  have hBw := hB.trans (hB'.mono hB.size)
  have f0 := (hB'.block _ (Array.getElem?_eq_some_iff.1 e0).1).trans e0
  have f1 := (hB'.block _ (Array.getElem?_eq_some_iff.1 e1).1).trans e1
  have f2 := (hB'.block _ (Array.getElem?_eq_some_iff.1 e2).1).trans e2
  have fg := (hBw.block _ (Array.getElem?_eq_some_iff.1 hg).1).trans hg
  clear x0 x1 u0 u1 e0 e1 e2 hnew hBY hB'
  have t0 := cell_sign fg (i := 15) (v := .func (.func 243) #[] #[.pointer (some ⟨b5, 0, none⟩)]) (by rfl)
  have t1 := cell_sign fg (i := 16) (v := .nilFunc) (by rfl)
  have t2 := cell_sign fg (i := 17) (v := .nilFunc) (by rfl)
  have hBS := below1 w0 (.cells #[.func (.func 243) #[] #[.pointer (some ⟨b5, 0, none⟩)], .nilFunc, .nilFunc] 148)
  have hBw2 := hBw.trans (hBS.mono hBw.size)
  have g0 := (hBS.block _ (Array.getElem?_eq_some_iff.1 f0).1).trans f0
  have g1 := (hBS.block _ (Array.getElem?_eq_some_iff.1 f1).1).trans f1
  have g2 := (hBS.block _ (Array.getElem?_eq_some_iff.1 f2).1).trans f2
  have g3 := heap_alloc_new w0 (.cells #[.func (.func 243) #[] #[.pointer (some ⟨b5, 0, none⟩)], .nilFunc, .nilFunc] 148)
  obtain ⟨x0, x1⟩ := cell_row2 g0
  obtain ⟨u0, u1⟩ := cell_row2 g1
  obtain ⟨⟨s0, s1, s2⟩, -⟩ := cell_row3P g3
  clear hg fg
  have n_ak2 : ¬ ((a.k : Int) = 2) := by omega
  have b_ak2 : ((a.k : Int) == 2) = false := by simp; omega
  clear ha7 hb7 ha
  have H1 := fun (W : World) => throwsD HDq.out W
  unfold tKind at H1
  clear HDq
  go_wp2_with (first
    | (go_at_call 154; (with_reducible refine (H1 _).mono ?_); clear H1; rintro e w1 ⟨q, c_, q2, rfl, h1, h2, hB1⟩; have hr := (hB1.block _ (Array.getElem?_eq_some_iff.1 g2).1).trans g2; obtain ⟨⟨z0, z1, z2, z3, z4, z5, z6, z7, z8, z9, z10, z11, z12⟩, y0, y1, y2, y3, y4, y5, y6, y7, y8, y9, y10, y11, y12⟩ := cell_row13 hr))
  refine bodyPost_ret (results_cell_row (by rfl) _ _ (w.heap.size + 1 + 1) 100 _ _ _ (by rfl) (set13_row hr) Tryz.underlying100 (by rfl) infoDeed) (by rfl) ?_
  exact deed_fin hr (by omega) d h1 h2 (hBw2.trans (hB1.mono hBw2.size))

set_option maxRecDepth 20000 in
set_option maxHeartbeats 4000000 in
theorem sBin_k5b {p : Option Addr} {n : Nat} (c : Nat) {g : Nat} (hs : Sgn w g) (a b : Vl) (ha7 : a.k ≠ 7) (hb7 : b.k ≠ 7) (ha : a.k = 2) (hb : b.k ≠ 2) {d : Dd} (hd : d = thrD tKind) :
    Calls Tryz.prog 53 #[.slice (some ⟨g, 0, none⟩) 10 10, .slice p n c, .int .u8 5, .agg #[.int .u8 a.k, .int .i64 a.n], .agg #[.int .u8 b.k, .int .i64 b.n]] w (DeedR w d) := by
  have H_ha : Hid _ := ha
  clear ha
  obtain ⟨b4, b5, hg, -, -⟩ := hs
  have hB := below3' w (.cells #[.int .u8 a.k, .int .i64 a.n] 27) (.cells #[.int .u8 b.k, .int .i64 b.n] 27) (.cells #[.string ⟨#[]⟩, .int .i64 0, .int .u8 0, .int .i64 0, .int .u8 0, .string ⟨#[]⟩, .slice none 0 0, .int .i64 0, .int .i64 0, .int .i64 0, .int .i64 0, .slice none 0 0, .int .i64 0] 100)
  have e0 := heap3_0 w (.cells #[.int .u8 a.k, .int .i64 a.n] 27) (.cells #[.int .u8 b.k, .int .i64 b.n] 27) (.cells #[.string ⟨#[]⟩, .int .i64 0, .int .u8 0, .int .i64 0, .int .u8 0, .string ⟨#[]⟩, .slice none 0 0, .int .i64 0, .int .i64 0, .int .i64 0, .int .i64 0, .slice none 0 0, .int .i64 0] 100)
  have e1 := heap3_1 w (.cells #[.int .u8 a.k, .int .i64 a.n] 27) (.cells #[.int .u8 b.k, .int .i64 b.n] 27) (.cells #[.string ⟨#[]⟩, .int .i64 0, .int .u8 0, .int .i64 0, .int .u8 0, .string ⟨#[]⟩, .slice none 0 0, .int .i64 0, .int .i64 0, .int .i64 0, .int .i64 0, .slice none 0 0, .int .i64 0] 100)
  have e2 := heap3_2 w (.cells #[.int .u8 a.k, .int .i64 a.n] 27) (.cells #[.int .u8 b.k, .int .i64 b.n] 27) (.cells #[.string ⟨#[]⟩, .int .i64 0, .int .u8 0, .int .i64 0, .int .u8 0, .string ⟨#[]⟩, .slice none 0 0, .int .i64 0, .int .i64 0, .int .i64 0, .int .i64 0, .slice none 0 0, .int .i64 0] 100)
  obtain ⟨x0, x1⟩ := cell_row2 e0
  obtain ⟨u0, u1⟩ := cell_row2 e1
  have HDq : Hid _ := hd
  have N1 := neqI
  have N2 := neqI0
  have N3 := neqX
  have N4 := neqX0
  have N5 := neqA
  have N6 := neqA0
  clear hd
  go_enter Tryz.func53, Tryz.ntmps53
  go_wp2_with (first
    | (go_at_call 174; refine halt_here ?_))
  unfold Halted
  have hsz : (((w.alloc (.cells #[.int .u8 a.k, .int .i64 a.n] 27)).alloc (.cells #[.int .u8 b.k, .int .i64 b.n] 27)).alloc (.cells #[.string ⟨#[]⟩, .int .i64 0, .int .u8 0, .int .i64 0, .int .u8 0, .string ⟨#[]⟩, .slice none 0 0, .int .i64 0, .int .i64 0, .int .i64 0, .int .i64 0, .slice none 0 0, .int .i64 0] 100)).heap.size = w.heap.size + 1 + 1 + 1 := by simp
  generalize hW : ((w.alloc (.cells #[.int .u8 a.k, .int .i64 a.n] 27)).alloc (.cells #[.int .u8 b.k, .int .i64 b.n] 27)).alloc (.cells #[.string ⟨#[]⟩, .int .i64 0, .int .u8 0, .int .i64 0, .int .u8 0, .string ⟨#[]⟩, .slice none 0 0, .int .i64 0, .int .i64 0, .int .i64 0, .int .i64 0, .slice none 0 0, .int .i64 0] 100) = W at *
  clear hW
  have hnew := heap_alloc_new W (.cells #[.int .u8 a.k, .int .i64 a.n, .int .u8 b.k, .int .i64 b.n] 27)
  have hBY := below1 W (.cells #[.int .u8 a.k, .int .i64 a.n, .int .u8 b.k, .int .i64 b.n] 27)
  rw [hsz] at hnew
  clear hsz
  refine Calls.mono (anyCell_in (l := [a, b]) 2 (one_vals2 hnew) (by simp) false (no_cells2 ha7 hb7)) ?_
  rintro e w0 ⟨rfl, hB0⟩
  have hB' := hBY.trans (hB0.mono hBY.size)
  have hBw := hB.trans (hB'.mono hB.size)
  have f0 := (hB'.block _ (Array.getElem?_eq_some_iff.1 e0).1).trans e0
  have f1 := (hB'.block _ (Array.getElem?_eq_some_iff.1 e1).1).trans e1
  have f2 := (hB'.block _ (Array.getElem?_eq_some_iff.1 e2).1).trans e2
  have fg := (hBw.block _ (Array.getElem?_eq_some_iff.1 hg).1).trans hg
  clear x0 x1 u0 u1 e0 e1 e2 hnew hBY hB'
  have t0 := cell_sign fg (i := 15) (v := .func (.func 243) #[] #[.pointer (some ⟨b5, 0, none⟩)]) (by rfl)
  have t1 := cell_sign fg (i := 16) (v := .nilFunc) (by rfl)
  have t2 := cell_sign fg (i := 17) (v := .nilFunc) (by rfl)
  have hBS := below1 w0 (.cells #[.func (.func 243) #[] #[.pointer (some ⟨b5, 0, none⟩)], .nilFunc, .nilFunc] 148)
  have hBw2 := hBw.trans (hBS.mono hBw.size)
  have g0 := (hBS.block _ (Array.getElem?_eq_some_iff.1 f0).1).trans f0
  have g1 := (hBS.block _ (Array.getElem?_eq_some_iff.1 f1).1).trans f1
  have g2 := (hBS.block _ (Array.getElem?_eq_some_iff.1 f2).1).trans f2
  have g3 := heap_alloc_new w0 (.cells #[.func (.func 243) #[] #[.pointer (some ⟨b5, 0, none⟩)], .nilFunc, .nilFunc] 148)
  obtain ⟨x0, x1⟩ := cell_row2 g0
  obtain ⟨u0, u1⟩ := cell_row2 g1
  obtain ⟨⟨s0, s1, s2⟩, -⟩ := cell_row3P g3
  clear hg fg
  have ha := H_ha.out
  clear H_ha
  have n_bk2 : ¬ ((b.k : Int) = 2) := by omega
  have b_bk2 : ((b.k : Int) == 2) = false := by simp; omega
  clear ha7 hb7 hb
  obtain ⟨ak, an⟩ := a
  simp only at ha
  subst ha
  simp only [show ((2 : Nat) : Int) = 2 from rfl] at x0 x1
  have H1 := fun (W : World) => throwsD HDq.out W
  unfold tKind at H1
  clear HDq
  go_wp2_with (first
    | (go_at_call 154; (with_reducible refine (H1 _).mono ?_); clear H1; rintro e w1 ⟨q, c_, q2, rfl, h1, h2, hB1⟩; have hr := (hB1.block _ (Array.getElem?_eq_some_iff.1 g2).1).trans g2; obtain ⟨⟨z0, z1, z2, z3, z4, z5, z6, z7, z8, z9, z10, z11, z12⟩, y0, y1, y2, y3, y4, y5, y6, y7, y8, y9, y10, y11, y12⟩ := cell_row13 hr))
  refine bodyPost_ret (results_cell_row (by rfl) _ _ (w.heap.size + 1 + 1) 100 _ _ _ (by rfl) (set13_row hr) Tryz.underlying100 (by rfl) infoDeed) (by rfl) ?_
  exact deed_fin hr (by omega) d h1 h2 (hBw2.trans (hB1.mono hBw2.size))


end Go.Proofs.YtgokofomoachaaaGreatDoor

namespace Go.Proofs.YtgokofomoachaaaGreatDoor
set_option linter.unusedVariables false
set_option linter.unusedSimpArgs false
open Go.RowKit

variable {w : World}

set_option maxRecDepth 20000 in
set_option maxHeartbeats 4000000 in
theorem sBin_k1a {p : Option Addr} {n : Nat} (c : Nat) {g : Nat} (hs : Sgn w g) (a b : Vl) (ha7 : a.k ≠ 7) (hb7 : b.k ≠ 7) (ha : a.k ≠ 2) (hb : a.k ≠ 3) {d : Dd} (hd : d = thrD tKind) :
    Calls Tryz.prog 53 #[.slice (some ⟨g, 0, none⟩) 10 10, .slice p n c, .int .u8 1, .agg #[.int .u8 a.k, .int .i64 a.n], .agg #[.int .u8 b.k, .int .i64 b.n]] w (DeedR w d) := by
  obtain ⟨b4, b5, hg, -, -⟩ := hs
  have hB := below3' w (.cells #[.int .u8 a.k, .int .i64 a.n] 27) (.cells #[.int .u8 b.k, .int .i64 b.n] 27) (.cells #[.string ⟨#[]⟩, .int .i64 0, .int .u8 0, .int .i64 0, .int .u8 0, .string ⟨#[]⟩, .slice none 0 0, .int .i64 0, .int .i64 0, .int .i64 0, .int .i64 0, .slice none 0 0, .int .i64 0] 100)
  have e0 := heap3_0 w (.cells #[.int .u8 a.k, .int .i64 a.n] 27) (.cells #[.int .u8 b.k, .int .i64 b.n] 27) (.cells #[.string ⟨#[]⟩, .int .i64 0, .int .u8 0, .int .i64 0, .int .u8 0, .string ⟨#[]⟩, .slice none 0 0, .int .i64 0, .int .i64 0, .int .i64 0, .int .i64 0, .slice none 0 0, .int .i64 0] 100)
  have e1 := heap3_1 w (.cells #[.int .u8 a.k, .int .i64 a.n] 27) (.cells #[.int .u8 b.k, .int .i64 b.n] 27) (.cells #[.string ⟨#[]⟩, .int .i64 0, .int .u8 0, .int .i64 0, .int .u8 0, .string ⟨#[]⟩, .slice none 0 0, .int .i64 0, .int .i64 0, .int .i64 0, .int .i64 0, .slice none 0 0, .int .i64 0] 100)
  have e2 := heap3_2 w (.cells #[.int .u8 a.k, .int .i64 a.n] 27) (.cells #[.int .u8 b.k, .int .i64 b.n] 27) (.cells #[.string ⟨#[]⟩, .int .i64 0, .int .u8 0, .int .i64 0, .int .u8 0, .string ⟨#[]⟩, .slice none 0 0, .int .i64 0, .int .i64 0, .int .i64 0, .int .i64 0, .slice none 0 0, .int .i64 0] 100)
  obtain ⟨x0, x1⟩ := cell_row2 e0
  obtain ⟨u0, u1⟩ := cell_row2 e1
  have HDq : Hid _ := hd
  have N1 := neqI
  have N2 := neqI0
  have N3 := neqX
  have N4 := neqX0
  have N5 := neqA
  have N6 := neqA0
  clear hd
  go_enter Tryz.func53, Tryz.ntmps53
  go_wp2_with (first
    | (go_at_call 174; refine halt_here ?_))
  unfold Halted
  have hsz : (((w.alloc (.cells #[.int .u8 a.k, .int .i64 a.n] 27)).alloc (.cells #[.int .u8 b.k, .int .i64 b.n] 27)).alloc (.cells #[.string ⟨#[]⟩, .int .i64 0, .int .u8 0, .int .i64 0, .int .u8 0, .string ⟨#[]⟩, .slice none 0 0, .int .i64 0, .int .i64 0, .int .i64 0, .int .i64 0, .slice none 0 0, .int .i64 0] 100)).heap.size = w.heap.size + 1 + 1 + 1 := by simp
  generalize hW : ((w.alloc (.cells #[.int .u8 a.k, .int .i64 a.n] 27)).alloc (.cells #[.int .u8 b.k, .int .i64 b.n] 27)).alloc (.cells #[.string ⟨#[]⟩, .int .i64 0, .int .u8 0, .int .i64 0, .int .u8 0, .string ⟨#[]⟩, .slice none 0 0, .int .i64 0, .int .i64 0, .int .i64 0, .int .i64 0, .slice none 0 0, .int .i64 0] 100) = W at *
  clear hW
  have hnew := heap_alloc_new W (.cells #[.int .u8 a.k, .int .i64 a.n, .int .u8 b.k, .int .i64 b.n] 27)
  have hBY := below1 W (.cells #[.int .u8 a.k, .int .i64 a.n, .int .u8 b.k, .int .i64 b.n] 27)
  rw [hsz] at hnew
  clear hsz
  refine Calls.mono (anyCell_in (l := [a, b]) 2 (one_vals2 hnew) (by simp) false (no_cells2 ha7 hb7)) ?_
  rintro e w0 ⟨rfl, hB0⟩
  have hB' := hBY.trans (hB0.mono hBY.size)
  have hBw := hB.trans (hB'.mono hB.size)
  have f0 := (hB'.block _ (Array.getElem?_eq_some_iff.1 e0).1).trans e0
  have f1 := (hB'.block _ (Array.getElem?_eq_some_iff.1 e1).1).trans e1
  have f2 := (hB'.block _ (Array.getElem?_eq_some_iff.1 e2).1).trans e2
  have fg := (hBw.block _ (Array.getElem?_eq_some_iff.1 hg).1).trans hg
  clear x0 x1 u0 u1 e0 e1 e2 hnew hBY hB'
  have t0 := cell_sign fg (i := 3) (v := .func (.func 158) #[] #[]) (by rfl)
  have t1 := cell_sign fg (i := 4) (v := .func (.func 160) #[] #[]) (by rfl)
  have t2 := cell_sign fg (i := 5) (v := .nilFunc) (by rfl)
  have hBS := below1 w0 (.cells #[.func (.func 158) #[] #[], .func (.func 160) #[] #[], .nilFunc] 148)
  have hBw2 := hBw.trans (hBS.mono hBw.size)
  have g0 := (hBS.block _ (Array.getElem?_eq_some_iff.1 f0).1).trans f0
  have g1 := (hBS.block _ (Array.getElem?_eq_some_iff.1 f1).1).trans f1
  have g2 := (hBS.block _ (Array.getElem?_eq_some_iff.1 f2).1).trans f2
  have g3 := heap_alloc_new w0 (.cells #[.func (.func 158) #[] #[], .func (.func 160) #[] #[], .nilFunc] 148)
  obtain ⟨x0, x1⟩ := cell_row2 g0
  obtain ⟨u0, u1⟩ := cell_row2 g1
  obtain ⟨⟨s0, s1, s2⟩, -⟩ := cell_row3P g3
  clear hg fg
  have n_ak2 : ¬ ((a.k : Int) = 2) := by omega
  have b_ak2 : ((a.k : Int) == 2) = false := by simp; omega
  have n_ak3 : ¬ ((a.k : Int) = 3) := by omega
  have b_ak3 : ((a.k : Int) == 3) = false := by simp; omega
  clear ha7 hb7 ha hb
  have H1 := fun (W : World) => throwsD HDq.out W
  unfold tKind at H1
  clear HDq
  go_wp2_with (first
    | (go_at_call 154; (with_reducible refine (H1 _).mono ?_); clear H1; rintro e w1 ⟨q, c_, q2, rfl, h1, h2, hB1⟩; have hr := (hB1.block _ (Array.getElem?_eq_some_iff.1 g2).1).trans g2; obtain ⟨⟨z0, z1, z2, z3, z4, z5, z6, z7, z8, z9, z10, z11, z12⟩, y0, y1, y2, y3, y4, y5, y6, y7, y8, y9, y10, y11, y12⟩ := cell_row13 hr))
  refine bodyPost_ret (results_cell_row (by rfl) _ _ (w.heap.size + 1 + 1) 100 _ _ _ (by rfl) (set13_row hr) Tryz.underlying100 (by rfl) infoDeed) (by rfl) ?_
  exact deed_fin hr (by omega) d h1 h2 (hBw2.trans (hB1.mono hBw2.size))

set_option maxRecDepth 20000 in
set_option maxHeartbeats 4000000 in
theorem sBin_k1b {p : Option Addr} {n : Nat} (c : Nat) {g : Nat} (hs : Sgn w g) (a b : Vl) (ha7 : a.k ≠ 7) (hb7 : b.k ≠ 7) (ha : a.k = 2) (hb : b.k ≠ 2) {d : Dd} (hd : d = thrD tKind) :
    Calls Tryz.prog 53 #[.slice (some ⟨g, 0, none⟩) 10 10, .slice p n c, .int .u8 1, .agg #[.int .u8 a.k, .int .i64 a.n], .agg #[.int .u8 b.k, .int .i64 b.n]] w (DeedR w d) := by
  have H_ha : Hid _ := ha
  clear ha
  obtain ⟨b4, b5, hg, -, -⟩ := hs
  have hB := below3' w (.cells #[.int .u8 a.k, .int .i64 a.n] 27) (.cells #[.int .u8 b.k, .int .i64 b.n] 27) (.cells #[.string ⟨#[]⟩, .int .i64 0, .int .u8 0, .int .i64 0, .int .u8 0, .string ⟨#[]⟩, .slice none 0 0, .int .i64 0, .int .i64 0, .int .i64 0, .int .i64 0, .slice none 0 0, .int .i64 0] 100)
  have e0 := heap3_0 w (.cells #[.int .u8 a.k, .int .i64 a.n] 27) (.cells #[.int .u8 b.k, .int .i64 b.n] 27) (.cells #[.string ⟨#[]⟩, .int .i64 0, .int .u8 0, .int .i64 0, .int .u8 0, .string ⟨#[]⟩, .slice none 0 0, .int .i64 0, .int .i64 0, .int .i64 0, .int .i64 0, .slice none 0 0, .int .i64 0] 100)
  have e1 := heap3_1 w (.cells #[.int .u8 a.k, .int .i64 a.n] 27) (.cells #[.int .u8 b.k, .int .i64 b.n] 27) (.cells #[.string ⟨#[]⟩, .int .i64 0, .int .u8 0, .int .i64 0, .int .u8 0, .string ⟨#[]⟩, .slice none 0 0, .int .i64 0, .int .i64 0, .int .i64 0, .int .i64 0, .slice none 0 0, .int .i64 0] 100)
  have e2 := heap3_2 w (.cells #[.int .u8 a.k, .int .i64 a.n] 27) (.cells #[.int .u8 b.k, .int .i64 b.n] 27) (.cells #[.string ⟨#[]⟩, .int .i64 0, .int .u8 0, .int .i64 0, .int .u8 0, .string ⟨#[]⟩, .slice none 0 0, .int .i64 0, .int .i64 0, .int .i64 0, .int .i64 0, .slice none 0 0, .int .i64 0] 100)
  obtain ⟨x0, x1⟩ := cell_row2 e0
  obtain ⟨u0, u1⟩ := cell_row2 e1
  have HDq : Hid _ := hd
  have N1 := neqI
  have N2 := neqI0
  have N3 := neqX
  have N4 := neqX0
  have N5 := neqA
  have N6 := neqA0
  clear hd
  go_enter Tryz.func53, Tryz.ntmps53
  go_wp2_with (first
    | (go_at_call 174; refine halt_here ?_))
  unfold Halted
  have hsz : (((w.alloc (.cells #[.int .u8 a.k, .int .i64 a.n] 27)).alloc (.cells #[.int .u8 b.k, .int .i64 b.n] 27)).alloc (.cells #[.string ⟨#[]⟩, .int .i64 0, .int .u8 0, .int .i64 0, .int .u8 0, .string ⟨#[]⟩, .slice none 0 0, .int .i64 0, .int .i64 0, .int .i64 0, .int .i64 0, .slice none 0 0, .int .i64 0] 100)).heap.size = w.heap.size + 1 + 1 + 1 := by simp
  generalize hW : ((w.alloc (.cells #[.int .u8 a.k, .int .i64 a.n] 27)).alloc (.cells #[.int .u8 b.k, .int .i64 b.n] 27)).alloc (.cells #[.string ⟨#[]⟩, .int .i64 0, .int .u8 0, .int .i64 0, .int .u8 0, .string ⟨#[]⟩, .slice none 0 0, .int .i64 0, .int .i64 0, .int .i64 0, .int .i64 0, .slice none 0 0, .int .i64 0] 100) = W at *
  clear hW
  have hnew := heap_alloc_new W (.cells #[.int .u8 a.k, .int .i64 a.n, .int .u8 b.k, .int .i64 b.n] 27)
  have hBY := below1 W (.cells #[.int .u8 a.k, .int .i64 a.n, .int .u8 b.k, .int .i64 b.n] 27)
  rw [hsz] at hnew
  clear hsz
  refine Calls.mono (anyCell_in (l := [a, b]) 2 (one_vals2 hnew) (by simp) false (no_cells2 ha7 hb7)) ?_
  rintro e w0 ⟨rfl, hB0⟩
  have hB' := hBY.trans (hB0.mono hBY.size)
  have hBw := hB.trans (hB'.mono hB.size)
  have f0 := (hB'.block _ (Array.getElem?_eq_some_iff.1 e0).1).trans e0
  have f1 := (hB'.block _ (Array.getElem?_eq_some_iff.1 e1).1).trans e1
  have f2 := (hB'.block _ (Array.getElem?_eq_some_iff.1 e2).1).trans e2
  have fg := (hBw.block _ (Array.getElem?_eq_some_iff.1 hg).1).trans hg
  clear x0 x1 u0 u1 e0 e1 e2 hnew hBY hB'
  have t0 := cell_sign fg (i := 3) (v := .func (.func 158) #[] #[]) (by rfl)
  have t1 := cell_sign fg (i := 4) (v := .func (.func 160) #[] #[]) (by rfl)
  have t2 := cell_sign fg (i := 5) (v := .nilFunc) (by rfl)
  have hBS := below1 w0 (.cells #[.func (.func 158) #[] #[], .func (.func 160) #[] #[], .nilFunc] 148)
  have hBw2 := hBw.trans (hBS.mono hBw.size)
  have g0 := (hBS.block _ (Array.getElem?_eq_some_iff.1 f0).1).trans f0
  have g1 := (hBS.block _ (Array.getElem?_eq_some_iff.1 f1).1).trans f1
  have g2 := (hBS.block _ (Array.getElem?_eq_some_iff.1 f2).1).trans f2
  have g3 := heap_alloc_new w0 (.cells #[.func (.func 158) #[] #[], .func (.func 160) #[] #[], .nilFunc] 148)
  obtain ⟨x0, x1⟩ := cell_row2 g0
  obtain ⟨u0, u1⟩ := cell_row2 g1
  obtain ⟨⟨s0, s1, s2⟩, -⟩ := cell_row3P g3
  clear hg fg
  have ha := H_ha.out
  clear H_ha
  have n_bk2 : ¬ ((b.k : Int) = 2) := by omega
  have b_bk2 : ((b.k : Int) == 2) = false := by simp; omega
  clear ha7 hb7 hb
  obtain ⟨ak, an⟩ := a
  simp only at ha
  subst ha
  simp only [show ((2 : Nat) : Int) = 2 from rfl] at x0 x1
  have H1 := fun (W : World) => throwsD HDq.out W
  unfold tKind at H1
  clear HDq
  go_wp2_with (first
    | (go_at_call 154; (with_reducible refine (H1 _).mono ?_); clear H1; rintro e w1 ⟨q, c_, q2, rfl, h1, h2, hB1⟩; have hr := (hB1.block _ (Array.getElem?_eq_some_iff.1 g2).1).trans g2; obtain ⟨⟨z0, z1, z2, z3, z4, z5, z6, z7, z8, z9, z10, z11, z12⟩, y0, y1, y2, y3, y4, y5, y6, y7, y8, y9, y10, y11, y12⟩ := cell_row13 hr))
  refine bodyPost_ret (results_cell_row (by rfl) _ _ (w.heap.size + 1 + 1) 100 _ _ _ (by rfl) (set13_row hr) Tryz.underlying100 (by rfl) infoDeed) (by rfl) ?_
  exact deed_fin hr (by omega) d h1 h2 (hBw2.trans (hB1.mono hBw2.size))

set_option maxRecDepth 20000 in
set_option maxHeartbeats 4000000 in
theorem sBin_k1c {p : Option Addr} {n : Nat} (c : Nat) {g : Nat} (hs : Sgn w g) (a b : Vl) (ha7 : a.k ≠ 7) (hb7 : b.k ≠ 7) (ha : a.k = 3) (hb : b.k ≠ 3) {d : Dd} (hd : d = thrD tKind) :
    Calls Tryz.prog 53 #[.slice (some ⟨g, 0, none⟩) 10 10, .slice p n c, .int .u8 1, .agg #[.int .u8 a.k, .int .i64 a.n], .agg #[.int .u8 b.k, .int .i64 b.n]] w (DeedR w d) := by
  have H_ha : Hid _ := ha
  clear ha
  obtain ⟨b4, b5, hg, -, -⟩ := hs
  have hB := below3' w (.cells #[.int .u8 a.k, .int .i64 a.n] 27) (.cells #[.int .u8 b.k, .int .i64 b.n] 27) (.cells #[.string ⟨#[]⟩, .int .i64 0, .int .u8 0, .int .i64 0, .int .u8 0, .string ⟨#[]⟩, .slice none 0 0, .int .i64 0, .int .i64 0, .int .i64 0, .int .i64 0, .slice none 0 0, .int .i64 0] 100)
  have e0 := heap3_0 w (.cells #[.int .u8 a.k, .int .i64 a.n] 27) (.cells #[.int .u8 b.k, .int .i64 b.n] 27) (.cells #[.string ⟨#[]⟩, .int .i64 0, .int .u8 0, .int .i64 0, .int .u8 0, .string ⟨#[]⟩, .slice none 0 0, .int .i64 0, .int .i64 0, .int .i64 0, .int .i64 0, .slice none 0 0, .int .i64 0] 100)
  have e1 := heap3_1 w (.cells #[.int .u8 a.k, .int .i64 a.n] 27) (.cells #[.int .u8 b.k, .int .i64 b.n] 27) (.cells #[.string ⟨#[]⟩, .int .i64 0, .int .u8 0, .int .i64 0, .int .u8 0, .string ⟨#[]⟩, .slice none 0 0, .int .i64 0, .int .i64 0, .int .i64 0, .int .i64 0, .slice none 0 0, .int .i64 0] 100)
  have e2 := heap3_2 w (.cells #[.int .u8 a.k, .int .i64 a.n] 27) (.cells #[.int .u8 b.k, .int .i64 b.n] 27) (.cells #[.string ⟨#[]⟩, .int .i64 0, .int .u8 0, .int .i64 0, .int .u8 0, .string ⟨#[]⟩, .slice none 0 0, .int .i64 0, .int .i64 0, .int .i64 0, .int .i64 0, .slice none 0 0, .int .i64 0] 100)
  obtain ⟨x0, x1⟩ := cell_row2 e0
  obtain ⟨u0, u1⟩ := cell_row2 e1
  have HDq : Hid _ := hd
  have N1 := neqI
  have N2 := neqI0
  have N3 := neqX
  have N4 := neqX0
  have N5 := neqA
  have N6 := neqA0
  clear hd
  go_enter Tryz.func53, Tryz.ntmps53
  go_wp2_with (first
    | (go_at_call 174; refine halt_here ?_))
  unfold Halted
  have hsz : (((w.alloc (.cells #[.int .u8 a.k, .int .i64 a.n] 27)).alloc (.cells #[.int .u8 b.k, .int .i64 b.n] 27)).alloc (.cells #[.string ⟨#[]⟩, .int .i64 0, .int .u8 0, .int .i64 0, .int .u8 0, .string ⟨#[]⟩, .slice none 0 0, .int .i64 0, .int .i64 0, .int .i64 0, .int .i64 0, .slice none 0 0, .int .i64 0] 100)).heap.size = w.heap.size + 1 + 1 + 1 := by simp
  generalize hW : ((w.alloc (.cells #[.int .u8 a.k, .int .i64 a.n] 27)).alloc (.cells #[.int .u8 b.k, .int .i64 b.n] 27)).alloc (.cells #[.string ⟨#[]⟩, .int .i64 0, .int .u8 0, .int .i64 0, .int .u8 0, .string ⟨#[]⟩, .slice none 0 0, .int .i64 0, .int .i64 0, .int .i64 0, .int .i64 0, .slice none 0 0, .int .i64 0] 100) = W at *
  clear hW
  have hnew := heap_alloc_new W (.cells #[.int .u8 a.k, .int .i64 a.n, .int .u8 b.k, .int .i64 b.n] 27)
  have hBY := below1 W (.cells #[.int .u8 a.k, .int .i64 a.n, .int .u8 b.k, .int .i64 b.n] 27)
  rw [hsz] at hnew
  clear hsz
  refine Calls.mono (anyCell_in (l := [a, b]) 2 (one_vals2 hnew) (by simp) false (no_cells2 ha7 hb7)) ?_
  rintro e w0 ⟨rfl, hB0⟩
  have hB' := hBY.trans (hB0.mono hBY.size)
  have hBw := hB.trans (hB'.mono hB.size)
  have f0 := (hB'.block _ (Array.getElem?_eq_some_iff.1 e0).1).trans e0
  have f1 := (hB'.block _ (Array.getElem?_eq_some_iff.1 e1).1).trans e1
  have f2 := (hB'.block _ (Array.getElem?_eq_some_iff.1 e2).1).trans e2
  have fg := (hBw.block _ (Array.getElem?_eq_some_iff.1 hg).1).trans hg
  clear x0 x1 u0 u1 e0 e1 e2 hnew hBY hB'
  have t0 := cell_sign fg (i := 3) (v := .func (.func 158) #[] #[]) (by rfl)
  have t1 := cell_sign fg (i := 4) (v := .func (.func 160) #[] #[]) (by rfl)
  have t2 := cell_sign fg (i := 5) (v := .nilFunc) (by rfl)
  have hBS := below1 w0 (.cells #[.func (.func 158) #[] #[], .func (.func 160) #[] #[], .nilFunc] 148)
  have hBw2 := hBw.trans (hBS.mono hBw.size)
  have g0 := (hBS.block _ (Array.getElem?_eq_some_iff.1 f0).1).trans f0
  have g1 := (hBS.block _ (Array.getElem?_eq_some_iff.1 f1).1).trans f1
  have g2 := (hBS.block _ (Array.getElem?_eq_some_iff.1 f2).1).trans f2
  have g3 := heap_alloc_new w0 (.cells #[.func (.func 158) #[] #[], .func (.func 160) #[] #[], .nilFunc] 148)
  obtain ⟨x0, x1⟩ := cell_row2 g0
  obtain ⟨u0, u1⟩ := cell_row2 g1
  obtain ⟨⟨s0, s1, s2⟩, -⟩ := cell_row3P g3
  clear hg fg
  have ha := H_ha.out
  clear H_ha
  have n_bk3 : ¬ ((b.k : Int) = 3) := by omega
  have b_bk3 : ((b.k : Int) == 3) = false := by simp; omega
  clear ha7 hb7 hb
  obtain ⟨ak, an⟩ := a
  simp only at ha
  subst ha
  simp only [show ((3 : Nat) : Int) = 3 from rfl] at x0 x1
  have H1 := fun (W : World) => throwsD HDq.out W
  unfold tKind at H1
  clear HDq
  go_wp2_with (first
    | (go_at_call 154; (with_reducible refine (H1 _).mono ?_); clear H1; rintro e w1 ⟨q, c_, q2, rfl, h1, h2, hB1⟩; have hr := (hB1.block _ (Array.getElem?_eq_some_iff.1 g2).1).trans g2; obtain ⟨⟨z0, z1, z2, z3, z4, z5, z6, z7, z8, z9, z10, z11, z12⟩, y0, y1, y2, y3, y4, y5, y6, y7, y8, y9, y10, y11, y12⟩ := cell_row13 hr))
  refine bodyPost_ret (results_cell_row (by rfl) _ _ (w.heap.size + 1 + 1) 100 _ _ _ (by rfl) (set13_row hr) Tryz.underlying100 (by rfl) infoDeed) (by rfl) ?_
  exact deed_fin hr (by omega) d h1 h2 (hBw2.trans (hB1.mono hBw2.size))

set_option maxRecDepth 20000 in
set_option maxHeartbeats 4000000 in
theorem sBin_k6a {p : Option Addr} {n : Nat} (c : Nat) {g : Nat} (hs : Sgn w g) (a b : Vl) (ha7 : a.k ≠ 7) (hb7 : b.k ≠ 7) (ha : a.k ≠ 2) (hb : a.k ≠ 3) {d : Dd} (hd : d = thrD tKind) :
    Calls Tryz.prog 53 #[.slice (some ⟨g, 0, none⟩) 10 10, .slice p n c, .int .u8 6, .agg #[.int .u8 a.k, .int .i64 a.n], .agg #[.int .u8 b.k, .int .i64 b.n]] w (DeedR w d) := by
  obtain ⟨b4, b5, hg, -, -⟩ := hs
  have hB := below3' w (.cells #[.int .u8 a.k, .int .i64 a.n] 27) (.cells #[.int .u8 b.k, .int .i64 b.n] 27) (.cells #[.string ⟨#[]⟩, .int .i64 0, .int .u8 0, .int .i64 0, .int .u8 0, .string ⟨#[]⟩, .slice none 0 0, .int .i64 0, .int .i64 0, .int .i64 0, .int .i64 0, .slice none 0 0, .int .i64 0] 100)
  have e0 := heap3_0 w (.cells #[.int .u8 a.k, .int .i64 a.n] 27) (.cells #[.int .u8 b.k, .int .i64 b.n] 27) (.cells #[.string ⟨#[]⟩, .int .i64 0, .int .u8 0, .int .i64 0, .int .u8 0, .string ⟨#[]⟩, .slice none 0 0, .int .i64 0, .int .i64 0, .int .i64 0, .int .i64 0, .slice none 0 0, .int .i64 0] 100)
  have e1 := heap3_1 w (.cells #[.int .u8 a.k, .int .i64 a.n] 27) (.cells #[.int .u8 b.k, .int .i64 b.n] 27) (.cells #[.string ⟨#[]⟩, .int .i64 0, .int .u8 0, .int .i64 0, .int .u8 0, .string ⟨#[]⟩, .slice none 0 0, .int .i64 0, .int .i64 0, .int .i64 0, .int .i64 0, .slice none 0 0, .int .i64 0] 100)
  have e2 := heap3_2 w (.cells #[.int .u8 a.k, .int .i64 a.n] 27) (.cells #[.int .u8 b.k, .int .i64 b.n] 27) (.cells #[.string ⟨#[]⟩, .int .i64 0, .int .u8 0, .int .i64 0, .int .u8 0, .string ⟨#[]⟩, .slice none 0 0, .int .i64 0, .int .i64 0, .int .i64 0, .int .i64 0, .slice none 0 0, .int .i64 0] 100)
  obtain ⟨x0, x1⟩ := cell_row2 e0
  obtain ⟨u0, u1⟩ := cell_row2 e1
  have HDq : Hid _ := hd
  have N1 := neqI
  have N2 := neqI0
  have N3 := neqX
  have N4 := neqX0
  have N5 := neqA
  have N6 := neqA0
  clear hd
  go_enter Tryz.func53, Tryz.ntmps53
  go_wp2_with (first
    | (go_at_call 174; refine halt_here ?_))
  unfold Halted
  have hsz : (((w.alloc (.cells #[.int .u8 a.k, .int .i64 a.n] 27)).alloc (.cells #[.int .u8 b.k, .int .i64 b.n] 27)).alloc (.cells #[.string ⟨#[]⟩, .int .i64 0, .int .u8 0, .int .i64 0, .int .u8 0, .string ⟨#[]⟩, .slice none 0 0, .int .i64 0, .int .i64 0, .int .i64 0, .int .i64 0, .slice none 0 0, .int .i64 0] 100)).heap.size = w.heap.size + 1 + 1 + 1 := by simp
  generalize hW : ((w.alloc (.cells #[.int .u8 a.k, .int .i64 a.n] 27)).alloc (.cells #[.int .u8 b.k, .int .i64 b.n] 27)).alloc (.cells #[.string ⟨#[]⟩, .int .i64 0, .int .u8 0, .int .i64 0, .int .u8 0, .string ⟨#[]⟩, .slice none 0 0, .int .i64 0, .int .i64 0, .int .i64 0, .int .i64 0, .slice none 0 0, .int .i64 0] 100) = W at *
  clear hW
  have hnew := heap_alloc_new W (.cells #[.int .u8 a.k, .int .i64 a.n, .int .u8 b.k, .int .i64 b.n] 27)
  have hBY := below1 W (.cells #[.int .u8 a.k, .int .i64 a.n, .int .u8 b.k, .int .i64 b.n] 27)
  rw [hsz] at hnew
  clear hsz
  refine Calls.mono (anyCell_in (l := [a, b]) 2 (one_vals2 hnew) (by simp) false (no_cells2 ha7 hb7)) ?_
  rintro e w0 ⟨rfl, hB0⟩
  have hB' := hBY.trans (hB0.mono hBY.size)
  have hBw := hB.trans (hB'.mono hB.size)
  have f0 := (hB'.block _ (Array.getElem?_eq_some_iff.1 e0).1).trans e0
  have f1 := (hB'.block _ (Array.getElem?_eq_some_iff.1 e1).1).trans e1
  have f2 := (hB'.block _ (Array.getElem?_eq_some_iff.1 e2).1).trans e2
  have fg := (hBw.block _ (Array.getElem?_eq_some_iff.1 hg).1).trans hg
  clear x0 x1 u0 u1 e0 e1 e2 hnew hBY hB'
  have t0 := cell_sign fg (i := 18) (v := .func (.func 166) #[] #[]) (by rfl)
  have t1 := cell_sign fg (i := 19) (v := .func (.func 168) #[] #[]) (by rfl)
  have t2 := cell_sign fg (i := 20) (v := .nilFunc) (by rfl)
  have hBS := below1 w0 (.cells #[.func (.func 166) #[] #[], .func (.func 168) #[] #[], .nilFunc] 148)
  have hBw2 := hBw.trans (hBS.mono hBw.size)
  have g0 := (hBS.block _ (Array.getElem?_eq_some_iff.1 f0).1).trans f0
  have g1 := (hBS.block _ (Array.getElem?_eq_some_iff.1 f1).1).trans f1
  have g2 := (hBS.block _ (Array.getElem?_eq_some_iff.1 f2).1).trans f2
  have g3 := heap_alloc_new w0 (.cells #[.func (.func 166) #[] #[], .func (.func 168) #[] #[], .nilFunc] 148)
  obtain ⟨x0, x1⟩ := cell_row2 g0
  obtain ⟨u0, u1⟩ := cell_row2 g1
  obtain ⟨⟨s0, s1, s2⟩, -⟩ := cell_row3P g3
  clear hg fg
  have n_ak2 : ¬ ((a.k : Int) = 2) := by omega
  have b_ak2 : ((a.k : Int) == 2) = false := by simp; omega
  have n_ak3 : ¬ ((a.k : Int) = 3) := by omega
  have b_ak3 : ((a.k : Int) == 3) = false := by simp; omega
  clear ha7 hb7 ha hb
  have H1 := fun (W : World) => throwsD HDq.out W
  unfold tKind at H1
  clear HDq
  go_wp2_with (first
    | (go_at_call 154; (with_reducible refine (H1 _).mono ?_); clear H1; rintro e w1 ⟨q, c_, q2, rfl, h1, h2, hB1⟩; have hr := (hB1.block _ (Array.getElem?_eq_some_iff.1 g2).1).trans g2; obtain ⟨⟨z0, z1, z2, z3, z4, z5, z6, z7, z8, z9, z10, z11, z12⟩, y0, y1, y2, y3, y4, y5, y6, y7, y8, y9, y10, y11, y12⟩ := cell_row13 hr))
  refine bodyPost_ret (results_cell_row (by rfl) _ _ (w.heap.size + 1 + 1) 100 _ _ _ (by rfl) (set13_row hr) Tryz.underlying100 (by rfl) infoDeed) (by rfl) ?_
  exact deed_fin hr (by omega) d h1 h2 (hBw2.trans (hB1.mono hBw2.size))

set_option maxRecDepth 20000 in
set_option maxHeartbeats 4000000 in
theorem sBin_k6b {p : Option Addr} {n : Nat} (c : Nat) {g : Nat} (hs : Sgn w g) (a b : Vl) (ha7 : a.k ≠ 7) (hb7 : b.k ≠ 7) (ha : a.k = 2) (hb : b.k ≠ 2) {d : Dd} (hd : d = thrD tKind) :
    Calls Tryz.prog 53 #[.slice (some ⟨g, 0, none⟩) 10 10, .slice p n c, .int .u8 6, .agg #[.int .u8 a.k, .int .i64 a.n], .agg #[.int .u8 b.k, .int .i64 b.n]] w (DeedR w d) := by
  have H_ha : Hid _ := ha
  clear ha
  obtain ⟨b4, b5, hg, -, -⟩ := hs
  have hB := below3' w (.cells #[.int .u8 a.k, .int .i64 a.n] 27) (.cells #[.int .u8 b.k, .int .i64 b.n] 27) (.cells #[.string ⟨#[]⟩, .int .i64 0, .int .u8 0, .int .i64 0, .int .u8 0, .string ⟨#[]⟩, .slice none 0 0, .int .i64 0, .int .i64 0, .int .i64 0, .int .i64 0, .slice none 0 0, .int .i64 0] 100)
  have e0 := heap3_0 w (.cells #[.int .u8 a.k, .int .i64 a.n] 27) (.cells #[.int .u8 b.k, .int .i64 b.n] 27) (.cells #[.string ⟨#[]⟩, .int .i64 0, .int .u8 0, .int .i64 0, .int .u8 0, .string ⟨#[]⟩, .slice none 0 0, .int .i64 0, .int .i64 0, .int .i64 0, .int .i64 0, .slice none 0 0, .int .i64 0] 100)
  have e1 := heap3_1 w (.cells #[.int .u8 a.k, .int .i64 a.n] 27) (.cells #[.int .u8 b.k, .int .i64 b.n] 27) (.cells #[.string ⟨#[]⟩, .int .i64 0, .int .u8 0, .int .i64 0, .int .u8 0, .string ⟨#[]⟩, .slice none 0 0, .int .i64 0, .int .i64 0, .int .i64 0, .int .i64 0, .slice none 0 0, .int .i64 0] 100)
  have e2 := heap3_2 w (.cells #[.int .u8 a.k, .int .i64 a.n] 27) (.cells #[.int .u8 b.k, .int .i64 b.n] 27) (.cells #[.string ⟨#[]⟩, .int .i64 0, .int .u8 0, .int .i64 0, .int .u8 0, .string ⟨#[]⟩, .slice none 0 0, .int .i64 0, .int .i64 0, .int .i64 0, .int .i64 0, .slice none 0 0, .int .i64 0] 100)
  obtain ⟨x0, x1⟩ := cell_row2 e0
  obtain ⟨u0, u1⟩ := cell_row2 e1
  have HDq : Hid _ := hd
  have N1 := neqI
  have N2 := neqI0
  have N3 := neqX
  have N4 := neqX0
  have N5 := neqA
  have N6 := neqA0
  clear hd
  go_enter Tryz.func53, Tryz.ntmps53
  go_wp2_with (first
    | (go_at_call 174; refine halt_here ?_))
  unfold Halted
  have hsz : (((w.alloc (.cells #[.int .u8 a.k, .int .i64 a.n] 27)).alloc (.cells #[.int .u8 b.k, .int .i64 b.n] 27)).alloc (.cells #[.string ⟨#[]⟩, .int .i64 0, .int .u8 0, .int .i64 0, .int .u8 0, .string ⟨#[]⟩, .slice none 0 0, .int .i64 0, .int .i64 0, .int .i64 0, .int .i64 0, .slice none 0 0, .int .i64 0] 100)).heap.size = w.heap.size + 1 + 1 + 1 := by simp
  generalize hW : ((w.alloc (.cells #[.int .u8 a.k, .int .i64 a.n] 27)).alloc (.cells #[.int .u8 b.k, .int .i64 b.n] 27)).alloc (.cells #[.string ⟨#[]⟩, .int .i64 0, .int .u8 0, .int .i64 0, .int .u8 0, .string ⟨#[]⟩, .slice none 0 0, .int .i64 0, .int .i64 0, .int .i64 0, .int .i64 0, .slice none 0 0, .int .i64 0] 100) = W at *
  clear hW
  have hnew := heap_alloc_new W (.cells #[.int .u8 a.k, .int .i64 a.n, .int .u8 b.k, .int .i64 b.n] 27)
  have hBY := below1 W (.cells #[.int .u8 a.k, .int .i64 a.n, .int .u8 b.k, .int .i64 b.n] 27)
  rw [hsz] at hnew
  clear hsz
  refine Calls.mono (anyCell_in (l := [a, b]) 2 (one_vals2 hnew) (by simp) false (no_cells2 ha7 hb7)) ?_
  rintro e w0 ⟨rfl, hB0⟩
  have hB' := hBY.trans (hB0.mono hBY.size)
  have hBw := hB.trans (hB'.mono hB.size)
  have f0 := (hB'.block _ (Array.getElem?_eq_some_iff.1 e0).1).trans e0
  have f1 := (hB'.block _ (Array.getElem?_eq_some_iff.1 e1).1).trans e1
  have f2 := (hB'.block _ (Array.getElem?_eq_some_iff.1 e2).1).trans e2
  have fg := (hBw.block _ (Array.getElem?_eq_some_iff.1 hg).1).trans hg
  clear x0 x1 u0 u1 e0 e1 e2 hnew hBY hB'
  have t0 := cell_sign fg (i := 18) (v := .func (.func 166) #[] #[]) (by rfl)
  have t1 := cell_sign fg (i := 19) (v := .func (.func 168) #[] #[]) (by rfl)
  have t2 := cell_sign fg (i := 20) (v := .nilFunc) (by rfl)
  have hBS := below1 w0 (.cells #[.func (.func 166) #[] #[], .func (.func 168) #[] #[], .nilFunc] 148)
  have hBw2 := hBw.trans (hBS.mono hBw.size)
  have g0 := (hBS.block _ (Array.getElem?_eq_some_iff.1 f0).1).trans f0
  have g1 := (hBS.block _ (Array.getElem?_eq_some_iff.1 f1).1).trans f1
  have g2 := (hBS.block _ (Array.getElem?_eq_some_iff.1 f2).1).trans f2
  have g3 := heap_alloc_new w0 (.cells #[.func (.func 166) #[] #[], .func (.func 168) #[] #[], .nilFunc] 148)
  obtain ⟨x0, x1⟩ := cell_row2 g0
  obtain ⟨u0, u1⟩ := cell_row2 g1
  obtain ⟨⟨s0, s1, s2⟩, -⟩ := cell_row3P g3
  clear hg fg
  have ha := H_ha.out
  clear H_ha
  have n_bk2 : ¬ ((b.k : Int) = 2) := by omega
  have b_bk2 : ((b.k : Int) == 2) = false := by simp; omega
  clear ha7 hb7 hb
  obtain ⟨ak, an⟩ := a
  simp only at ha
  subst ha
  simp only [show ((2 : Nat) : Int) = 2 from rfl] at x0 x1
  have H1 := fun (W : World) => throwsD HDq.out W
  unfold tKind at H1
  clear HDq
  go_wp2_with (first
    | (go_at_call 154; (with_reducible refine (H1 _).mono ?_); clear H1; rintro e w1 ⟨q, c_, q2, rfl, h1, h2, hB1⟩; have hr := (hB1.block _ (Array.getElem?_eq_some_iff.1 g2).1).trans g2; obtain ⟨⟨z0, z1, z2, z3, z4, z5, z6, z7, z8, z9, z10, z11, z12⟩, y0, y1, y2, y3, y4, y5, y6, y7, y8, y9, y10, y11, y12⟩ := cell_row13 hr))
  refine bodyPost_ret (results_cell_row (by rfl) _ _ (w.heap.size + 1 + 1) 100 _ _ _ (by rfl) (set13_row hr) Tryz.underlying100 (by rfl) infoDeed) (by rfl) ?_
  exact deed_fin hr (by omega) d h1 h2 (hBw2.trans (hB1.mono hBw2.size))

set_option maxRecDepth 20000 in
set_option maxHeartbeats 4000000 in
theorem sBin_k6c {p : Option Addr} {n : Nat} (c : Nat) {g : Nat} (hs : Sgn w g) (a b : Vl) (ha7 : a.k ≠ 7) (hb7 : b.k ≠ 7) (ha : a.k = 3) (hb : b.k ≠ 3) {d : Dd} (hd : d = thrD tKind) :
    Calls Tryz.prog 53 #[.slice (some ⟨g, 0, none⟩) 10 10, .slice p n c, .int .u8 6, .agg #[.int .u8 a.k, .int .i64 a.n], .agg #[.int .u8 b.k, .int .i64 b.n]] w (DeedR w d) := by
  have H_ha : Hid _ := ha
  clear ha
  obtain ⟨b4, b5, hg, -, -⟩ := hs
  have hB := below3' w (.cells #[.int .u8 a.k, .int .i64 a.n] 27) (.cells #[.int .u8 b.k, .int .i64 b.n] 27) (.cells #[.string ⟨#[]⟩, .int .i64 0, .int .u8 0, .int .i64 0, .int .u8 0, .string ⟨#[]⟩, .slice none 0 0, .int .i64 0, .int .i64 0, .int .i64 0, .int .i64 0, .slice none 0 0, .int .i64 0] 100)
  have e0 := heap3_0 w (.cells #[.int .u8 a.k, .int .i64 a.n] 27) (.cells #[.int .u8 b.k, .int .i64 b.n] 27) (.cells #[.string ⟨#[]⟩, .int .i64 0, .int .u8 0, .int .i64 0, .int .u8 0, .string ⟨#[]⟩, .slice none 0 0, .int .i64 0, .int .i64 0, .int .i64 0, .int .i64 0, .slice none 0 0, .int .i64 0] 100)
  have e1 := heap3_1 w (.cells #[.int .u8 a.k, .int .i64 a.n] 27) (.cells #[.int .u8 b.k, .int .i64 b.n] 27) (.cells #[.string ⟨#[]⟩, .int .i64 0, .int .u8 0, .int .i64 0, .int .u8 0, .string ⟨#[]⟩, .slice none 0 0, .int .i64 0, .int .i64 0, .int .i64 0, .int .i64 0, .slice none 0 0, .int .i64 0] 100)
  have e2 := heap3_2 w (.cells #[.int .u8 a.k, .int .i64 a.n] 27) (.cells #[.int .u8 b.k, .int .i64 b.n] 27) (.cells #[.string ⟨#[]⟩, .int .i64 0, .int .u8 0, .int .i64 0, .int .u8 0, .string ⟨#[]⟩, .slice none 0 0, .int .i64 0, .int .i64 0, .int .i64 0, .int .i64 0, .slice none 0 0, .int .i64 0] 100)
  obtain ⟨x0, x1⟩ := cell_row2 e0
  obtain ⟨u0, u1⟩ := cell_row2 e1
  have HDq : Hid _ := hd
  have N1 := neqI
  have N2 := neqI0
  have N3 := neqX
  have N4 := neqX0
  have N5 := neqA
  have N6 := neqA0
  clear hd
  go_enter Tryz.func53, Tryz.ntmps53
  go_wp2_with (first
    | (go_at_call 174; refine halt_here ?_))
  unfold Halted
  have hsz : (((w.alloc (.cells #[.int .u8 a.k, .int .i64 a.n] 27)).alloc (.cells #[.int .u8 b.k, .int .i64 b.n] 27)).alloc (.cells #[.string ⟨#[]⟩, .int .i64 0, .int .u8 0, .int .i64 0, .int .u8 0, .string ⟨#[]⟩, .slice none 0 0, .int .i64 0, .int .i64 0, .int .i64 0, .int .i64 0, .slice none 0 0, .int .i64 0] 100)).heap.size = w.heap.size + 1 + 1 + 1 := by simp
  generalize hW : ((w.alloc (.cells #[.int .u8 a.k, .int .i64 a.n] 27)).alloc (.cells #[.int .u8 b.k, .int .i64 b.n] 27)).alloc (.cells #[.string ⟨#[]⟩, .int .i64 0, .int .u8 0, .int .i64 0, .int .u8 0, .string ⟨#[]⟩, .slice none 0 0, .int .i64 0, .int .i64 0, .int .i64 0, .int .i64 0, .slice none 0 0, .int .i64 0] 100) = W at *
  clear hW
  have hnew := heap_alloc_new W (.cells #[.int .u8 a.k, .int .i64 a.n, .int .u8 b.k, .int .i64 b.n] 27)
  have hBY := below1 W (.cells #[.int .u8 a.k, .int .i64 a.n, .int .u8 b.k, .int .i64 b.n] 27)
  rw [hsz] at hnew
  clear hsz
  refine Calls.mono (anyCell_in (l := [a, b]) 2 (one_vals2 hnew) (by simp) false (no_cells2 ha7 hb7)) ?_
  rintro e w0 ⟨rfl, hB0⟩
  have hB' := hBY.trans (hB0.mono hBY.size)
  have hBw := hB.trans (hB'.mono hB.size)
  have f0 := (hB'.block _ (Array.getElem?_eq_some_iff.1 e0).1).trans e0
  have f1 := (hB'.block _ (Array.getElem?_eq_some_iff.1 e1).1).trans e1
  have f2 := (hB'.block _ (Array.getElem?_eq_some_iff.1 e2).1).trans e2
  have fg := (hBw.block _ (Array.getElem?_eq_some_iff.1 hg).1).trans hg
  clear x0 x1 u0 u1 e0 e1 e2 hnew hBY hB'
  have t0 := cell_sign fg (i := 18) (v := .func (.func 166) #[] #[]) (by rfl)
  have t1 := cell_sign fg (i := 19) (v := .func (.func 168) #[] #[]) (by rfl)
  have t2 := cell_sign fg (i := 20) (v := .nilFunc) (by rfl)
  have hBS := below1 w0 (.cells #[.func (.func 166) #[] #[], .func (.func 168) #[] #[], .nilFunc] 148)
  have hBw2 := hBw.trans (hBS.mono hBw.size)
  have g0 := (hBS.block _ (Array.getElem?_eq_some_iff.1 f0).1).trans f0
  have g1 := (hBS.block _ (Array.getElem?_eq_some_iff.1 f1).1).trans f1
  have g2 := (hBS.block _ (Array.getElem?_eq_some_iff.1 f2).1).trans f2
  have g3 := heap_alloc_new w0 (.cells #[.func (.func 166) #[] #[], .func (.func 168) #[] #[], .nilFunc] 148)
  obtain ⟨x0, x1⟩ := cell_row2 g0
  obtain ⟨u0, u1⟩ := cell_row2 g1
  obtain ⟨⟨s0, s1, s2⟩, -⟩ := cell_row3P g3
  clear hg fg
  have ha := H_ha.out
  clear H_ha
  have n_bk3 : ¬ ((b.k : Int) = 3) := by omega
  have b_bk3 : ((b.k : Int) == 3) = false := by simp; omega
  clear ha7 hb7 hb
  obtain ⟨ak, an⟩ := a
  simp only at ha
  subst ha
  simp only [show ((3 : Nat) : Int) = 3 from rfl] at x0 x1
  have H1 := fun (W : World) => throwsD HDq.out W
  unfold tKind at H1
  clear HDq
  go_wp2_with (first
    | (go_at_call 154; (with_reducible refine (H1 _).mono ?_); clear H1; rintro e w1 ⟨q, c_, q2, rfl, h1, h2, hB1⟩; have hr := (hB1.block _ (Array.getElem?_eq_some_iff.1 g2).1).trans g2; obtain ⟨⟨z0, z1, z2, z3, z4, z5, z6, z7, z8, z9, z10, z11, z12⟩, y0, y1, y2, y3, y4, y5, y6, y7, y8, y9, y10, y11, y12⟩ := cell_row13 hr))
  refine bodyPost_ret (results_cell_row (by rfl) _ _ (w.heap.size + 1 + 1) 100 _ _ _ (by rfl) (set13_row hr) Tryz.underlying100 (by rfl) infoDeed) (by rfl) ?_
  exact deed_fin hr (by omega) d h1 h2 (hBw2.trans (hB1.mono hBw2.size))

set_option maxRecDepth 20000 in
set_option maxHeartbeats 4000000 in
theorem sBin_k7a {p : Option Addr} {n : Nat} (c : Nat) {g : Nat} (hs : Sgn w g) (a b : Vl) (ha7 : a.k ≠ 7) (hb7 : b.k ≠ 7) (ha : a.k ≠ 2) (hb : a.k ≠ 3) {d : Dd} (hd : d = thrD tKind) :
    Calls Tryz.prog 53 #[.slice (some ⟨g, 0, none⟩) 10 10, .slice p n c, .int .u8 7, .agg #[.int .u8 a.k, .int .i64 a.n], .agg #[.int .u8 b.k, .int .i64 b.n]] w (DeedR w d) := by
  obtain ⟨b4, b5, hg, -, -⟩ := hs
  have hB := below3' w (.cells #[.int .u8 a.k, .int .i64 a.n] 27) (.cells #[.int .u8 b.k, .int .i64 b.n] 27) (.cells #[.string ⟨#[]⟩, .int .i64 0, .int .u8 0, .int .i64 0, .int .u8 0, .string ⟨#[]⟩, .slice none 0 0, .int .i64 0, .int .i64 0, .int .i64 0, .int .i64 0, .slice none 0 0, .int .i64 0] 100)
  have e0 := heap3_0 w (.cells #[.int .u8 a.k, .int .i64 a.n] 27) (.cells #[.int .u8 b.k, .int .i64 b.n] 27) (.cells #[.string ⟨#[]⟩, .int .i64 0, .int .u8 0, .int .i64 0, .int .u8 0, .string ⟨#[]⟩, .slice none 0 0, .int .i64 0, .int .i64 0, .int .i64 0, .int .i64 0, .slice none 0 0, .int .i64 0] 100)
  have e1 := heap3_1 w (.cells #[.int .u8 a.k, .int .i64 a.n] 27) (.cells #[.int .u8 b.k, .int .i64 b.n] 27) (.cells #[.string ⟨#[]⟩, .int .i64 0, .int .u8 0, .int .i64 0, .int .u8 0, .string ⟨#[]⟩, .slice none 0 0, .int .i64 0, .int .i64 0, .int .i64 0, .int .i64 0, .slice none 0 0, .int .i64 0] 100)
  have e2 := heap3_2 w (.cells #[.int .u8 a.k, .int .i64 a.n] 27) (.cells #[.int .u8 b.k, .int .i64 b.n] 27) (.cells #[.string ⟨#[]⟩, .int .i64 0, .int .u8 0, .int .i64 0, .int .u8 0, .string ⟨#[]⟩, .slice none 0 0, .int .i64 0, .int .i64 0, .int .i64 0, .int .i64 0, .slice none 0 0, .int .i64 0] 100)
  obtain ⟨x0, x1⟩ := cell_row2 e0
  obtain ⟨u0, u1⟩ := cell_row2 e1
  have HDq : Hid _ := hd
  have N1 := neqI
  have N2 := neqI0
  have N3 := neqX
  have N4 := neqX0
  have N5 := neqA
  have N6 := neqA0
  clear hd
  go_enter Tryz.func53, Tryz.ntmps53
  go_wp2_with (first
    | (go_at_call 174; refine halt_here ?_))
  unfold Halted
  have hsz : (((w.alloc (.cells #[.int .u8 a.k, .int .i64 a.n] 27)).alloc (.cells #[.int .u8 b.k, .int .i64 b.n] 27)).alloc (.cells #[.string ⟨#[]⟩, .int .i64 0, .int .u8 0, .int .i64 0, .int .u8 0, .string ⟨#[]⟩, .slice none 0 0, .int .i64 0, .int .i64 0, .int .i64 0, .int .i64 0, .slice none 0 0, .int .i64 0] 100)).heap.size = w.heap.size + 1 + 1 + 1 := by simp
  generalize hW : ((w.alloc (.cells #[.int .u8 a.k, .int .i64 a.n] 27)).alloc (.cells #[.int .u8 b.k, .int .i64 b.n] 27)).alloc (.cells #[.string ⟨#[]⟩, .int .i64 0, .int .u8 0, .int .i64 0, .int .u8 0, .string ⟨#[]⟩, .slice none 0 0, .int .i64 0, .int .i64 0, .int .i64 0, .int .i64 0, .slice none 0 0, .int .i64 0] 100) = W at *
  clear hW
  have hnew := heap_alloc_new W (.cells #[.int .u8 a.k, .int .i64 a.n, .int .u8 b.k, .int .i64 b.n] 27)
  have hBY := below1 W (.cells #[.int .u8 a.k, .int .i64 a.n, .int .u8 b.k, .int .i64 b.n] 27)
  rw [hsz] at hnew
  clear hsz
  refine Calls.mono (anyCell_in (l := [a, b]) 2 (one_vals2 hnew) (by simp) false (no_cells2 ha7 hb7)) ?_
  rintro e w0 ⟨rfl, hB0⟩
  have hB' := hBY.trans (hB0.mono hBY.size)
  have hBw := hB.trans (hB'.mono hB.size)
  have f0 := (hB'.block _ (Array.getElem?_eq_some_iff.1 e0).1).trans e0
  have f1 := (hB'.block _ (Array.getElem?_eq_some_iff.1 e1).1).trans e1
  have f2 := (hB'.block _ (Array.getElem?_eq_some_iff.1 e2).1).trans e2
  have fg := (hBw.block _ (Array.getElem?_eq_some_iff.1 hg).1).trans hg
  clear x0 x1 u0 u1 e0 e1 e2 hnew hBY hB'
  have t0 := cell_sign fg (i := 21) (v := .func (.func 169) #[] #[]) (by rfl)
  have t1 := cell_sign fg (i := 22) (v := .func (.func 170) #[] #[]) (by rfl)
  have t2 := cell_sign fg (i := 23) (v := .nilFunc) (by rfl)
  have hBS := below1 w0 (.cells #[.func (.func 169) #[] #[], .func (.func 170) #[] #[], .nilFunc] 148)
  have hBw2 := hBw.trans (hBS.mono hBw.size)
  have g0 := (hBS.block _ (Array.getElem?_eq_some_iff.1 f0).1).trans f0
  have g1 := (hBS.block _ (Array.getElem?_eq_some_iff.1 f1).1).trans f1
  have g2 := (hBS.block _ (Array.getElem?_eq_some_iff.1 f2).1).trans f2
  have g3 := heap_alloc_new w0 (.cells #[.func (.func 169) #[] #[], .func (.func 170) #[] #[], .nilFunc] 148)
  obtain ⟨x0, x1⟩ := cell_row2 g0
  obtain ⟨u0, u1⟩ := cell_row2 g1
  obtain ⟨⟨s0, s1, s2⟩, -⟩ := cell_row3P g3
  clear hg fg
  have n_ak2 : ¬ ((a.k : Int) = 2) := by omega
  have b_ak2 : ((a.k : Int) == 2) = false := by simp; omega
  have n_ak3 : ¬ ((a.k : Int) = 3) := by omega
  have b_ak3 : ((a.k : Int) == 3) = false := by simp; omega
  clear ha7 hb7 ha hb
  have H1 := fun (W : World) => throwsD HDq.out W
  unfold tKind at H1
  clear HDq
  go_wp2_with (first
    | (go_at_call 154; (with_reducible refine (H1 _).mono ?_); clear H1; rintro e w1 ⟨q, c_, q2, rfl, h1, h2, hB1⟩; have hr := (hB1.block _ (Array.getElem?_eq_some_iff.1 g2).1).trans g2; obtain ⟨⟨z0, z1, z2, z3, z4, z5, z6, z7, z8, z9, z10, z11, z12⟩, y0, y1, y2, y3, y4, y5, y6, y7, y8, y9, y10, y11, y12⟩ := cell_row13 hr))
  refine bodyPost_ret (results_cell_row (by rfl) _ _ (w.heap.size + 1 + 1) 100 _ _ _ (by rfl) (set13_row hr) Tryz.underlying100 (by rfl) infoDeed) (by rfl) ?_
  exact deed_fin hr (by omega) d h1 h2 (hBw2.trans (hB1.mono hBw2.size))

set_option maxRecDepth 20000 in
set_option maxHeartbeats 4000000 in
theorem sBin_k7b {p : Option Addr} {n : Nat} (c : Nat) {g : Nat} (hs : Sgn w g) (a b : Vl) (ha7 : a.k ≠ 7) (hb7 : b.k ≠ 7) (ha : a.k = 2) (hb : b.k ≠ 2) {d : Dd} (hd : d = thrD tKind) :
    Calls Tryz.prog 53 #[.slice (some ⟨g, 0, none⟩) 10 10, .slice p n c, .int .u8 7, .agg #[.int .u8 a.k, .int .i64 a.n], .agg #[.int .u8 b.k, .int .i64 b.n]] w (DeedR w d) := by
  have H_ha : Hid _ := ha
  clear ha
  obtain ⟨b4, b5, hg, -, -⟩ := hs
  have hB := below3' w (.cells #[.int .u8 a.k, .int .i64 a.n] 27) (.cells #[.int .u8 b.k, .int .i64 b.n] 27) (.cells #[.string ⟨#[]⟩, .int .i64 0, .int .u8 0, .int .i64 0, .int .u8 0, .string ⟨#[]⟩, .slice none 0 0, .int .i64 0, .int .i64 0, .int .i64 0, .int .i64 0, .slice none 0 0, .int .i64 0] 100)
  have e0 := heap3_0 w (.cells #[.int .u8 a.k, .int .i64 a.n] 27) (.cells #[.int .u8 b.k, .int .i64 b.n] 27) (.cells #[.string ⟨#[]⟩, .int .i64 0, .int .u8 0, .int .i64 0, .int .u8 0, .string ⟨#[]⟩, .slice none 0 0, .int .i64 0, .int .i64 0, .int .i64 0, .int .i64 0, .slice none 0 0, .int .i64 0] 100)
  have e1 := heap3_1 w (.cells #[.int .u8 a.k, .int .i64 a.n] 27) (.cells #[.int .u8 b.k, .int .i64 b.n] 27) (.cells #[.string ⟨#[]⟩, .int .i64 0, .int .u8 0, .int .i64 0, .int .u8 0, .string ⟨#[]⟩, .slice none 0 0, .int .i64 0, .int .i64 0, .int .i64 0, .int .i64 0, .slice none 0 0, .int .i64 0] 100)
  have e2 := heap3_2 w (.cells #[.int .u8 a.k, .int .i64 a.n] 27) (.cells #[.int .u8 b.k, .int .i64 b.n] 27) (.cells #[.string ⟨#[]⟩, .int .i64 0, .int .u8 0, .int .i64 0, .int .u8 0, .string ⟨#[]⟩, .slice none 0 0, .int .i64 0, .int .i64 0, .int .i64 0, .int .i64 0, .slice none 0 0, .int .i64 0] 100)
  obtain ⟨x0, x1⟩ := cell_row2 e0
  obtain ⟨u0, u1⟩ := cell_row2 e1
  have HDq : Hid _ := hd
  have N1 := neqI
  have N2 := neqI0
  have N3 := neqX
  have N4 := neqX0
  have N5 := neqA
  have N6 := neqA0
  clear hd
  go_enter Tryz.func53, Tryz.ntmps53
  go_wp2_with (first
    | (go_at_call 174; refine halt_here ?_))
  unfold Halted
  have hsz : (((w.alloc (.cells #[.int .u8 a.k, .int .i64 a.n] 27)).alloc (.cells #[.int .u8 b.k, .int .i64 b.n] 27)).alloc (.cells #[.string ⟨#[]⟩, .int .i64 0, .int .u8 0, .int .i64 0, .int .u8 0, .string ⟨#[]⟩, .slice none 0 0, .int .i64 0, .int .i64 0, .int .i64 0, .int .i64 0, .slice none 0 0, .int .i64 0] 100)).heap.size = w.heap.size + 1 + 1 + 1 := by simp
  generalize hW : ((w.alloc (.cells #[.int .u8 a.k, .int .i64 a.n] 27)).alloc (.cells #[.int .u8 b.k, .int .i64 b.n] 27)).alloc (.cells #[.string ⟨#[]⟩, .int .i64 0, .int .u8 0, .int .i64 0, .int .u8 0, .string ⟨#[]⟩, .slice none 0 0, .int .i64 0, .int .i64 0, .int .i64 0, .int .i64 0, .slice none 0 0, .int .i64 0] 100) = W at *
  clear hW
  have hnew := heap_alloc_new W (.cells #[.int .u8 a.k, .int .i64 a.n, .int .u8 b.k, .int .i64 b.n] 27)
  have hBY := below1 W (.cells #[.int .u8 a.k, .int .i64 a.n, .int .u8 b.k, .int .i64 b.n] 27)
  rw [hsz] at hnew
  clear hsz
  refine Calls.mono (anyCell_in (l := [a, b]) 2 (one_vals2 hnew) (by simp) false (no_cells2 ha7 hb7)) ?_
  rintro e w0 ⟨rfl, hB0⟩
  have hB' := hBY.trans (hB0.mono hBY.size)
  have hBw := hB.trans (hB'.mono hB.size)
  have f0 := (hB'.block _ (Array.getElem?_eq_some_iff.1 e0).1).trans e0
  have f1 := (hB'.block _ (Array.getElem?_eq_some_iff.1 e1).1).trans e1
  have f2 := (hB'.block _ (Array.getElem?_eq_some_iff.1 e2).1).trans e2
  have fg := (hBw.block _ (Array.getElem?_eq_some_iff.1 hg).1).trans hg
  clear x0 x1 u0 u1 e0 e1 e2 hnew hBY hB'
  have t0 := cell_sign fg (i := 21) (v := .func (.func 169) #[] #[]) (by rfl)
  have t1 := cell_sign fg (i := 22) (v := .func (.func 170) #[] #[]) (by rfl)
  have t2 := cell_sign fg (i := 23) (v := .nilFunc) (by rfl)
  have hBS := below1 w0 (.cells #[.func (.func 169) #[] #[], .func (.func 170) #[] #[], .nilFunc] 148)
  have hBw2 := hBw.trans (hBS.mono hBw.size)
  have g0 := (hBS.block _ (Array.getElem?_eq_some_iff.1 f0).1).trans f0
  have g1 := (hBS.block _ (Array.getElem?_eq_some_iff.1 f1).1).trans f1
  have g2 := (hBS.block _ (Array.getElem?_eq_some_iff.1 f2).1).trans f2
  have g3 := heap_alloc_new w0 (.cells #[.func (.func 169) #[] #[], .func (.func 170) #[] #[], .nilFunc] 148)
  obtain ⟨x0, x1⟩ := cell_row2 g0
  obtain ⟨u0, u1⟩ := cell_row2 g1
  obtain ⟨⟨s0, s1, s2⟩, -⟩ := cell_row3P g3
  clear hg fg
  have ha := H_ha.out
  clear H_ha
  have n_bk2 : ¬ ((b.k : Int) = 2) := by omega
  have b_bk2 : ((b.k : Int) == 2) = false := by simp; omega
  clear ha7 hb7 hb
  obtain ⟨ak, an⟩ := a
  simp only at ha
  subst ha
  simp only [show ((2 : Nat) : Int) = 2 from rfl] at x0 x1
  have H1 := fun (W : World) => throwsD HDq.out W
  unfold tKind at H1
  clear HDq
  go_wp2_with (first
    | (go_at_call 154; (with_reducible refine (H1 _).mono ?_); clear H1; rintro e w1 ⟨q, c_, q2, rfl, h1, h2, hB1⟩; have hr := (hB1.block _ (Array.getElem?_eq_some_iff.1 g2).1).trans g2; obtain ⟨⟨z0, z1, z2, z3, z4, z5, z6, z7, z8, z9, z10, z11, z12⟩, y0, y1, y2, y3, y4, y5, y6, y7, y8, y9, y10, y11, y12⟩ := cell_row13 hr))
  refine bodyPost_ret (results_cell_row (by rfl) _ _ (w.heap.size + 1 + 1) 100 _ _ _ (by rfl) (set13_row hr) Tryz.underlying100 (by rfl) infoDeed) (by rfl) ?_
  exact deed_fin hr (by omega) d h1 h2 (hBw2.trans (hB1.mono hBw2.size))

set_option maxRecDepth 20000 in
set_option maxHeartbeats 4000000 in
theorem sBin_k7c {p : Option Addr} {n : Nat} (c : Nat) {g : Nat} (hs : Sgn w g) (a b : Vl) (ha7 : a.k ≠ 7) (hb7 : b.k ≠ 7) (ha : a.k = 3) (hb : b.k ≠ 3) {d : Dd} (hd : d = thrD tKind) :
    Calls Tryz.prog 53 #[.slice (some ⟨g, 0, none⟩) 10 10, .slice p n c, .int .u8 7, .agg #[.int .u8 a.k, .int .i64 a.n], .agg #[.int .u8 b.k, .int .i64 b.n]] w (DeedR w d) := by
  have H_ha : Hid _ := ha
  clear ha
  obtain ⟨b4, b5, hg, -, -⟩ := hs
  have hB := below3' w (.cells #[.int .u8 a.k, .int .i64 a.n] 27) (.cells #[.int .u8 b.k, .int .i64 b.n] 27) (.cells #[.string ⟨#[]⟩, .int .i64 0, .int .u8 0, .int .i64 0, .int .u8 0, .string ⟨#[]⟩, .slice none 0 0, .int .i64 0, .int .i64 0, .int .i64 0, .int .i64 0, .slice none 0 0, .int .i64 0] 100)
  have e0 := heap3_0 w (.cells #[.int .u8 a.k, .int .i64 a.n] 27) (.cells #[.int .u8 b.k, .int .i64 b.n] 27) (.cells #[.string ⟨#[]⟩, .int .i64 0, .int .u8 0, .int .i64 0, .int .u8 0, .string ⟨#[]⟩, .slice none 0 0, .int .i64 0, .int .i64 0, .int .i64 0, .int .i64 0, .slice none 0 0, .int .i64 0] 100)
  have e1 := heap3_1 w (.cells #[.int .u8 a.k, .int .i64 a.n] 27) (.cells #[.int .u8 b.k, .int .i64 b.n] 27) (.cells #[.string ⟨#[]⟩, .int .i64 0, .int .u8 0, .int .i64 0, .int .u8 0, .string ⟨#[]⟩, .slice none 0 0, .int .i64 0, .int .i64 0, .int .i64 0, .int .i64 0, .slice none 0 0, .int .i64 0] 100)
  have e2 := heap3_2 w (.cells #[.int .u8 a.k, .int .i64 a.n] 27) (.cells #[.int .u8 b.k, .int .i64 b.n] 27) (.cells #[.string ⟨#[]⟩, .int .i64 0, .int .u8 0, .int .i64 0, .int .u8 0, .string ⟨#[]⟩, .slice none 0 0, .int .i64 0, .int .i64 0, .int .i64 0, .int .i64 0, .slice none 0 0, .int .i64 0] 100)
  obtain ⟨x0, x1⟩ := cell_row2 e0
  obtain ⟨u0, u1⟩ := cell_row2 e1
  have HDq : Hid _ := hd
  have N1 := neqI
  have N2 := neqI0
  have N3 := neqX
  have N4 := neqX0
  have N5 := neqA
  have N6 := neqA0
  clear hd
  go_enter Tryz.func53, Tryz.ntmps53
  go_wp2_with (first
    | (go_at_call 174; refine halt_here ?_))
  unfold Halted
  have hsz : (((w.alloc (.cells #[.int .u8 a.k, .int .i64 a.n] 27)).alloc (.cells #[.int .u8 b.k, .int .i64 b.n] 27)).alloc (.cells #[.string ⟨#[]⟩, .int .i64 0, .int .u8 0, .int .i64 0, .int .u8 0, .string ⟨#[]⟩, .slice none 0 0, .int .i64 0, .int .i64 0, .int .i64 0, .int .i64 0, .slice none 0 0, .int .i64 0] 100)).heap.size = w.heap.size + 1 + 1 + 1 := by simp
  generalize hW : ((w.alloc (.cells #[.int .u8 a.k, .int .i64 a.n] 27)).alloc (.cells #[.int .u8 b.k, .int .i64 b.n] 27)).alloc (.cells #[.string ⟨#[]⟩, .int .i64 0, .int .u8 0, .int .i64 0, .int .u8 0, .string ⟨#[]⟩, .slice none 0 0, .int .i64 0, .int .i64 0, .int .i64 0, .int .i64 0, .slice none 0 0, .int .i64 0] 100) = W at *
  clear hW
  have hnew := heap_alloc_new W (.cells #[.int .u8 a.k, .int .i64 a.n, .int .u8 b.k, .int .i64 b.n] 27)
  have hBY := below1 W (.cells #[.int .u8 a.k, .int .i64 a.n, .int .u8 b.k, .int .i64 b.n] 27)
  rw [hsz] at hnew
  clear hsz
  refine Calls.mono (anyCell_in (l := [a, b]) 2 (one_vals2 hnew) (by simp) false (no_cells2 ha7 hb7)) ?_
  rintro e w0 ⟨rfl, hB0⟩
  have hB' := hBY.trans (hB0.mono hBY.size)
  have hBw := hB.trans (hB'.mono hB.size)
  have f0 := (hB'.block _ (Array.getElem?_eq_some_iff.1 e0).1).trans e0
  have f1 := (hB'.block _ (Array.getElem?_eq_some_iff.1 e1).1).trans e1
  have f2 := (hB'.block _ (Array.getElem?_eq_some_iff.1 e2).1).trans e2
  have fg := (hBw.block _ (Array.getElem?_eq_some_iff.1 hg).1).trans hg
  clear x0 x1 u0 u1 e0 e1 e2 hnew hBY hB'
  have t0 := cell_sign fg (i := 21) (v := .func (.func 169) #[] #[]) (by rfl)
  have t1 := cell_sign fg (i := 22) (v := .func (.func 170) #[] #[]) (by rfl)
  have t2 := cell_sign fg (i := 23) (v := .nilFunc) (by rfl)
  have hBS := below1 w0 (.cells #[.func (.func 169) #[] #[], .func (.func 170) #[] #[], .nilFunc] 148)
  have hBw2 := hBw.trans (hBS.mono hBw.size)
  have g0 := (hBS.block _ (Array.getElem?_eq_some_iff.1 f0).1).trans f0
  have g1 := (hBS.block _ (Array.getElem?_eq_some_iff.1 f1).1).trans f1
  have g2 := (hBS.block _ (Array.getElem?_eq_some_iff.1 f2).1).trans f2
  have g3 := heap_alloc_new w0 (.cells #[.func (.func 169) #[] #[], .func (.func 170) #[] #[], .nilFunc] 148)
  obtain ⟨x0, x1⟩ := cell_row2 g0
  obtain ⟨u0, u1⟩ := cell_row2 g1
  obtain ⟨⟨s0, s1, s2⟩, -⟩ := cell_row3P g3
  clear hg fg
  have ha := H_ha.out
  clear H_ha
  have n_bk3 : ¬ ((b.k : Int) = 3) := by omega
  have b_bk3 : ((b.k : Int) == 3) = false := by simp; omega
  clear ha7 hb7 hb
  obtain ⟨ak, an⟩ := a
  simp only at ha
  subst ha
  simp only [show ((3 : Nat) : Int) = 3 from rfl] at x0 x1
  have H1 := fun (W : World) => throwsD HDq.out W
  unfold tKind at H1
  clear HDq
  go_wp2_with (first
    | (go_at_call 154; (with_reducible refine (H1 _).mono ?_); clear H1; rintro e w1 ⟨q, c_, q2, rfl, h1, h2, hB1⟩; have hr := (hB1.block _ (Array.getElem?_eq_some_iff.1 g2).1).trans g2; obtain ⟨⟨z0, z1, z2, z3, z4, z5, z6, z7, z8, z9, z10, z11, z12⟩, y0, y1, y2, y3, y4, y5, y6, y7, y8, y9, y10, y11, y12⟩ := cell_row13 hr))
  refine bodyPost_ret (results_cell_row (by rfl) _ _ (w.heap.size + 1 + 1) 100 _ _ _ (by rfl) (set13_row hr) Tryz.underlying100 (by rfl) infoDeed) (by rfl) ?_
  exact deed_fin hr (by omega) d h1 h2 (hBw2.trans (hB1.mono hBw2.size))


end Go.Proofs.YtgokofomoachaaaGreatDoor
