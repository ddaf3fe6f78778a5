/- plain: signs on whole numbers. -/
import Derived.Test.YtgokofomoachaaaGreatDoorPnPut2
import Derived.Laws.EntriesVeiled
namespace Go.Proofs.YtgokofomoachaaaGreatDoor
set_option linter.unusedVariables false
set_option linter.unusedSimpArgs false
open Go.RowKit

variable {w : World}

set_option maxRecDepth 20000 in
set_option maxHeartbeats 1000000 in
theorem sAdd_in (a b : Int) (w : World) {d : Dd} (hd : d = wholeD (wrap64 (a + b))) : Calls Tryz.prog 158 #[.int .i64 a, .int .i64 b] w (DeedR w d) := by
  have hB := below1 w (.cells #[.string ⟨#[]⟩, .int .i64 0, .int .u8 0, .int .i64 0, .int .u8 0, .string ⟨#[]⟩, .slice none 0 0, .int .i64 0, .int .i64 0, .int .i64 0, .int .i64 0, .slice none 0 0, .int .i64 0] 100)
  have hb := heap_alloc_new w (.cells #[.string ⟨#[]⟩, .int .i64 0, .int .u8 0, .int .i64 0, .int .u8 0, .string ⟨#[]⟩, .slice none 0 0, .int .i64 0, .int .i64 0, .int .i64 0, .int .i64 0, .slice none 0 0, .int .i64 0] 100)
  have H1 := wholeD_in _ (w.alloc (.cells #[.string ⟨#[]⟩, .int .i64 0, .int .u8 0, .int .i64 0, .int .u8 0, .string ⟨#[]⟩, .slice none 0 0, .int .i64 0, .int .i64 0, .int .i64 0, .int .i64 0, .slice none 0 0, .int .i64 0] 100)) hd
  clear hd
  go_enter Tryz.func158, Tryz.ntmps158
  go_wp2_with (first
    | (go_at_call 159; (with_reducible refine H1.mono ?_); clear H1; rintro e w1 ⟨q, c_, q2, rfl, h1, h2, hB1⟩; have hr := (hB1.block _ (Array.getElem?_eq_some_iff.1 hb).1).trans hb; obtain ⟨⟨z0, z1, z2, z3, z4, z5, z6, z7, z8, z9, z10, z11, z12⟩, y0, y1, y2, y3, y4, y5, y6, y7, y8, y9, y10, y11, y12⟩ := cell_row13 hr))
  refine bodyPost_ret (results_cell_row (by rfl) _ _ (w.heap.size) 100 _ _ _ (by rfl) (set13_row hr) Tryz.underlying100 (by rfl) infoDeed) (by rfl) ?_
  exact deed_fin hr (by omega) d h1 h2 (hB.trans (hB1.mono hB.size))

set_option maxRecDepth 20000 in
set_option maxHeartbeats 1000000 in
theorem sSub_in (a b : Int) (w : World) {d : Dd} (hd : d = wholeD (wrap64 (a - b))) : Calls Tryz.prog 161 #[.int .i64 a, .int .i64 b] w (DeedR w d) := by
  have hB := below1 w (.cells #[.string ⟨#[]⟩, .int .i64 0, .int .u8 0, .int .i64 0, .int .u8 0, .string ⟨#[]⟩, .slice none 0 0, .int .i64 0, .int .i64 0, .int .i64 0, .int .i64 0, .slice none 0 0, .int .i64 0] 100)
  have hb := heap_alloc_new w (.cells #[.string ⟨#[]⟩, .int .i64 0, .int .u8 0, .int .i64 0, .int .u8 0, .string ⟨#[]⟩, .slice none 0 0, .int .i64 0, .int .i64 0, .int .i64 0, .int .i64 0, .slice none 0 0, .int .i64 0] 100)
  have H1 := wholeD_in _ (w.alloc (.cells #[.string ⟨#[]⟩, .int .i64 0, .int .u8 0, .int .i64 0, .int .u8 0, .string ⟨#[]⟩, .slice none 0 0, .int .i64 0, .int .i64 0, .int .i64 0, .int .i64 0, .slice none 0 0, .int .i64 0] 100)) hd
  clear hd
  go_enter Tryz.func161, Tryz.ntmps161
  go_wp2_with (first
    | (go_at_call 159; (with_reducible refine H1.mono ?_); clear H1; rintro e w1 ⟨q, c_, q2, rfl, h1, h2, hB1⟩; have hr := (hB1.block _ (Array.getElem?_eq_some_iff.1 hb).1).trans hb; obtain ⟨⟨z0, z1, z2, z3, z4, z5, z6, z7, z8, z9, z10, z11, z12⟩, y0, y1, y2, y3, y4, y5, y6, y7, y8, y9, y10, y11, y12⟩ := cell_row13 hr))
  refine bodyPost_ret (results_cell_row (by rfl) _ _ (w.heap.size) 100 _ _ _ (by rfl) (set13_row hr) Tryz.underlying100 (by rfl) infoDeed) (by rfl) ?_
  exact deed_fin hr (by omega) d h1 h2 (hB.trans (hB1.mono hB.size))

set_option maxRecDepth 20000 in
set_option maxHeartbeats 1000000 in
theorem sMul_in (a b : Int) (w : World) {d : Dd} (hd : d = wholeD (wrap64 (a * b))) : Calls Tryz.prog 162 #[.int .i64 a, .int .i64 b] w (DeedR w d) := by
  have hB := below1 w (.cells #[.string ⟨#[]⟩, .int .i64 0, .int .u8 0, .int .i64 0, .int .u8 0, .string ⟨#[]⟩, .slice none 0 0, .int .i64 0, .int .i64 0, .int .i64 0, .int .i64 0, .slice none 0 0, .int .i64 0] 100)
  have hb := heap_alloc_new w (.cells #[.string ⟨#[]⟩, .int .i64 0, .int .u8 0, .int .i64 0, .int .u8 0, .string ⟨#[]⟩, .slice none 0 0, .int .i64 0, .int .i64 0, .int .i64 0, .int .i64 0, .slice none 0 0, .int .i64 0] 100)
  have H1 := wholeD_in _ (w.alloc (.cells #[.string ⟨#[]⟩, .int .i64 0, .int .u8 0, .int .i64 0, .int .u8 0, .string ⟨#[]⟩, .slice none 0 0, .int .i64 0, .int .i64 0, .int .i64 0, .int .i64 0, .slice none 0 0, .int .i64 0] 100)) hd
  clear hd
  go_enter Tryz.func162, Tryz.ntmps162
  go_wp2_with (first
    | (go_at_call 159; (with_reducible refine H1.mono ?_); clear H1; rintro e w1 ⟨q, c_, q2, rfl, h1, h2, hB1⟩; have hr := (hB1.block _ (Array.getElem?_eq_some_iff.1 hb).1).trans hb; obtain ⟨⟨z0, z1, z2, z3, z4, z5, z6, z7, z8, z9, z10, z11, z12⟩, y0, y1, y2, y3, y4, y5, y6, y7, y8, y9, y10, y11, y12⟩ := cell_row13 hr))
  refine bodyPost_ret (results_cell_row (by rfl) _ _ (w.heap.size) 100 _ _ _ (by rfl) (set13_row hr) Tryz.underlying100 (by rfl) infoDeed) (by rfl) ?_
  exact deed_fin hr (by omega) d h1 h2 (hB.trans (hB1.mono hB.size))

set_option maxRecDepth 20000 in
set_option maxHeartbeats 1000000 in
theorem sLess_in (a b : Int) (w : World) {d : Dd} (hd : d = truthD (decide (a < b))) : Calls Tryz.prog 166 #[.int .i64 a, .int .i64 b] w (DeedR w d) := by
  have hB := below1 w (.cells #[.string ⟨#[]⟩, .int .i64 0, .int .u8 0, .int .i64 0, .int .u8 0, .string ⟨#[]⟩, .slice none 0 0, .int .i64 0, .int .i64 0, .int .i64 0, .int .i64 0, .slice none 0 0, .int .i64 0] 100)
  have hb := heap_alloc_new w (.cells #[.string ⟨#[]⟩, .int .i64 0, .int .u8 0, .int .i64 0, .int .u8 0, .string ⟨#[]⟩, .slice none 0 0, .int .i64 0, .int .i64 0, .int .i64 0, .int .i64 0, .slice none 0 0, .int .i64 0] 100)
  have H1 := truthD_in _ (w.alloc (.cells #[.string ⟨#[]⟩, .int .i64 0, .int .u8 0, .int .i64 0, .int .u8 0, .string ⟨#[]⟩, .slice none 0 0, .int .i64 0, .int .i64 0, .int .i64 0, .int .i64 0, .slice none 0 0, .int .i64 0] 100)) hd
  clear hd
  go_enter Tryz.func166, Tryz.ntmps166
  go_wp2_with (first
    | (go_at_call 167; (with_reducible refine H1.mono ?_); clear H1; rintro e w1 ⟨q, c_, q2, rfl, h1, h2, hB1⟩; have hr := (hB1.block _ (Array.getElem?_eq_some_iff.1 hb).1).trans hb; obtain ⟨⟨z0, z1, z2, z3, z4, z5, z6, z7, z8, z9, z10, z11, z12⟩, y0, y1, y2, y3, y4, y5, y6, y7, y8, y9, y10, y11, y12⟩ := cell_row13 hr))
  refine bodyPost_ret (results_cell_row (by rfl) _ _ (w.heap.size) 100 _ _ _ (by rfl) (set13_row hr) Tryz.underlying100 (by rfl) infoDeed) (by rfl) ?_
  exact deed_fin hr (by omega) d h1 h2 (hB.trans (hB1.mono hB.size))

set_option maxRecDepth 20000 in
set_option maxHeartbeats 1000000 in
theorem sMost_in (a b : Int) (w : World) {d : Dd} (hd : d = truthD (decide (a ≤ b))) : Calls Tryz.prog 169 #[.int .i64 a, .int .i64 b] w (DeedR w d) := by
  have hB := below1 w (.cells #[.string ⟨#[]⟩, .int .i64 0, .int .u8 0, .int .i64 0, .int .u8 0, .string ⟨#[]⟩, .slice none 0 0, .int .i64 0, .int .i64 0, .int .i64 0, .int .i64 0, .slice none 0 0, .int .i64 0] 100)
  have hb := heap_alloc_new w (.cells #[.string ⟨#[]⟩, .int .i64 0, .int .u8 0, .int .i64 0, .int .u8 0, .string ⟨#[]⟩, .slice none 0 0, .int .i64 0, .int .i64 0, .int .i64 0, .int .i64 0, .slice none 0 0, .int .i64 0] 100)
  have H1 := truthD_in _ (w.alloc (.cells #[.string ⟨#[]⟩, .int .i64 0, .int .u8 0, .int .i64 0, .int .u8 0, .string ⟨#[]⟩, .slice none 0 0, .int .i64 0, .int .i64 0, .int .i64 0, .int .i64 0, .slice none 0 0, .int .i64 0] 100)) hd
  clear hd
  go_enter Tryz.func169, Tryz.ntmps169
  go_wp2_with (first
    | (go_at_call 167; (with_reducible refine H1.mono ?_); clear H1; rintro e w1 ⟨q, c_, q2, rfl, h1, h2, hB1⟩; have hr := (hB1.block _ (Array.getElem?_eq_some_iff.1 hb).1).trans hb; obtain ⟨⟨z0, z1, z2, z3, z4, z5, z6, z7, z8, z9, z10, z11, z12⟩, y0, y1, y2, y3, y4, y5, y6, y7, y8, y9, y10, y11, y12⟩ := cell_row13 hr))
  refine bodyPost_ret (results_cell_row (by rfl) _ _ (w.heap.size) 100 _ _ _ (by rfl) (set13_row hr) Tryz.underlying100 (by rfl) infoDeed) (by rfl) ?_
  exact deed_fin hr (by omega) d h1 h2 (hB.trans (hB1.mono hB.size))

set_option maxHeartbeats 1000000 in
theorem sQuo_in (a b : Int) (hb : b ≠ 0) (w : World) : Calls Tryz.prog 164 #[.int .i64 a, .int .i64 b] w fun e w' => e = .returned (.int .i64 (wrap64 (Int.tdiv a b))) ∧ w' = w := by
  have hb' : (b == 0) = false := by simpa using hb
  go_enter Tryz.func164, Tryz.ntmps164
  go_wp2
  go_ret
  exact ⟨rfl, rfl⟩

set_option maxHeartbeats 1000000 in
theorem sRem_in (a b : Int) (hb : b ≠ 0) (w : World) : Calls Tryz.prog 165 #[.int .i64 a, .int .i64 b] w fun e w' => e = .returned (.int .i64 (Int.tmod a b)) ∧ w' = w := by
  have hb' : (b == 0) = false := by simpa using hb
  go_enter Tryz.func165, Tryz.ntmps165
  go_wp2
  go_ret
  exact ⟨rfl, rfl⟩

theorem unlessZero_in (f : Nat) (w : World) : Calls Tryz.prog 163 #[.func (.func f) #[] #[]] w fun e w' => e = .returned (.func (.func 243) #[] #[.pointer (some ⟨w.heap.size, 0, none⟩)]) ∧ w' = w.alloc (.cells #[.func (.func f) #[] #[]] 150) := by
  go_enter Tryz.func163, Tryz.ntmps163
  go_wp2
  go_ret
  exact ⟨rfl, rfl⟩

set_option maxRecDepth 20000 in
set_option maxHeartbeats 1000000 in
theorem divided_zero (a : Int) (B : Nat) (w : World) {d : Dd} (hd : d = thrD tZero) : Calls Tryz.prog 243 #[.int .i64 a, .int .i64 0, .pointer (some ⟨B, 0, none⟩)] w (DeedR w d) := by
  have hB := below1 w (.cells #[.string ⟨#[]⟩, .int .i64 0, .int .u8 0, .int .i64 0, .int .u8 0, .string ⟨#[]⟩, .slice none 0 0, .int .i64 0, .int .i64 0, .int .i64 0, .int .i64 0, .slice none 0 0, .int .i64 0] 100)
  have hb := heap_alloc_new w (.cells #[.string ⟨#[]⟩, .int .i64 0, .int .u8 0, .int .i64 0, .int .u8 0, .string ⟨#[]⟩, .slice none 0 0, .int .i64 0, .int .i64 0, .int .i64 0, .int .i64 0, .slice none 0 0, .int .i64 0] 100)
  have H1 := throwsD hd (w.alloc (.cells #[.string ⟨#[]⟩, .int .i64 0, .int .u8 0, .int .i64 0, .int .u8 0, .string ⟨#[]⟩, .slice none 0 0, .int .i64 0, .int .i64 0, .int .i64 0, .int .i64 0, .slice none 0 0, .int .i64 0] 100))
  unfold tZero at H1
  clear hd
  go_enter Tryz.func243, Tryz.ntmps243
  go_wp2_with (first
    | (go_at_call 154; (with_reducible refine H1.mono ?_); clear H1; rintro e w1 ⟨q, c_, q2, rfl, h1, h2, hB1⟩; have hr := (hB1.block _ (Array.getElem?_eq_some_iff.1 hb).1).trans hb; obtain ⟨⟨z0, z1, z2, z3, z4, z5, z6, z7, z8, z9, z10, z11, z12⟩, y0, y1, y2, y3, y4, y5, y6, y7, y8, y9, y10, y11, y12⟩ := cell_row13 hr))
  refine bodyPost_ret (results_cell_row (by rfl) _ _ (w.heap.size) 100 _ _ _ (by rfl) (set13_row hr) Tryz.underlying100 (by rfl) infoDeed) (by rfl) ?_
  exact deed_fin hr (by omega) d h1 h2 (hB.trans (hB1.mono hB.size))

set_option maxRecDepth 20000 in
set_option maxHeartbeats 1000000 in
theorem divided_Quo (a b : Int) (hb0 : b ≠ 0) {B : Nat} (hB0 : w.heap[B]? = some (.cells #[.func (.func 164) #[] #[]] 150 (0, 0))) {d : Dd} (hd : d = wholeD (wrap64 (Int.tdiv a b))) : Calls Tryz.prog 243 #[.int .i64 a, .int .i64 b, .pointer (some ⟨B, 0, none⟩)] w (DeedR w d) := by
  have hB := below1 w (.cells #[.string ⟨#[]⟩, .int .i64 0, .int .u8 0, .int .i64 0, .int .u8 0, .string ⟨#[]⟩, .slice none 0 0, .int .i64 0, .int .i64 0, .int .i64 0, .int .i64 0, .slice none 0 0, .int .i64 0] 100)
  have hb := heap_alloc_new w (.cells #[.string ⟨#[]⟩, .int .i64 0, .int .u8 0, .int .i64 0, .int .u8 0, .string ⟨#[]⟩, .slice none 0 0, .int .i64 0, .int .i64 0, .int .i64 0, .int .i64 0, .slice none 0 0, .int .i64 0] 100)
  have HQ := fun (W : World) => sQuo_in a b hb0 W
  have H1 := wholeD_in _ (w.alloc (.cells #[.string ⟨#[]⟩, .int .i64 0, .int .u8 0, .int .i64 0, .int .u8 0, .string ⟨#[]⟩, .slice none 0 0, .int .i64 0, .int .i64 0, .int .i64 0, .int .i64 0, .slice none 0 0, .int .i64 0] 100)) hd
  have hx := (hB.block _ (Array.getElem?_eq_some_iff.1 hB0).1).trans hB0
  obtain ⟨x0, -⟩ := cell_row1 hx
  have hb' : (b == 0) = false := by simpa using hb0
  clear hd
  go_enter Tryz.func243, Tryz.ntmps243
  go_wp2_with (first
    | (go_at_call 164; (with_reducible refine (HQ _).mono ?_); clear HQ; rintro e w0 ⟨rfl, rfl⟩)
    | (go_at_call 159; (with_reducible refine H1.mono ?_); clear H1; rintro e w1 ⟨q, c_, q2, rfl, h1, h2, hB1⟩; have hr := (hB1.block _ (Array.getElem?_eq_some_iff.1 hb).1).trans hb; obtain ⟨⟨z0, z1, z2, z3, z4, z5, z6, z7, z8, z9, z10, z11, z12⟩, y0, y1, y2, y3, y4, y5, y6, y7, y8, y9, y10, y11, y12⟩ := cell_row13 hr))
  refine bodyPost_ret (results_cell_row (by rfl) _ _ (w.heap.size) 100 _ _ _ (by rfl) (set13_row hr) Tryz.underlying100 (by rfl) infoDeed) (by rfl) ?_
  exact deed_fin hr (by omega) d h1 h2 (hB.trans (hB1.mono hB.size))

set_option maxRecDepth 20000 in
set_option maxHeartbeats 1000000 in
theorem divided_Rem (a b : Int) (hb0 : b ≠ 0) {B : Nat} (hB0 : w.heap[B]? = some (.cells #[.func (.func 165) #[] #[]] 150 (0, 0))) {d : Dd} (hd : d = wholeD (Int.tmod a b)) : Calls Tryz.prog 243 #[.int .i64 a, .int .i64 b, .pointer (some ⟨B, 0, none⟩)] w (DeedR w d) := by
  have hB := below1 w (.cells #[.string ⟨#[]⟩, .int .i64 0, .int .u8 0, .int .i64 0, .int .u8 0, .string ⟨#[]⟩, .slice none 0 0, .int .i64 0, .int .i64 0, .int .i64 0, .int .i64 0, .slice none 0 0, .int .i64 0] 100)
  have hb := heap_alloc_new w (.cells #[.string ⟨#[]⟩, .int .i64 0, .int .u8 0, .int .i64 0, .int .u8 0, .string ⟨#[]⟩, .slice none 0 0, .int .i64 0, .int .i64 0, .int .i64 0, .int .i64 0, .slice none 0 0, .int .i64 0] 100)
  have HQ := fun (W : World) => sRem_in a b hb0 W
  have H1 := wholeD_in _ (w.alloc (.cells #[.string ⟨#[]⟩, .int .i64 0, .int .u8 0, .int .i64 0, .int .u8 0, .string ⟨#[]⟩, .slice none 0 0, .int .i64 0, .int .i64 0, .int .i64 0, .int .i64 0, .slice none 0 0, .int .i64 0] 100)) hd
  have hx := (hB.block _ (Array.getElem?_eq_some_iff.1 hB0).1).trans hB0
  obtain ⟨x0, -⟩ := cell_row1 hx
  have hb' : (b == 0) = false := by simpa using hb0
  clear hd
  go_enter Tryz.func243, Tryz.ntmps243
  go_wp2_with (first
    | (go_at_call 165; (with_reducible refine (HQ _).mono ?_); clear HQ; rintro e w0 ⟨rfl, rfl⟩)
    | (go_at_call 159; (with_reducible refine H1.mono ?_); clear H1; rintro e w1 ⟨q, c_, q2, rfl, h1, h2, hB1⟩; have hr := (hB1.block _ (Array.getElem?_eq_some_iff.1 hb).1).trans hb; obtain ⟨⟨z0, z1, z2, z3, z4, z5, z6, z7, z8, z9, z10, z11, z12⟩, y0, y1, y2, y3, y4, y5, y6, y7, y8, y9, y10, y11, y12⟩ := cell_row13 hr))
  refine bodyPost_ret (results_cell_row (by rfl) _ _ (w.heap.size) 100 _ _ _ (by rfl) (set13_row hr) Tryz.underlying100 (by rfl) infoDeed) (by rfl) ?_
  exact deed_fin hr (by omega) d h1 h2 (hB.trans (hB1.mono hB.size))

/-- The signs' functions, as a table. -/
def fnV (n : Nat) : Value := .func (.func n) #[] #[]

def signRow (b4 b5 : Nat) : Array Value := #[.nilFunc, .nilFunc, .nilFunc, fnV 158, fnV 160, .nilFunc, fnV 161, .nilFunc, .nilFunc, fnV 162, .nilFunc, .nilFunc, .func (.func 243) #[] #[.pointer (some ⟨b4, 0, none⟩)], .nilFunc, .nilFunc, .func (.func 243) #[] #[.pointer (some ⟨b5, 0, none⟩)], .nilFunc, .nilFunc, fnV 166, fnV 168, .nilFunc, fnV 169, fnV 170, .nilFunc, .nilFunc, .nilFunc, fnV 171, .nilFunc, .nilFunc, fnV 173]

/-- The table in memory. -/
def Sgn (w : World) (g : Nat) : Prop := ∃ b4 b5, w.heap[g]? = some (.cells (signRow b4 b5) 148 (0, 0)) ∧ w.heap[b4]? = some (.cells #[fnV 164] 150 (0, 0)) ∧ w.heap[b5]? = some (.cells #[fnV 165] 150 (0, 0))

theorem Sgn.below {g : Nat} (h : Sgn w g) {w' : World} (hB : Below w.heap.size w w') : Sgn w' g := by
  obtain ⟨b4, b5, h1, h2, h3⟩ := h
  exact ⟨b4, b5, (hB.block _ (Array.getElem?_eq_some_iff.1 h1).1).trans h1, (hB.block _ (Array.getElem?_eq_some_iff.1 h2).1).trans h2, (hB.block _ (Array.getElem?_eq_some_iff.1 h3).1).trans h3⟩

set_option maxRecDepth 20000 in
set_option maxHeartbeats 1000000 in
theorem NewSigns_in (w : World) : Calls Tryz.prog 52 #[] w fun e w' => ∃ g, e = .returned (.slice (some ⟨g, 0, none⟩) 10 10) ∧ Sgn w' g ∧ Below w.heap.size w w' := by
  have HU := fun (f : Nat) (W : World) => unlessZero_in f W
  go_enter Tryz.func52, Tryz.ntmps52
  go_wp2_with (first
    | (go_at_call 163; (with_reducible refine (HU _ _).mono ?_); rintro e w2 ⟨rfl, rfl⟩))
  go_ret
  exact ⟨_, rfl, ⟨w.heap.size, w.heap.size + 1, heap3_2 w _ _ _, heap3_0 w _ _ _, heap3_1 w _ _ _⟩, below3' w _ _ _⟩

theorem neqFn (W : World) (F : Nat) (bd : Array Value) : (binOp .neq 145 (.func (.func F) #[] bd) .nilFunc).run Tryz.prog W = .ok (.bool true) W := by
  kernel_rfl

theorem neqNil (W : World) : (binOp .neq 131 .nilFunc .nilFunc).run Tryz.prog W = .ok (.bool false) W := by
  kernel_rfl

theorem cell_sign {g i : Nat} {b4 b5 : Nat} {v : Value} (h : w.heap[g]? = some (.cells (signRow b4 b5) 148 (0, 0))) (hv : (signRow b4 b5)[i]? = some v) : w.cell? ⟨g, i, none⟩ = some v := by
  rw [cell_of_row w g i _ _ _ h]
  exact hv

theorem no_cells (a b : Int) : (false = true) ↔ ∃ v ∈ [(⟨2, a⟩ : Vl), ⟨2, b⟩], v.k = 7 := by
  constructor
  · intro h; cases h
  · rintro ⟨v, hv, h7⟩
    simp at hv
    rcases hv with rfl | rfl <;> simp at h7

set_option maxRecDepth 20000 in
set_option maxHeartbeats 2000000 in
theorem sBin_Add {p : Option Addr} {n : Nat} (c : Nat) {g : Nat} (hs : Sgn w g) (a b : Int) {d : Dd} (hd : d = (wholeD (wrap64 (a + b)))) :
    Calls Tryz.prog 53 #[.slice (some ⟨g, 0, none⟩) 10 10, .slice p n c, .int .u8 1, .agg #[.int .u8 2, .int .i64 a], .agg #[.int .u8 2, .int .i64 b]] w (DeedR w d) := by
  obtain ⟨b4, b5, hg, hg4, hg5⟩ := hs
  have hB := below3' w (.cells #[.int .u8 2, .int .i64 a] 27) (.cells #[.int .u8 2, .int .i64 b] 27) (.cells #[.string ⟨#[]⟩, .int .i64 0, .int .u8 0, .int .i64 0, .int .u8 0, .string ⟨#[]⟩, .slice none 0 0, .int .i64 0, .int .i64 0, .int .i64 0, .int .i64 0, .slice none 0 0, .int .i64 0] 100)
  have e0 := heap3_0 w (.cells #[.int .u8 2, .int .i64 a] 27) (.cells #[.int .u8 2, .int .i64 b] 27) (.cells #[.string ⟨#[]⟩, .int .i64 0, .int .u8 0, .int .i64 0, .int .u8 0, .string ⟨#[]⟩, .slice none 0 0, .int .i64 0, .int .i64 0, .int .i64 0, .int .i64 0, .slice none 0 0, .int .i64 0] 100)
  have e1 := heap3_1 w (.cells #[.int .u8 2, .int .i64 a] 27) (.cells #[.int .u8 2, .int .i64 b] 27) (.cells #[.string ⟨#[]⟩, .int .i64 0, .int .u8 0, .int .i64 0, .int .u8 0, .string ⟨#[]⟩, .slice none 0 0, .int .i64 0, .int .i64 0, .int .i64 0, .int .i64 0, .slice none 0 0, .int .i64 0] 100)
  have e2 := heap3_2 w (.cells #[.int .u8 2, .int .i64 a] 27) (.cells #[.int .u8 2, .int .i64 b] 27) (.cells #[.string ⟨#[]⟩, .int .i64 0, .int .u8 0, .int .i64 0, .int .u8 0, .string ⟨#[]⟩, .slice none 0 0, .int .i64 0, .int .i64 0, .int .i64 0, .int .i64 0, .slice none 0 0, .int .i64 0] 100)
  obtain ⟨x0, x1⟩ := cell_row2 e0
  obtain ⟨y0, y1⟩ := cell_row2 e1
  have HF : ∀ W, Below w.heap.size w W → Calls Tryz.prog 158 #[.int .i64 a, .int .i64 b] W (DeedR W d) := fun W hW => sAdd_in a b W hd
  have N1 := neqNil
  have N2 := neqFn
  clear hd hg4 hg5
  go_enter Tryz.func53, Tryz.ntmps53
  go_wp2_with (first
    | (go_at_call 174; refine halt_here ?_))
  unfold Halted
  have hsz : (((w.alloc (.cells #[.int .u8 2, .int .i64 a] 27)).alloc (.cells #[.int .u8 2, .int .i64 b] 27)).alloc (.cells #[.string ⟨#[]⟩, .int .i64 0, .int .u8 0, .int .i64 0, .int .u8 0, .string ⟨#[]⟩, .slice none 0 0, .int .i64 0, .int .i64 0, .int .i64 0, .int .i64 0, .slice none 0 0, .int .i64 0] 100)).heap.size = w.heap.size + 1 + 1 + 1 := by simp
  generalize hW : ((w.alloc (.cells #[.int .u8 2, .int .i64 a] 27)).alloc (.cells #[.int .u8 2, .int .i64 b] 27)).alloc (.cells #[.string ⟨#[]⟩, .int .i64 0, .int .u8 0, .int .i64 0, .int .u8 0, .string ⟨#[]⟩, .slice none 0 0, .int .i64 0, .int .i64 0, .int .i64 0, .int .i64 0, .slice none 0 0, .int .i64 0] 100) = W at *
  clear hW
  have hnew := heap_alloc_new W (.cells #[.int .u8 2, .int .i64 a, .int .u8 2, .int .i64 b] 27)
  have hBY := below1 W (.cells #[.int .u8 2, .int .i64 a, .int .u8 2, .int .i64 b] 27)
  rw [hsz] at hnew
  clear hsz
  refine Calls.mono (anyCell_in (l := [⟨2, a⟩, ⟨2, b⟩]) 2 (one_vals2 hnew) (by simp) false (no_cells a b)) ?_
  rintro e w0 ⟨rfl, hB0⟩
  have hB' := hBY.trans (hB0.mono hBY.size)
  have hBw := hB.trans (hB'.mono hB.size)
  have f0 := (hB'.block _ (Array.getElem?_eq_some_iff.1 e0).1).trans e0
  have f1 := (hB'.block _ (Array.getElem?_eq_some_iff.1 e1).1).trans e1
  have f2 := (hB'.block _ (Array.getElem?_eq_some_iff.1 e2).1).trans e2
  have fg := (hBw.block _ (Array.getElem?_eq_some_iff.1 hg).1).trans hg
  clear x0 x1 y0 y1 e0 e1 e2 hnew hBY hB'
  have t0 := cell_sign fg (i := 3) (v := .func (.func 158) #[] #[]) (by rfl)
  have t1 := cell_sign fg (i := 4) (v := .func (.func 160) #[] #[]) (by rfl)
  have t2 := cell_sign fg (i := 5) (v := .nilFunc) (by rfl)
  have hBS := below1 w0 (.cells #[.func (.func 158) #[] #[], .func (.func 160) #[] #[], .nilFunc] 148)
  have hBw2 := hBw.trans (hBS.mono hBw.size)
  have g0 := (hBS.block _ (Array.getElem?_eq_some_iff.1 f0).1).trans f0
  have g1 := (hBS.block _ (Array.getElem?_eq_some_iff.1 f1).1).trans f1
  have g2 := (hBS.block _ (Array.getElem?_eq_some_iff.1 f2).1).trans f2
  obtain ⟨x0, x1⟩ := cell_row2 g0
  obtain ⟨y0, y1⟩ := cell_row2 g1
  obtain ⟨⟨s0, s1, s2⟩, -⟩ := cell_row3P (heap_alloc_new w0 (.cells #[.func (.func 158) #[] #[], .func (.func 160) #[] #[], .nilFunc] 148))
  have H1 := HF _ hBw2
  clear HF hg fg
  go_wp2_with (first
    | (go_at_call 158; (with_reducible refine H1.mono ?_); clear H1; rintro e w1 ⟨q, c_, q2, rfl, h1, h2, hB1⟩; have hr := (hB1.block _ (Array.getElem?_eq_some_iff.1 g2).1).trans g2; obtain ⟨⟨z0, z1, z2, z3, z4, z5, z6, z7, z8, z9, z10, z11, z12⟩, y0, y1, y2, y3, y4, y5, y6, y7, y8, y9, y10, y11, y12⟩ := cell_row13 hr))
  refine bodyPost_ret (results_cell_row (by rfl) _ _ (w.heap.size + 1 + 1) 100 _ _ _ (by rfl) (set13_row hr) Tryz.underlying100 (by rfl) infoDeed) (by rfl) ?_
  exact deed_fin hr (by omega) d h1 h2 (hBw2.trans (hB1.mono hBw2.size))

set_option maxRecDepth 20000 in
set_option maxHeartbeats 2000000 in
theorem sBin_Sub {p : Option Addr} {n : Nat} (c : Nat) {g : Nat} (hs : Sgn w g) (a b : Int) {d : Dd} (hd : d = (wholeD (wrap64 (a - b)))) :
    Calls Tryz.prog 53 #[.slice (some ⟨g, 0, none⟩) 10 10, .slice p n c, .int .u8 2, .agg #[.int .u8 2, .int .i64 a], .agg #[.int .u8 2, .int .i64 b]] w (DeedR w d) := by
  obtain ⟨b4, b5, hg, hg4, hg5⟩ := hs
  have hB := below3' w (.cells #[.int .u8 2, .int .i64 a] 27) (.cells #[.int .u8 2, .int .i64 b] 27) (.cells #[.string ⟨#[]⟩, .int .i64 0, .int .u8 0, .int .i64 0, .int .u8 0, .string ⟨#[]⟩, .slice none 0 0, .int .i64 0, .int .i64 0, .int .i64 0, .int .i64 0, .slice none 0 0, .int .i64 0] 100)
  have e0 := heap3_0 w (.cells #[.int .u8 2, .int .i64 a] 27) (.cells #[.int .u8 2, .int .i64 b] 27) (.cells #[.string ⟨#[]⟩, .int .i64 0, .int .u8 0, .int .i64 0, .int .u8 0, .string ⟨#[]⟩, .slice none 0 0, .int .i64 0, .int .i64 0, .int .i64 0, .int .i64 0, .slice none 0 0, .int .i64 0] 100)
  have e1 := heap3_1 w (.cells #[.int .u8 2, .int .i64 a] 27) (.cells #[.int .u8 2, .int .i64 b] 27) (.cells #[.string ⟨#[]⟩, .int .i64 0, .int .u8 0, .int .i64 0, .int .u8 0, .string ⟨#[]⟩, .slice none 0 0, .int .i64 0, .int .i64 0, .int .i64 0, .int .i64 0, .slice none 0 0, .int .i64 0] 100)
  have e2 := heap3_2 w (.cells #[.int .u8 2, .int .i64 a] 27) (.cells #[.int .u8 2, .int .i64 b] 27) (.cells #[.string ⟨#[]⟩, .int .i64 0, .int .u8 0, .int .i64 0, .int .u8 0, .string ⟨#[]⟩, .slice none 0 0, .int .i64 0, .int .i64 0, .int .i64 0, .int .i64 0, .slice none 0 0, .int .i64 0] 100)
  obtain ⟨x0, x1⟩ := cell_row2 e0
  obtain ⟨y0, y1⟩ := cell_row2 e1
  have HF : ∀ W, Below w.heap.size w W → Calls Tryz.prog 161 #[.int .i64 a, .int .i64 b] W (DeedR W d) := fun W hW => sSub_in a b W hd
  have N1 := neqNil
  have N2 := neqFn
  clear hd hg4 hg5
  go_enter Tryz.func53, Tryz.ntmps53
  go_wp2_with (first
    | (go_at_call 174; refine halt_here ?_))
  unfold Halted
  have hsz : (((w.alloc (.cells #[.int .u8 2, .int .i64 a] 27)).alloc (.cells #[.int .u8 2, .int .i64 b] 27)).alloc (.cells #[.string ⟨#[]⟩, .int .i64 0, .int .u8 0, .int .i64 0, .int .u8 0, .string ⟨#[]⟩, .slice none 0 0, .int .i64 0, .int .i64 0, .int .i64 0, .int .i64 0, .slice none 0 0, .int .i64 0] 100)).heap.size = w.heap.size + 1 + 1 + 1 := by simp
  generalize hW : ((w.alloc (.cells #[.int .u8 2, .int .i64 a] 27)).alloc (.cells #[.int .u8 2, .int .i64 b] 27)).alloc (.cells #[.string ⟨#[]⟩, .int .i64 0, .int .u8 0, .int .i64 0, .int .u8 0, .string ⟨#[]⟩, .slice none 0 0, .int .i64 0, .int .i64 0, .int .i64 0, .int .i64 0, .slice none 0 0, .int .i64 0] 100) = W at *
  clear hW
  have hnew := heap_alloc_new W (.cells #[.int .u8 2, .int .i64 a, .int .u8 2, .int .i64 b] 27)
  have hBY := below1 W (.cells #[.int .u8 2, .int .i64 a, .int .u8 2, .int .i64 b] 27)
  rw [hsz] at hnew
  clear hsz
  refine Calls.mono (anyCell_in (l := [⟨2, a⟩, ⟨2, b⟩]) 2 (one_vals2 hnew) (by simp) false (no_cells a b)) ?_
  rintro e w0 ⟨rfl, hB0⟩
  have hB' := hBY.trans (hB0.mono hBY.size)
  have hBw := hB.trans (hB'.mono hB.size)
  have f0 := (hB'.block _ (Array.getElem?_eq_some_iff.1 e0).1).trans e0
  have f1 := (hB'.block _ (Array.getElem?_eq_some_iff.1 e1).1).trans e1
  have f2 := (hB'.block _ (Array.getElem?_eq_some_iff.1 e2).1).trans e2
  have fg := (hBw.block _ (Array.getElem?_eq_some_iff.1 hg).1).trans hg
  clear x0 x1 y0 y1 e0 e1 e2 hnew hBY hB'
  have t0 := cell_sign fg (i := 6) (v := .func (.func 161) #[] #[]) (by rfl)
  have t1 := cell_sign fg (i := 7) (v := .nilFunc) (by rfl)
  have t2 := cell_sign fg (i := 8) (v := .nilFunc) (by rfl)
  have hBS := below1 w0 (.cells #[.func (.func 161) #[] #[], .nilFunc, .nilFunc] 148)
  have hBw2 := hBw.trans (hBS.mono hBw.size)
  have g0 := (hBS.block _ (Array.getElem?_eq_some_iff.1 f0).1).trans f0
  have g1 := (hBS.block _ (Array.getElem?_eq_some_iff.1 f1).1).trans f1
  have g2 := (hBS.block _ (Array.getElem?_eq_some_iff.1 f2).1).trans f2
  obtain ⟨x0, x1⟩ := cell_row2 g0
  obtain ⟨y0, y1⟩ := cell_row2 g1
  obtain ⟨⟨s0, s1, s2⟩, -⟩ := cell_row3P (heap_alloc_new w0 (.cells #[.func (.func 161) #[] #[], .nilFunc, .nilFunc] 148))
  have H1 := HF _ hBw2
  clear HF hg fg
  go_wp2_with (first
    | (go_at_call 161; (with_reducible refine H1.mono ?_); clear H1; rintro e w1 ⟨q, c_, q2, rfl, h1, h2, hB1⟩; have hr := (hB1.block _ (Array.getElem?_eq_some_iff.1 g2).1).trans g2; obtain ⟨⟨z0, z1, z2, z3, z4, z5, z6, z7, z8, z9, z10, z11, z12⟩, y0, y1, y2, y3, y4, y5, y6, y7, y8, y9, y10, y11, y12⟩ := cell_row13 hr))
  refine bodyPost_ret (results_cell_row (by rfl) _ _ (w.heap.size + 1 + 1) 100 _ _ _ (by rfl) (set13_row hr) Tryz.underlying100 (by rfl) infoDeed) (by rfl) ?_
  exact deed_fin hr (by omega) d h1 h2 (hBw2.trans (hB1.mono hBw2.size))

set_option maxRecDepth 20000 in
set_option maxHeartbeats 2000000 in
theorem sBin_Mul {p : Option Addr} {n : Nat} (c : Nat) {g : Nat} (hs : Sgn w g) (a b : Int) {d : Dd} (hd : d = (wholeD (wrap64 (a * b)))) :
    Calls Tryz.prog 53 #[.slice (some ⟨g, 0, none⟩) 10 10, .slice p n c, .int .u8 3, .agg #[.int .u8 2, .int .i64 a], .agg #[.int .u8 2, .int .i64 b]] w (DeedR w d) := by
  obtain ⟨b4, b5, hg, hg4, hg5⟩ := hs
  have hB := below3' w (.cells #[.int .u8 2, .int .i64 a] 27) (.cells #[.int .u8 2, .int .i64 b] 27) (.cells #[.string ⟨#[]⟩, .int .i64 0, .int .u8 0, .int .i64 0, .int .u8 0, .string ⟨#[]⟩, .slice none 0 0, .int .i64 0, .int .i64 0, .int .i64 0, .int .i64 0, .slice none 0 0, .int .i64 0] 100)
  have e0 := heap3_0 w (.cells #[.int .u8 2, .int .i64 a] 27) (.cells #[.int .u8 2, .int .i64 b] 27) (.cells #[.string ⟨#[]⟩, .int .i64 0, .int .u8 0, .int .i64 0, .int .u8 0, .string ⟨#[]⟩, .slice none 0 0, .int .i64 0, .int .i64 0, .int .i64 0, .int .i64 0, .slice none 0 0, .int .i64 0] 100)
  have e1 := heap3_1 w (.cells #[.int .u8 2, .int .i64 a] 27) (.cells #[.int .u8 2, .int .i64 b] 27) (.cells #[.string ⟨#[]⟩, .int .i64 0, .int .u8 0, .int .i64 0, .int .u8 0, .string ⟨#[]⟩, .slice none 0 0, .int .i64 0, .int .i64 0, .int .i64 0, .int .i64 0, .slice none 0 0, .int .i64 0] 100)
  have e2 := heap3_2 w (.cells #[.int .u8 2, .int .i64 a] 27) (.cells #[.int .u8 2, .int .i64 b] 27) (.cells #[.string ⟨#[]⟩, .int .i64 0, .int .u8 0, .int .i64 0, .int .u8 0, .string ⟨#[]⟩, .slice none 0 0, .int .i64 0, .int .i64 0, .int .i64 0, .int .i64 0, .slice none 0 0, .int .i64 0] 100)
  obtain ⟨x0, x1⟩ := cell_row2 e0
  obtain ⟨y0, y1⟩ := cell_row2 e1
  have HF : ∀ W, Below w.heap.size w W → Calls Tryz.prog 162 #[.int .i64 a, .int .i64 b] W (DeedR W d) := fun W hW => sMul_in a b W hd
  have N1 := neqNil
  have N2 := neqFn
  clear hd hg4 hg5
  go_enter Tryz.func53, Tryz.ntmps53
  go_wp2_with (first
    | (go_at_call 174; refine halt_here ?_))
  unfold Halted
  have hsz : (((w.alloc (.cells #[.int .u8 2, .int .i64 a] 27)).alloc (.cells #[.int .u8 2, .int .i64 b] 27)).alloc (.cells #[.string ⟨#[]⟩, .int .i64 0, .int .u8 0, .int .i64 0, .int .u8 0, .string ⟨#[]⟩, .slice none 0 0, .int .i64 0, .int .i64 0, .int .i64 0, .int .i64 0, .slice none 0 0, .int .i64 0] 100)).heap.size = w.heap.size + 1 + 1 + 1 := by simp
  generalize hW : ((w.alloc (.cells #[.int .u8 2, .int .i64 a] 27)).alloc (.cells #[.int .u8 2, .int .i64 b] 27)).alloc (.cells #[.string ⟨#[]⟩, .int .i64 0, .int .u8 0, .int .i64 0, .int .u8 0, .string ⟨#[]⟩, .slice none 0 0, .int .i64 0, .int .i64 0, .int .i64 0, .int .i64 0, .slice none 0 0, .int .i64 0] 100) = W at *
  clear hW
  have hnew := heap_alloc_new W (.cells #[.int .u8 2, .int .i64 a, .int .u8 2, .int .i64 b] 27)
  have hBY := below1 W (.cells #[.int .u8 2, .int .i64 a, .int .u8 2, .int .i64 b] 27)
  rw [hsz] at hnew
  clear hsz
  refine Calls.mono (anyCell_in (l := [⟨2, a⟩, ⟨2, b⟩]) 2 (one_vals2 hnew) (by simp) false (no_cells a b)) ?_
  rintro e w0 ⟨rfl, hB0⟩
  have hB' := hBY.trans (hB0.mono hBY.size)
  have hBw := hB.trans (hB'.mono hB.size)
  have f0 := (hB'.block _ (Array.getElem?_eq_some_iff.1 e0).1).trans e0
  have f1 := (hB'.block _ (Array.getElem?_eq_some_iff.1 e1).1).trans e1
  have f2 := (hB'.block _ (Array.getElem?_eq_some_iff.1 e2).1).trans e2
  have fg := (hBw.block _ (Array.getElem?_eq_some_iff.1 hg).1).trans hg
  clear x0 x1 y0 y1 e0 e1 e2 hnew hBY hB'
  have t0 := cell_sign fg (i := 9) (v := .func (.func 162) #[] #[]) (by rfl)
  have t1 := cell_sign fg (i := 10) (v := .nilFunc) (by rfl)
  have t2 := cell_sign fg (i := 11) (v := .nilFunc) (by rfl)
  have hBS := below1 w0 (.cells #[.func (.func 162) #[] #[], .nilFunc, .nilFunc] 148)
  have hBw2 := hBw.trans (hBS.mono hBw.size)
  have g0 := (hBS.block _ (Array.getElem?_eq_some_iff.1 f0).1).trans f0
  have g1 := (hBS.block _ (Array.getElem?_eq_some_iff.1 f1).1).trans f1
  have g2 := (hBS.block _ (Array.getElem?_eq_some_iff.1 f2).1).trans f2
  obtain ⟨x0, x1⟩ := cell_row2 g0
  obtain ⟨y0, y1⟩ := cell_row2 g1
  obtain ⟨⟨s0, s1, s2⟩, -⟩ := cell_row3P (heap_alloc_new w0 (.cells #[.func (.func 162) #[] #[], .nilFunc, .nilFunc] 148))
  have H1 := HF _ hBw2
  clear HF hg fg
  go_wp2_with (first
    | (go_at_call 162; (with_reducible refine H1.mono ?_); clear H1; rintro e w1 ⟨q, c_, q2, rfl, h1, h2, hB1⟩; have hr := (hB1.block _ (Array.getElem?_eq_some_iff.1 g2).1).trans g2; obtain ⟨⟨z0, z1, z2, z3, z4, z5, z6, z7, z8, z9, z10, z11, z12⟩, y0, y1, y2, y3, y4, y5, y6, y7, y8, y9, y10, y11, y12⟩ := cell_row13 hr))
  refine bodyPost_ret (results_cell_row (by rfl) _ _ (w.heap.size + 1 + 1) 100 _ _ _ (by rfl) (set13_row hr) Tryz.underlying100 (by rfl) infoDeed) (by rfl) ?_
  exact deed_fin hr (by omega) d h1 h2 (hBw2.trans (hB1.mono hBw2.size))

set_option maxRecDepth 20000 in
set_option maxHeartbeats 2000000 in
theorem sBin_Div {p : Option Addr} {n : Nat} (c : Nat) {g : Nat} (hs : Sgn w g) (a b : Int) {d : Dd} (hd : d = (if b = 0 then thrD tZero else wholeD (wrap64 (Int.tdiv a b)))) :
    Calls Tryz.prog 53 #[.slice (some ⟨g, 0, none⟩) 10 10, .slice p n c, .int .u8 4, .agg #[.int .u8 2, .int .i64 a], .agg #[.int .u8 2, .int .i64 b]] w (DeedR w d) := by
  obtain ⟨b4, b5, hg, hg4, hg5⟩ := hs
  have hB := below3' w (.cells #[.int .u8 2, .int .i64 a] 27) (.cells #[.int .u8 2, .int .i64 b] 27) (.cells #[.string ⟨#[]⟩, .int .i64 0, .int .u8 0, .int .i64 0, .int .u8 0, .string ⟨#[]⟩, .slice none 0 0, .int .i64 0, .int .i64 0, .int .i64 0, .int .i64 0, .slice none 0 0, .int .i64 0] 100)
  have e0 := heap3_0 w (.cells #[.int .u8 2, .int .i64 a] 27) (.cells #[.int .u8 2, .int .i64 b] 27) (.cells #[.string ⟨#[]⟩, .int .i64 0, .int .u8 0, .int .i64 0, .int .u8 0, .string ⟨#[]⟩, .slice none 0 0, .int .i64 0, .int .i64 0, .int .i64 0, .int .i64 0, .slice none 0 0, .int .i64 0] 100)
  have e1 := heap3_1 w (.cells #[.int .u8 2, .int .i64 a] 27) (.cells #[.int .u8 2, .int .i64 b] 27) (.cells #[.string ⟨#[]⟩, .int .i64 0, .int .u8 0, .int .i64 0, .int .u8 0, .string ⟨#[]⟩, .slice none 0 0, .int .i64 0, .int .i64 0, .int .i64 0, .int .i64 0, .slice none 0 0, .int .i64 0] 100)
  have e2 := heap3_2 w (.cells #[.int .u8 2, .int .i64 a] 27) (.cells #[.int .u8 2, .int .i64 b] 27) (.cells #[.string ⟨#[]⟩, .int .i64 0, .int .u8 0, .int .i64 0, .int .u8 0, .string ⟨#[]⟩, .slice none 0 0, .int .i64 0, .int .i64 0, .int .i64 0, .int .i64 0, .slice none 0 0, .int .i64 0] 100)
  obtain ⟨x0, x1⟩ := cell_row2 e0
  obtain ⟨y0, y1⟩ := cell_row2 e1
  have HF : ∀ W, Below w.heap.size w W → Calls Tryz.prog 243 #[.int .i64 a, .int .i64 b, .pointer (some ⟨b4, 0, none⟩)] W (DeedR W d) := fun W hW => by
    by_cases hb0 : b = 0
    · rw [if_pos hb0] at hd
      subst hb0
      exact divided_zero a _ W hd
    · rw [if_neg hb0] at hd
      exact divided_Quo a b hb0 ((hW.block _ (Array.getElem?_eq_some_iff.1 hg4).1).trans hg4) hd
  have N1 := neqNil
  have N2 := neqFn
  clear hd hg4 hg5
  go_enter Tryz.func53, Tryz.ntmps53
  go_wp2_with (first
    | (go_at_call 174; refine halt_here ?_))
  unfold Halted
  have hsz : (((w.alloc (.cells #[.int .u8 2, .int .i64 a] 27)).alloc (.cells #[.int .u8 2, .int .i64 b] 27)).alloc (.cells #[.string ⟨#[]⟩, .int .i64 0, .int .u8 0, .int .i64 0, .int .u8 0, .string ⟨#[]⟩, .slice none 0 0, .int .i64 0, .int .i64 0, .int .i64 0, .int .i64 0, .slice none 0 0, .int .i64 0] 100)).heap.size = w.heap.size + 1 + 1 + 1 := by simp
  generalize hW : ((w.alloc (.cells #[.int .u8 2, .int .i64 a] 27)).alloc (.cells #[.int .u8 2, .int .i64 b] 27)).alloc (.cells #[.string ⟨#[]⟩, .int .i64 0, .int .u8 0, .int .i64 0, .int .u8 0, .string ⟨#[]⟩, .slice none 0 0, .int .i64 0, .int .i64 0, .int .i64 0, .int .i64 0, .slice none 0 0, .int .i64 0] 100) = W at *
  clear hW
  have hnew := heap_alloc_new W (.cells #[.int .u8 2, .int .i64 a, .int .u8 2, .int .i64 b] 27)
  have hBY := below1 W (.cells #[.int .u8 2, .int .i64 a, .int .u8 2, .int .i64 b] 27)
  rw [hsz] at hnew
  clear hsz
  refine Calls.mono (anyCell_in (l := [⟨2, a⟩, ⟨2, b⟩]) 2 (one_vals2 hnew) (by simp) false (no_cells a b)) ?_
  rintro e w0 ⟨rfl, hB0⟩
  have hB' := hBY.trans (hB0.mono hBY.size)
  have hBw := hB.trans (hB'.mono hB.size)
  have f0 := (hB'.block _ (Array.getElem?_eq_some_iff.1 e0).1).trans e0
  have f1 := (hB'.block _ (Array.getElem?_eq_some_iff.1 e1).1).trans e1
  have f2 := (hB'.block _ (Array.getElem?_eq_some_iff.1 e2).1).trans e2
  have fg := (hBw.block _ (Array.getElem?_eq_some_iff.1 hg).1).trans hg
  clear x0 x1 y0 y1 e0 e1 e2 hnew hBY hB'
  have t0 := cell_sign fg (i := 12) (v := .func (.func 243) #[] #[.pointer (some ⟨b4, 0, none⟩)]) (by rfl)
  have t1 := cell_sign fg (i := 13) (v := .nilFunc) (by rfl)
  have t2 := cell_sign fg (i := 14) (v := .nilFunc) (by rfl)
  have hBS := below1 w0 (.cells #[.func (.func 243) #[] #[.pointer (some ⟨b4, 0, none⟩)], .nilFunc, .nilFunc] 148)
  have hBw2 := hBw.trans (hBS.mono hBw.size)
  have g0 := (hBS.block _ (Array.getElem?_eq_some_iff.1 f0).1).trans f0
  have g1 := (hBS.block _ (Array.getElem?_eq_some_iff.1 f1).1).trans f1
  have g2 := (hBS.block _ (Array.getElem?_eq_some_iff.1 f2).1).trans f2
  obtain ⟨x0, x1⟩ := cell_row2 g0
  obtain ⟨y0, y1⟩ := cell_row2 g1
  obtain ⟨⟨s0, s1, s2⟩, -⟩ := cell_row3P (heap_alloc_new w0 (.cells #[.func (.func 243) #[] #[.pointer (some ⟨b4, 0, none⟩)], .nilFunc, .nilFunc] 148))
  have H1 := HF _ hBw2
  clear HF hg fg
  go_wp2_with (first
    | (go_at_call 243; (with_reducible refine H1.mono ?_); clear H1; rintro e w1 ⟨q, c_, q2, rfl, h1, h2, hB1⟩; have hr := (hB1.block _ (Array.getElem?_eq_some_iff.1 g2).1).trans g2; obtain ⟨⟨z0, z1, z2, z3, z4, z5, z6, z7, z8, z9, z10, z11, z12⟩, y0, y1, y2, y3, y4, y5, y6, y7, y8, y9, y10, y11, y12⟩ := cell_row13 hr))
  refine bodyPost_ret (results_cell_row (by rfl) _ _ (w.heap.size + 1 + 1) 100 _ _ _ (by rfl) (set13_row hr) Tryz.underlying100 (by rfl) infoDeed) (by rfl) ?_
  exact deed_fin hr (by omega) d h1 h2 (hBw2.trans (hB1.mono hBw2.size))

set_option maxRecDepth 20000 in
set_option maxHeartbeats 2000000 in
theorem sBin_Mod {p : Option Addr} {n : Nat} (c : Nat) {g : Nat} (hs : Sgn w g) (a b : Int) {d : Dd} (hd : d = (if b = 0 then thrD tZero else wholeD (Int.tmod a b))) :
    Calls Tryz.prog 53 #[.slice (some ⟨g, 0, none⟩) 10 10, .slice p n c, .int .u8 5, .agg #[.int .u8 2, .int .i64 a], .agg #[.int .u8 2, .int .i64 b]] w (DeedR w d) := by
  obtain ⟨b4, b5, hg, hg4, hg5⟩ := hs
  have hB := below3' w (.cells #[.int .u8 2, .int .i64 a] 27) (.cells #[.int .u8 2, .int .i64 b] 27) (.cells #[.string ⟨#[]⟩, .int .i64 0, .int .u8 0, .int .i64 0, .int .u8 0, .string ⟨#[]⟩, .slice none 0 0, .int .i64 0, .int .i64 0, .int .i64 0, .int .i64 0, .slice none 0 0, .int .i64 0] 100)
  have e0 := heap3_0 w (.cells #[.int .u8 2, .int .i64 a] 27) (.cells #[.int .u8 2, .int .i64 b] 27) (.cells #[.string ⟨#[]⟩, .int .i64 0, .int .u8 0, .int .i64 0, .int .u8 0, .string ⟨#[]⟩, .slice none 0 0, .int .i64 0, .int .i64 0, .int .i64 0, .int .i64 0, .slice none 0 0, .int .i64 0] 100)
  have e1 := heap3_1 w (.cells #[.int .u8 2, .int .i64 a] 27) (.cells #[.int .u8 2, .int .i64 b] 27) (.cells #[.string ⟨#[]⟩, .int .i64 0, .int .u8 0, .int .i64 0, .int .u8 0, .string ⟨#[]⟩, .slice none 0 0, .int .i64 0, .int .i64 0, .int .i64 0, .int .i64 0, .slice none 0 0, .int .i64 0] 100)
  have e2 := heap3_2 w (.cells #[.int .u8 2, .int .i64 a] 27) (.cells #[.int .u8 2, .int .i64 b] 27) (.cells #[.string ⟨#[]⟩, .int .i64 0, .int .u8 0, .int .i64 0, .int .u8 0, .string ⟨#[]⟩, .slice none 0 0, .int .i64 0, .int .i64 0, .int .i64 0, .int .i64 0, .slice none 0 0, .int .i64 0] 100)
  obtain ⟨x0, x1⟩ := cell_row2 e0
  obtain ⟨y0, y1⟩ := cell_row2 e1
  have HF : ∀ W, Below w.heap.size w W → Calls Tryz.prog 243 #[.int .i64 a, .int .i64 b, .pointer (some ⟨b5, 0, none⟩)] W (DeedR W d) := fun W hW => by
    by_cases hb0 : b = 0
    · rw [if_pos hb0] at hd
      subst hb0
      exact divided_zero a _ W hd
    · rw [if_neg hb0] at hd
      exact divided_Rem a b hb0 ((hW.block _ (Array.getElem?_eq_some_iff.1 hg5).1).trans hg5) hd
  have N1 := neqNil
  have N2 := neqFn
  clear hd hg4 hg5
  go_enter Tryz.func53, Tryz.ntmps53
  go_wp2_with (first
    | (go_at_call 174; refine halt_here ?_))
  unfold Halted
  have hsz : (((w.alloc (.cells #[.int .u8 2, .int .i64 a] 27)).alloc (.cells #[.int .u8 2, .int .i64 b] 27)).alloc (.cells #[.string ⟨#[]⟩, .int .i64 0, .int .u8 0, .int .i64 0, .int .u8 0, .string ⟨#[]⟩, .slice none 0 0, .int .i64 0, .int .i64 0, .int .i64 0, .int .i64 0, .slice none 0 0, .int .i64 0] 100)).heap.size = w.heap.size + 1 + 1 + 1 := by simp
  generalize hW : ((w.alloc (.cells #[.int .u8 2, .int .i64 a] 27)).alloc (.cells #[.int .u8 2, .int .i64 b] 27)).alloc (.cells #[.string ⟨#[]⟩, .int .i64 0, .int .u8 0, .int .i64 0, .int .u8 0, .string ⟨#[]⟩, .slice none 0 0, .int .i64 0, .int .i64 0, .int .i64 0, .int .i64 0, .slice none 0 0, .int .i64 0] 100) = W at *
  clear hW
  have hnew := heap_alloc_new W (.cells #[.int .u8 2, .int .i64 a, .int .u8 2, .int .i64 b] 27)
  have hBY := below1 W (.cells #[.int .u8 2, .int .i64 a, .int .u8 2, .int .i64 b] 27)
  rw [hsz] at hnew
  clear hsz
  refine Calls.mono (anyCell_in (l := [⟨2, a⟩, ⟨2, b⟩]) 2 (one_vals2 hnew) (by simp) false (no_cells a b)) ?_
  rintro e w0 ⟨rfl, hB0⟩
  have hB' := hBY.trans (hB0.mono hBY.size)
  have hBw := hB.trans (hB'.mono hB.size)
  have f0 := (hB'.block _ (Array.getElem?_eq_some_iff.1 e0).1).trans e0
  have f1 := (hB'.block _ (Array.getElem?_eq_some_iff.1 e1).1).trans e1
  have f2 := (hB'.block _ (Array.getElem?_eq_some_iff.1 e2).1).trans e2
  have fg := (hBw.block _ (Array.getElem?_eq_some_iff.1 hg).1).trans hg
  clear x0 x1 y0 y1 e0 e1 e2 hnew hBY hB'
  have t0 := cell_sign fg (i := 15) (v := .func (.func 243) #[] #[.pointer (some ⟨b5, 0, none⟩)]) (by rfl)
  have t1 := cell_sign fg (i := 16) (v := .nilFunc) (by rfl)
  have t2 := cell_sign fg (i := 17) (v := .nilFunc) (by rfl)
  have hBS := below1 w0 (.cells #[.func (.func 243) #[] #[.pointer (some ⟨b5, 0, none⟩)], .nilFunc, .nilFunc] 148)
  have hBw2 := hBw.trans (hBS.mono hBw.size)
  have g0 := (hBS.block _ (Array.getElem?_eq_some_iff.1 f0).1).trans f0
  have g1 := (hBS.block _ (Array.getElem?_eq_some_iff.1 f1).1).trans f1
  have g2 := (hBS.block _ (Array.getElem?_eq_some_iff.1 f2).1).trans f2
  obtain ⟨x0, x1⟩ := cell_row2 g0
  obtain ⟨y0, y1⟩ := cell_row2 g1
  obtain ⟨⟨s0, s1, s2⟩, -⟩ := cell_row3P (heap_alloc_new w0 (.cells #[.func (.func 243) #[] #[.pointer (some ⟨b5, 0, none⟩)], .nilFunc, .nilFunc] 148))
  have H1 := HF _ hBw2
  clear HF hg fg
  go_wp2_with (first
    | (go_at_call 243; (with_reducible refine H1.mono ?_); clear H1; rintro e w1 ⟨q, c_, q2, rfl, h1, h2, hB1⟩; have hr := (hB1.block _ (Array.getElem?_eq_some_iff.1 g2).1).trans g2; obtain ⟨⟨z0, z1, z2, z3, z4, z5, z6, z7, z8, z9, z10, z11, z12⟩, y0, y1, y2, y3, y4, y5, y6, y7, y8, y9, y10, y11, y12⟩ := cell_row13 hr))
  refine bodyPost_ret (results_cell_row (by rfl) _ _ (w.heap.size + 1 + 1) 100 _ _ _ (by rfl) (set13_row hr) Tryz.underlying100 (by rfl) infoDeed) (by rfl) ?_
  exact deed_fin hr (by omega) d h1 h2 (hBw2.trans (hB1.mono hBw2.size))

set_option maxRecDepth 20000 in
set_option maxHeartbeats 2000000 in
theorem sBin_Less {p : Option Addr} {n : Nat} (c : Nat) {g : Nat} (hs : Sgn w g) (a b : Int) {d : Dd} (hd : d = (truthD (decide (a < b)))) :
    Calls Tryz.prog 53 #[.slice (some ⟨g, 0, none⟩) 10 10, .slice p n c, .int .u8 6, .agg #[.int .u8 2, .int .i64 a], .agg #[.int .u8 2, .int .i64 b]] w (DeedR w d) := by
  obtain ⟨b4, b5, hg, hg4, hg5⟩ := hs
  have hB := below3' w (.cells #[.int .u8 2, .int .i64 a] 27) (.cells #[.int .u8 2, .int .i64 b] 27) (.cells #[.string ⟨#[]⟩, .int .i64 0, .int .u8 0, .int .i64 0, .int .u8 0, .string ⟨#[]⟩, .slice none 0 0, .int .i64 0, .int .i64 0, .int .i64 0, .int .i64 0, .slice none 0 0, .int .i64 0] 100)
  have e0 := heap3_0 w (.cells #[.int .u8 2, .int .i64 a] 27) (.cells #[.int .u8 2, .int .i64 b] 27) (.cells #[.string ⟨#[]⟩, .int .i64 0, .int .u8 0, .int .i64 0, .int .u8 0, .string ⟨#[]⟩, .slice none 0 0, .int .i64 0, .int .i64 0, .int .i64 0, .int .i64 0, .slice none 0 0, .int .i64 0] 100)
  have e1 := heap3_1 w (.cells #[.int .u8 2, .int .i64 a] 27) (.cells #[.int .u8 2, .int .i64 b] 27) (.cells #[.string ⟨#[]⟩, .int .i64 0, .int .u8 0, .int .i64 0, .int .u8 0, .string ⟨#[]⟩, .slice none 0 0, .int .i64 0, .int .i64 0, .int .i64 0, .int .i64 0, .slice none 0 0, .int .i64 0] 100)
  have e2 := heap3_2 w (.cells #[.int .u8 2, .int .i64 a] 27) (.cells #[.int .u8 2, .int .i64 b] 27) (.cells #[.string ⟨#[]⟩, .int .i64 0, .int .u8 0, .int .i64 0, .int .u8 0, .string ⟨#[]⟩, .slice none 0 0, .int .i64 0, .int .i64 0, .int .i64 0, .int .i64 0, .slice none 0 0, .int .i64 0] 100)
  obtain ⟨x0, x1⟩ := cell_row2 e0
  obtain ⟨y0, y1⟩ := cell_row2 e1
  have HF : ∀ W, Below w.heap.size w W → Calls Tryz.prog 166 #[.int .i64 a, .int .i64 b] W (DeedR W d) := fun W hW => sLess_in a b W hd
  have N1 := neqNil
  have N2 := neqFn
  clear hd hg4 hg5
  go_enter Tryz.func53, Tryz.ntmps53
  go_wp2_with (first
    | (go_at_call 174; refine halt_here ?_))
  unfold Halted
  have hsz : (((w.alloc (.cells #[.int .u8 2, .int .i64 a] 27)).alloc (.cells #[.int .u8 2, .int .i64 b] 27)).alloc (.cells #[.string ⟨#[]⟩, .int .i64 0, .int .u8 0, .int .i64 0, .int .u8 0, .string ⟨#[]⟩, .slice none 0 0, .int .i64 0, .int .i64 0, .int .i64 0, .int .i64 0, .slice none 0 0, .int .i64 0] 100)).heap.size = w.heap.size + 1 + 1 + 1 := by simp
  generalize hW : ((w.alloc (.cells #[.int .u8 2, .int .i64 a] 27)).alloc (.cells #[.int .u8 2, .int .i64 b] 27)).alloc (.cells #[.string ⟨#[]⟩, .int .i64 0, .int .u8 0, .int .i64 0, .int .u8 0, .string ⟨#[]⟩, .slice none 0 0, .int .i64 0, .int .i64 0, .int .i64 0, .int .i64 0, .slice none 0 0, .int .i64 0] 100) = W at *
  clear hW
  have hnew := heap_alloc_new W (.cells #[.int .u8 2, .int .i64 a, .int .u8 2, .int .i64 b] 27)
  have hBY := below1 W (.cells #[.int .u8 2, .int .i64 a, .int .u8 2, .int .i64 b] 27)
  rw [hsz] at hnew
  clear hsz
  refine Calls.mono (anyCell_in (l := [⟨2, a⟩, ⟨2, b⟩]) 2 (one_vals2 hnew) (by simp) false (no_cells a b)) ?_
  rintro e w0 ⟨rfl, hB0⟩
  have hB' := hBY.trans (hB0.mono hBY.size)
  have hBw := hB.trans (hB'.mono hB.size)
  have f0 := (hB'.block _ (Array.getElem?_eq_some_iff.1 e0).1).trans e0
  have f1 := (hB'.block _ (Array.getElem?_eq_some_iff.1 e1).1).trans e1
  have f2 := (hB'.block _ (Array.getElem?_eq_some_iff.1 e2).1).trans e2
  have fg := (hBw.block _ (Array.getElem?_eq_some_iff.1 hg).1).trans hg
  clear x0 x1 y0 y1 e0 e1 e2 hnew hBY hB'
  have t0 := cell_sign fg (i := 18) (v := .func (.func 166) #[] #[]) (by rfl)
  have t1 := cell_sign fg (i := 19) (v := .func (.func 168) #[] #[]) (by rfl)
  have t2 := cell_sign fg (i := 20) (v := .nilFunc) (by rfl)
  have hBS := below1 w0 (.cells #[.func (.func 166) #[] #[], .func (.func 168) #[] #[], .nilFunc] 148)
  have hBw2 := hBw.trans (hBS.mono hBw.size)
  have g0 := (hBS.block _ (Array.getElem?_eq_some_iff.1 f0).1).trans f0
  have g1 := (hBS.block _ (Array.getElem?_eq_some_iff.1 f1).1).trans f1
  have g2 := (hBS.block _ (Array.getElem?_eq_some_iff.1 f2).1).trans f2
  obtain ⟨x0, x1⟩ := cell_row2 g0
  obtain ⟨y0, y1⟩ := cell_row2 g1
  obtain ⟨⟨s0, s1, s2⟩, -⟩ := cell_row3P (heap_alloc_new w0 (.cells #[.func (.func 166) #[] #[], .func (.func 168) #[] #[], .nilFunc] 148))
  have H1 := HF _ hBw2
  clear HF hg fg
  go_wp2_with (first
    | (go_at_call 166; (with_reducible refine H1.mono ?_); clear H1; rintro e w1 ⟨q, c_, q2, rfl, h1, h2, hB1⟩; have hr := (hB1.block _ (Array.getElem?_eq_some_iff.1 g2).1).trans g2; obtain ⟨⟨z0, z1, z2, z3, z4, z5, z6, z7, z8, z9, z10, z11, z12⟩, y0, y1, y2, y3, y4, y5, y6, y7, y8, y9, y10, y11, y12⟩ := cell_row13 hr))
  refine bodyPost_ret (results_cell_row (by rfl) _ _ (w.heap.size + 1 + 1) 100 _ _ _ (by rfl) (set13_row hr) Tryz.underlying100 (by rfl) infoDeed) (by rfl) ?_
  exact deed_fin hr (by omega) d h1 h2 (hBw2.trans (hB1.mono hBw2.size))

set_option maxRecDepth 20000 in
set_option maxHeartbeats 2000000 in
theorem sBin_Most {p : Option Addr} {n : Nat} (c : Nat) {g : Nat} (hs : Sgn w g) (a b : Int) {d : Dd} (hd : d = (truthD (decide (a ≤ b)))) :
    Calls Tryz.prog 53 #[.slice (some ⟨g, 0, none⟩) 10 10, .slice p n c, .int .u8 7, .agg #[.int .u8 2, .int .i64 a], .agg #[.int .u8 2, .int .i64 b]] w (DeedR w d) := by
  obtain ⟨b4, b5, hg, hg4, hg5⟩ := hs
  have hB := below3' w (.cells #[.int .u8 2, .int .i64 a] 27) (.cells #[.int .u8 2, .int .i64 b] 27) (.cells #[.string ⟨#[]⟩, .int .i64 0, .int .u8 0, .int .i64 0, .int .u8 0, .string ⟨#[]⟩, .slice none 0 0, .int .i64 0, .int .i64 0, .int .i64 0, .int .i64 0, .slice none 0 0, .int .i64 0] 100)
  have e0 := heap3_0 w (.cells #[.int .u8 2, .int .i64 a] 27) (.cells #[.int .u8 2, .int .i64 b] 27) (.cells #[.string ⟨#[]⟩, .int .i64 0, .int .u8 0, .int .i64 0, .int .u8 0, .string ⟨#[]⟩, .slice none 0 0, .int .i64 0, .int .i64 0, .int .i64 0, .int .i64 0, .slice none 0 0, .int .i64 0] 100)
  have e1 := heap3_1 w (.cells #[.int .u8 2, .int .i64 a] 27) (.cells #[.int .u8 2, .int .i64 b] 27) (.cells #[.string ⟨#[]⟩, .int .i64 0, .int .u8 0, .int .i64 0, .int .u8 0, .string ⟨#[]⟩, .slice none 0 0, .int .i64 0, .int .i64 0, .int .i64 0, .int .i64 0, .slice none 0 0, .int .i64 0] 100)
  have e2 := heap3_2 w (.cells #[.int .u8 2, .int .i64 a] 27) (.cells #[.int .u8 2, .int .i64 b] 27) (.cells #[.string ⟨#[]⟩, .int .i64 0, .int .u8 0, .int .i64 0, .int .u8 0, .string ⟨#[]⟩, .slice none 0 0, .int .i64 0, .int .i64 0, .int .i64 0, .int .i64 0, .slice none 0 0, .int .i64 0] 100)
  obtain ⟨x0, x1⟩ := cell_row2 e0
  obtain ⟨y0, y1⟩ := cell_row2 e1
  have HF : ∀ W, Below w.heap.size w W → Calls Tryz.prog 169 #[.int .i64 a, .int .i64 b] W (DeedR W d) := fun W hW => sMost_in a b W hd
  have N1 := neqNil
  have N2 := neqFn
  clear hd hg4 hg5
  go_enter Tryz.func53, Tryz.ntmps53
  go_wp2_with (first
    | (go_at_call 174; refine halt_here ?_))
  unfold Halted
  have hsz : (((w.alloc (.cells #[.int .u8 2, .int .i64 a] 27)).alloc (.cells #[.int .u8 2, .int .i64 b] 27)).alloc (.cells #[.string ⟨#[]⟩, .int .i64 0, .int .u8 0, .int .i64 0, .int .u8 0, .string ⟨#[]⟩, .slice none 0 0, .int .i64 0, .int .i64 0, .int .i64 0, .int .i64 0, .slice none 0 0, .int .i64 0] 100)).heap.size = w.heap.size + 1 + 1 + 1 := by simp
  generalize hW : ((w.alloc (.cells #[.int .u8 2, .int .i64 a] 27)).alloc (.cells #[.int .u8 2, .int .i64 b] 27)).alloc (.cells #[.string ⟨#[]⟩, .int .i64 0, .int .u8 0, .int .i64 0, .int .u8 0, .string ⟨#[]⟩, .slice none 0 0, .int .i64 0, .int .i64 0, .int .i64 0, .int .i64 0, .slice none 0 0, .int .i64 0] 100) = W at *
  clear hW
  have hnew := heap_alloc_new W (.cells #[.int .u8 2, .int .i64 a, .int .u8 2, .int .i64 b] 27)
  have hBY := below1 W (.cells #[.int .u8 2, .int .i64 a, .int .u8 2, .int .i64 b] 27)
  rw [hsz] at hnew
  clear hsz
  refine Calls.mono (anyCell_in (l := [⟨2, a⟩, ⟨2, b⟩]) 2 (one_vals2 hnew) (by simp) false (no_cells a b)) ?_
  rintro e w0 ⟨rfl, hB0⟩
  have hB' := hBY.trans (hB0.mono hBY.size)
  have hBw := hB.trans (hB'.mono hB.size)
  have f0 := (hB'.block _ (Array.getElem?_eq_some_iff.1 e0).1).trans e0
  have f1 := (hB'.block _ (Array.getElem?_eq_some_iff.1 e1).1).trans e1
  have f2 := (hB'.block _ (Array.getElem?_eq_some_iff.1 e2).1).trans e2
  have fg := (hBw.block _ (Array.getElem?_eq_some_iff.1 hg).1).trans hg
  clear x0 x1 y0 y1 e0 e1 e2 hnew hBY hB'
  have t0 := cell_sign fg (i := 21) (v := .func (.func 169) #[] #[]) (by rfl)
  have t1 := cell_sign fg (i := 22) (v := .func (.func 170) #[] #[]) (by rfl)
  have t2 := cell_sign fg (i := 23) (v := .nilFunc) (by rfl)
  have hBS := below1 w0 (.cells #[.func (.func 169) #[] #[], .func (.func 170) #[] #[], .nilFunc] 148)
  have hBw2 := hBw.trans (hBS.mono hBw.size)
  have g0 := (hBS.block _ (Array.getElem?_eq_some_iff.1 f0).1).trans f0
  have g1 := (hBS.block _ (Array.getElem?_eq_some_iff.1 f1).1).trans f1
  have g2 := (hBS.block _ (Array.getElem?_eq_some_iff.1 f2).1).trans f2
  obtain ⟨x0, x1⟩ := cell_row2 g0
  obtain ⟨y0, y1⟩ := cell_row2 g1
  obtain ⟨⟨s0, s1, s2⟩, -⟩ := cell_row3P (heap_alloc_new w0 (.cells #[.func (.func 169) #[] #[], .func (.func 170) #[] #[], .nilFunc] 148))
  have H1 := HF _ hBw2
  clear HF hg fg
  go_wp2_with (first
    | (go_at_call 169; (with_reducible refine H1.mono ?_); clear H1; rintro e w1 ⟨q, c_, q2, rfl, h1, h2, hB1⟩; have hr := (hB1.block _ (Array.getElem?_eq_some_iff.1 g2).1).trans g2; obtain ⟨⟨z0, z1, z2, z3, z4, z5, z6, z7, z8, z9, z10, z11, z12⟩, y0, y1, y2, y3, y4, y5, y6, y7, y8, y9, y10, y11, y12⟩ := cell_row13 hr))
  refine bodyPost_ret (results_cell_row (by rfl) _ _ (w.heap.size + 1 + 1) 100 _ _ _ (by rfl) (set13_row hr) Tryz.underlying100 (by rfl) infoDeed) (by rfl) ?_
  exact deed_fin hr (by omega) d h1 h2 (hBw2.trans (hB1.mono hBw2.size))


end Go.Proofs.YtgokofomoachaaaGreatDoor
