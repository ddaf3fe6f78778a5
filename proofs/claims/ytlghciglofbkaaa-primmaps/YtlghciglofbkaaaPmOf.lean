/- prim: a sign of two whole numbers. -/
import Derived.Test.YtlghciglofbkaaaPmBin
namespace Go.Proofs.Ytlghciglofbkaaa
set_option linter.unusedVariables false
set_option linter.unusedSimpArgs false
open Go.RowKit

variable {w : World}

theorem fine_ints (S : List Om) (a b : Int) : fineP S [⟨2, a⟩, ⟨2, b⟩] := by
  have key : ∀ n : Int, checkP S ⟨2, n⟩ := fun n => by
    have hl : leadO S ⟨2, n⟩ = none := by unfold leadO; rw [if_neg (fun hh => by have := hh.1; simp at this)]
    refine ⟨⟨fun e => by simp at e, fun e => by simp at e, fun e => by simp at e⟩, fun x o hx ho => ?_⟩
    exact (hx (fun _ => False) (fun v hv h => by simp at hv; subst hv; exact h hl) (fun _ _ h => h.elim)).elim
  intro v hv
  simp at hv
  rcases hv with rfl | rfl
  · exact ⟨by simp, key a⟩
  · exact ⟨by simp, key b⟩

theorem neqFn40 (W : World) (F : Nat) (bd : Array Value) : (binOp .neq 46 (.func (.func F) #[] bd) .nilFunc).run Try.prog W = .ok (.bool true) W := by
  kernel_rfl

theorem neqNil (W : World) : (binOp .neq 40 .nilFunc .nilFunc).run Try.prog W = .ok (.bool false) W := by
  kernel_rfl

set_option maxRecDepth 20000 in
set_option maxHeartbeats 1000000 in
theorem of_signs_1 {p : Option Addr} {S : List Om} (c : Nat) (f1 : Value) (a b : Int) (d : Dv) (HF : ∀ W, Below w.heap.size w W → Calls Try.prog 28 #[.slice p S.length c, .int .i64 a, .int .i64 b] W (DidR W d.S d.v d.t d.n)) :
    Calls Try.prog 15 #[.agg #[(.func (.func 28) #[] #[]), f1, .nilFunc], .slice p S.length c, .agg #[.int .u8 2, .int .i64 a], .agg #[.int .u8 2, .int .i64 b]] w (DidR w d.S d.v d.t d.n) := by
  have hB := below4' w (.cells #[(.func (.func 28) #[] #[]), f1, .nilFunc] 49) (.cells #[.int .u8 2, .int .i64 a] 26) (.cells #[.int .u8 2, .int .i64 b] 26) noD
  have b0 := heap4_0 w (.cells #[(.func (.func 28) #[] #[]), f1, .nilFunc] 49) (.cells #[.int .u8 2, .int .i64 a] 26) (.cells #[.int .u8 2, .int .i64 b] 26) noD
  have b1 := heap4_1 w (.cells #[(.func (.func 28) #[] #[]), f1, .nilFunc] 49) (.cells #[.int .u8 2, .int .i64 a] 26) (.cells #[.int .u8 2, .int .i64 b] 26) noD
  have b2 := heap4_2 w (.cells #[(.func (.func 28) #[] #[]), f1, .nilFunc] 49) (.cells #[.int .u8 2, .int .i64 a] 26) (.cells #[.int .u8 2, .int .i64 b] 26) noD
  have b3 := heap4_3 w (.cells #[(.func (.func 28) #[] #[]), f1, .nilFunc] 49) (.cells #[.int .u8 2, .int .i64 a] 26) (.cells #[.int .u8 2, .int .i64 b] 26) noD
  have HF1 := HF _ hB
  unfold noD at hB b0 b1 b2 b3 HF1
  obtain ⟨⟨t0, t1, t2⟩, -⟩ := cell_row3P b0
  obtain ⟨x0, x1⟩ := cell_row2 b1
  obtain ⟨y0, y1⟩ := cell_row2 b2
  have l3 := (Array.getElem?_eq_some_iff.1 b3).1
  have N1 := neqNil
  have N2 := neqFn40
  clear HF
  go_enter Try.func15, Try.ntmps15
  go_wp2_with (first
    | (go_at_call 28; (with_reducible refine HF1.mono ?_); clear HF1; rintro e w1 ⟨p1, c1, rfl, hts, hB1⟩; have hr := (hB1.block _ l3).trans b3; obtain ⟨⟨z0, z1, z2, z3, z4⟩, s0, s1, s2, s3, s4⟩ := cell_row5 hr))
  refine bodyPost_ret (results_cell_row (by rfl) _ _ (w.heap.size + 1 + 1 + 1) 28 _ _ _ (by rfl) (set5_row hr) Try.underlying28 (by rfl) infoDid) (by rfl) ?_
  exact did_fin hr (by omega) (hts_mono hts hB.size) (hB.trans (hB1.mono hB.size)) d.v d.t d.n

set_option maxRecDepth 20000 in
set_option maxHeartbeats 1000000 in
theorem of_signs_3 {p : Option Addr} {S : List Om} (c : Nat) (f1 : Value) (a b : Int) (d : Dv) (HF : ∀ W, Below w.heap.size w W → Calls Try.prog 31 #[.slice p S.length c, .int .i64 a, .int .i64 b] W (DidR W d.S d.v d.t d.n)) :
    Calls Try.prog 15 #[.agg #[(.func (.func 31) #[] #[]), f1, .nilFunc], .slice p S.length c, .agg #[.int .u8 2, .int .i64 a], .agg #[.int .u8 2, .int .i64 b]] w (DidR w d.S d.v d.t d.n) := by
  have hB := below4' w (.cells #[(.func (.func 31) #[] #[]), f1, .nilFunc] 49) (.cells #[.int .u8 2, .int .i64 a] 26) (.cells #[.int .u8 2, .int .i64 b] 26) noD
  have b0 := heap4_0 w (.cells #[(.func (.func 31) #[] #[]), f1, .nilFunc] 49) (.cells #[.int .u8 2, .int .i64 a] 26) (.cells #[.int .u8 2, .int .i64 b] 26) noD
  have b1 := heap4_1 w (.cells #[(.func (.func 31) #[] #[]), f1, .nilFunc] 49) (.cells #[.int .u8 2, .int .i64 a] 26) (.cells #[.int .u8 2, .int .i64 b] 26) noD
  have b2 := heap4_2 w (.cells #[(.func (.func 31) #[] #[]), f1, .nilFunc] 49) (.cells #[.int .u8 2, .int .i64 a] 26) (.cells #[.int .u8 2, .int .i64 b] 26) noD
  have b3 := heap4_3 w (.cells #[(.func (.func 31) #[] #[]), f1, .nilFunc] 49) (.cells #[.int .u8 2, .int .i64 a] 26) (.cells #[.int .u8 2, .int .i64 b] 26) noD
  have HF1 := HF _ hB
  unfold noD at hB b0 b1 b2 b3 HF1
  obtain ⟨⟨t0, t1, t2⟩, -⟩ := cell_row3P b0
  obtain ⟨x0, x1⟩ := cell_row2 b1
  obtain ⟨y0, y1⟩ := cell_row2 b2
  have l3 := (Array.getElem?_eq_some_iff.1 b3).1
  have N1 := neqNil
  have N2 := neqFn40
  clear HF
  go_enter Try.func15, Try.ntmps15
  go_wp2_with (first
    | (go_at_call 31; (with_reducible refine HF1.mono ?_); clear HF1; rintro e w1 ⟨p1, c1, rfl, hts, hB1⟩; have hr := (hB1.block _ l3).trans b3; obtain ⟨⟨z0, z1, z2, z3, z4⟩, s0, s1, s2, s3, s4⟩ := cell_row5 hr))
  refine bodyPost_ret (results_cell_row (by rfl) _ _ (w.heap.size + 1 + 1 + 1) 28 _ _ _ (by rfl) (set5_row hr) Try.underlying28 (by rfl) infoDid) (by rfl) ?_
  exact did_fin hr (by omega) (hts_mono hts hB.size) (hB.trans (hB1.mono hB.size)) d.v d.t d.n

set_option maxRecDepth 20000 in
set_option maxHeartbeats 1000000 in
theorem of_signs_4 {p : Option Addr} {S : List Om} (c : Nat) (f1 : Value) (a b : Int) (d : Dv) (HF : ∀ W, Below w.heap.size w W → Calls Try.prog 32 #[.slice p S.length c, .int .i64 a, .int .i64 b] W (DidR W d.S d.v d.t d.n)) :
    Calls Try.prog 15 #[.agg #[(.func (.func 32) #[] #[]), f1, .nilFunc], .slice p S.length c, .agg #[.int .u8 2, .int .i64 a], .agg #[.int .u8 2, .int .i64 b]] w (DidR w d.S d.v d.t d.n) := by
  have hB := below4' w (.cells #[(.func (.func 32) #[] #[]), f1, .nilFunc] 49) (.cells #[.int .u8 2, .int .i64 a] 26) (.cells #[.int .u8 2, .int .i64 b] 26) noD
  have b0 := heap4_0 w (.cells #[(.func (.func 32) #[] #[]), f1, .nilFunc] 49) (.cells #[.int .u8 2, .int .i64 a] 26) (.cells #[.int .u8 2, .int .i64 b] 26) noD
  have b1 := heap4_1 w (.cells #[(.func (.func 32) #[] #[]), f1, .nilFunc] 49) (.cells #[.int .u8 2, .int .i64 a] 26) (.cells #[.int .u8 2, .int .i64 b] 26) noD
  have b2 := heap4_2 w (.cells #[(.func (.func 32) #[] #[]), f1, .nilFunc] 49) (.cells #[.int .u8 2, .int .i64 a] 26) (.cells #[.int .u8 2, .int .i64 b] 26) noD
  have b3 := heap4_3 w (.cells #[(.func (.func 32) #[] #[]), f1, .nilFunc] 49) (.cells #[.int .u8 2, .int .i64 a] 26) (.cells #[.int .u8 2, .int .i64 b] 26) noD
  have HF1 := HF _ hB
  unfold noD at hB b0 b1 b2 b3 HF1
  obtain ⟨⟨t0, t1, t2⟩, -⟩ := cell_row3P b0
  obtain ⟨x0, x1⟩ := cell_row2 b1
  obtain ⟨y0, y1⟩ := cell_row2 b2
  have l3 := (Array.getElem?_eq_some_iff.1 b3).1
  have N1 := neqNil
  have N2 := neqFn40
  clear HF
  go_enter Try.func15, Try.ntmps15
  go_wp2_with (first
    | (go_at_call 32; (with_reducible refine HF1.mono ?_); clear HF1; rintro e w1 ⟨p1, c1, rfl, hts, hB1⟩; have hr := (hB1.block _ l3).trans b3; obtain ⟨⟨z0, z1, z2, z3, z4⟩, s0, s1, s2, s3, s4⟩ := cell_row5 hr))
  refine bodyPost_ret (results_cell_row (by rfl) _ _ (w.heap.size + 1 + 1 + 1) 28 _ _ _ (by rfl) (set5_row hr) Try.underlying28 (by rfl) infoDid) (by rfl) ?_
  exact did_fin hr (by omega) (hts_mono hts hB.size) (hB.trans (hB1.mono hB.size)) d.v d.t d.n

set_option maxRecDepth 20000 in
set_option maxHeartbeats 1000000 in
theorem of_signs_7 {p : Option Addr} {S : List Om} (c : Nat) (f1 : Value) (a b : Int) (d : Dv) (HF : ∀ W, Below w.heap.size w W → Calls Try.prog 36 #[.slice p S.length c, .int .i64 a, .int .i64 b] W (DidR W d.S d.v d.t d.n)) :
    Calls Try.prog 15 #[.agg #[(.func (.func 36) #[] #[]), f1, .nilFunc], .slice p S.length c, .agg #[.int .u8 2, .int .i64 a], .agg #[.int .u8 2, .int .i64 b]] w (DidR w d.S d.v d.t d.n) := by
  have hB := below4' w (.cells #[(.func (.func 36) #[] #[]), f1, .nilFunc] 49) (.cells #[.int .u8 2, .int .i64 a] 26) (.cells #[.int .u8 2, .int .i64 b] 26) noD
  have b0 := heap4_0 w (.cells #[(.func (.func 36) #[] #[]), f1, .nilFunc] 49) (.cells #[.int .u8 2, .int .i64 a] 26) (.cells #[.int .u8 2, .int .i64 b] 26) noD
  have b1 := heap4_1 w (.cells #[(.func (.func 36) #[] #[]), f1, .nilFunc] 49) (.cells #[.int .u8 2, .int .i64 a] 26) (.cells #[.int .u8 2, .int .i64 b] 26) noD
  have b2 := heap4_2 w (.cells #[(.func (.func 36) #[] #[]), f1, .nilFunc] 49) (.cells #[.int .u8 2, .int .i64 a] 26) (.cells #[.int .u8 2, .int .i64 b] 26) noD
  have b3 := heap4_3 w (.cells #[(.func (.func 36) #[] #[]), f1, .nilFunc] 49) (.cells #[.int .u8 2, .int .i64 a] 26) (.cells #[.int .u8 2, .int .i64 b] 26) noD
  have HF1 := HF _ hB
  unfold noD at hB b0 b1 b2 b3 HF1
  obtain ⟨⟨t0, t1, t2⟩, -⟩ := cell_row3P b0
  obtain ⟨x0, x1⟩ := cell_row2 b1
  obtain ⟨y0, y1⟩ := cell_row2 b2
  have l3 := (Array.getElem?_eq_some_iff.1 b3).1
  have N1 := neqNil
  have N2 := neqFn40
  clear HF
  go_enter Try.func15, Try.ntmps15
  go_wp2_with (first
    | (go_at_call 36; (with_reducible refine HF1.mono ?_); clear HF1; rintro e w1 ⟨p1, c1, rfl, hts, hB1⟩; have hr := (hB1.block _ l3).trans b3; obtain ⟨⟨z0, z1, z2, z3, z4⟩, s0, s1, s2, s3, s4⟩ := cell_row5 hr))
  refine bodyPost_ret (results_cell_row (by rfl) _ _ (w.heap.size + 1 + 1 + 1) 28 _ _ _ (by rfl) (set5_row hr) Try.underlying28 (by rfl) infoDid) (by rfl) ?_
  exact did_fin hr (by omega) (hts_mono hts hB.size) (hB.trans (hB1.mono hB.size)) d.v d.t d.n

set_option maxRecDepth 20000 in
set_option maxHeartbeats 1000000 in
theorem of_signs_9 {p : Option Addr} {S : List Om} (c : Nat) (f1 : Value) (a b : Int) (d : Dv) (HF : ∀ W, Below w.heap.size w W → Calls Try.prog 39 #[.slice p S.length c, .int .i64 a, .int .i64 b] W (DidR W d.S d.v d.t d.n)) :
    Calls Try.prog 15 #[.agg #[(.func (.func 39) #[] #[]), f1, .nilFunc], .slice p S.length c, .agg #[.int .u8 2, .int .i64 a], .agg #[.int .u8 2, .int .i64 b]] w (DidR w d.S d.v d.t d.n) := by
  have hB := below4' w (.cells #[(.func (.func 39) #[] #[]), f1, .nilFunc] 49) (.cells #[.int .u8 2, .int .i64 a] 26) (.cells #[.int .u8 2, .int .i64 b] 26) noD
  have b0 := heap4_0 w (.cells #[(.func (.func 39) #[] #[]), f1, .nilFunc] 49) (.cells #[.int .u8 2, .int .i64 a] 26) (.cells #[.int .u8 2, .int .i64 b] 26) noD
  have b1 := heap4_1 w (.cells #[(.func (.func 39) #[] #[]), f1, .nilFunc] 49) (.cells #[.int .u8 2, .int .i64 a] 26) (.cells #[.int .u8 2, .int .i64 b] 26) noD
  have b2 := heap4_2 w (.cells #[(.func (.func 39) #[] #[]), f1, .nilFunc] 49) (.cells #[.int .u8 2, .int .i64 a] 26) (.cells #[.int .u8 2, .int .i64 b] 26) noD
  have b3 := heap4_3 w (.cells #[(.func (.func 39) #[] #[]), f1, .nilFunc] 49) (.cells #[.int .u8 2, .int .i64 a] 26) (.cells #[.int .u8 2, .int .i64 b] 26) noD
  have HF1 := HF _ hB
  unfold noD at hB b0 b1 b2 b3 HF1
  obtain ⟨⟨t0, t1, t2⟩, -⟩ := cell_row3P b0
  obtain ⟨x0, x1⟩ := cell_row2 b1
  obtain ⟨y0, y1⟩ := cell_row2 b2
  have l3 := (Array.getElem?_eq_some_iff.1 b3).1
  have N1 := neqNil
  have N2 := neqFn40
  clear HF
  go_enter Try.func15, Try.ntmps15
  go_wp2_with (first
    | (go_at_call 39; (with_reducible refine HF1.mono ?_); clear HF1; rintro e w1 ⟨p1, c1, rfl, hts, hB1⟩; have hr := (hB1.block _ l3).trans b3; obtain ⟨⟨z0, z1, z2, z3, z4⟩, s0, s1, s2, s3, s4⟩ := cell_row5 hr))
  refine bodyPost_ret (results_cell_row (by rfl) _ _ (w.heap.size + 1 + 1 + 1) 28 _ _ _ (by rfl) (set5_row hr) Try.underlying28 (by rfl) infoDid) (by rfl) ?_
  exact did_fin hr (by omega) (hts_mono hts hB.size) (hB.trans (hB1.mono hB.size)) d.v d.t d.n

set_option maxRecDepth 20000 in
set_option maxHeartbeats 1000000 in
theorem of_unlessZero_1 {p : Option Addr} {S : List Om} (c : Nat) (f1 : Value) (a b : Int) (Bf : Nat) (d : Dv) (HF : ∀ W, Below w.heap.size w W → Calls Try.prog 54 #[.slice p S.length c, .int .i64 a, .int .i64 b, .pointer (some ⟨Bf, 0, none⟩)] W (DidR W d.S d.v d.t d.n)) :
    Calls Try.prog 15 #[.agg #[(.func (.func 54) #[] #[.pointer (some ⟨Bf, 0, none⟩)]), f1, .nilFunc], .slice p S.length c, .agg #[.int .u8 2, .int .i64 a], .agg #[.int .u8 2, .int .i64 b]] w (DidR w d.S d.v d.t d.n) := by
  have hB := below4' w (.cells #[(.func (.func 54) #[] #[.pointer (some ⟨Bf, 0, none⟩)]), f1, .nilFunc] 49) (.cells #[.int .u8 2, .int .i64 a] 26) (.cells #[.int .u8 2, .int .i64 b] 26) noD
  have b0 := heap4_0 w (.cells #[(.func (.func 54) #[] #[.pointer (some ⟨Bf, 0, none⟩)]), f1, .nilFunc] 49) (.cells #[.int .u8 2, .int .i64 a] 26) (.cells #[.int .u8 2, .int .i64 b] 26) noD
  have b1 := heap4_1 w (.cells #[(.func (.func 54) #[] #[.pointer (some ⟨Bf, 0, none⟩)]), f1, .nilFunc] 49) (.cells #[.int .u8 2, .int .i64 a] 26) (.cells #[.int .u8 2, .int .i64 b] 26) noD
  have b2 := heap4_2 w (.cells #[(.func (.func 54) #[] #[.pointer (some ⟨Bf, 0, none⟩)]), f1, .nilFunc] 49) (.cells #[.int .u8 2, .int .i64 a] 26) (.cells #[.int .u8 2, .int .i64 b] 26) noD
  have b3 := heap4_3 w (.cells #[(.func (.func 54) #[] #[.pointer (some ⟨Bf, 0, none⟩)]), f1, .nilFunc] 49) (.cells #[.int .u8 2, .int .i64 a] 26) (.cells #[.int .u8 2, .int .i64 b] 26) noD
  have HF1 := HF _ hB
  unfold noD at hB b0 b1 b2 b3 HF1
  obtain ⟨⟨t0, t1, t2⟩, -⟩ := cell_row3P b0
  obtain ⟨x0, x1⟩ := cell_row2 b1
  obtain ⟨y0, y1⟩ := cell_row2 b2
  have l3 := (Array.getElem?_eq_some_iff.1 b3).1
  have N1 := neqNil
  have N2 := neqFn40
  clear HF
  go_enter Try.func15, Try.ntmps15
  go_wp2_with (first
    | (go_at_call 54; (with_reducible refine HF1.mono ?_); clear HF1; rintro e w1 ⟨p1, c1, rfl, hts, hB1⟩; have hr := (hB1.block _ l3).trans b3; obtain ⟨⟨z0, z1, z2, z3, z4⟩, s0, s1, s2, s3, s4⟩ := cell_row5 hr))
  refine bodyPost_ret (results_cell_row (by rfl) _ _ (w.heap.size + 1 + 1 + 1) 28 _ _ _ (by rfl) (set5_row hr) Try.underlying28 (by rfl) infoDid) (by rfl) ?_
  exact did_fin hr (by omega) (hts_mono hts hB.size) (hB.trans (hB1.mono hB.size)) d.v d.t d.n

end Go.Proofs.Ytlghciglofbkaaa
