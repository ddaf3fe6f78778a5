/- prim: Bin of two whole numbers. -/
import Derived.Test.YtlghciglofbkaaaPmOf
import Derived.Test.YtlghciglofbkaaaPmPuts
namespace Go.Proofs.Ytlghciglofbkaaa
set_option linter.unusedVariables false
set_option linter.unusedSimpArgs false
open Go.RowKit

variable {w : World}

theorem heap_size6 (w : World) (o1 o2 o3 o4 o5 o6 : Obj) : ((((((w.alloc o1).alloc o2).alloc o3).alloc o4).alloc o5).alloc o6).heap.size = w.heap.size + 1 + 1 + 1 + 1 + 1 + 1 := by simp

set_option maxRecDepth 20000 in
set_option maxHeartbeats 2000000 in
theorem Bin_Add {p : Option Addr} {S : List Om} (h : Ask w p S) (c : Nat) (a b : Int) (d : Dv) (HF : ∀ W, Below w.heap.size w W → Calls Try.prog 28 #[.slice p S.length c, .int .i64 a, .int .i64 b] W (DidR W d.S d.v d.t d.n)) :
    Calls Try.prog 5 #[.slice p S.length c, .int .u8 1, .agg #[.int .u8 2, .int .i64 a], .agg #[.int .u8 2, .int .i64 b]] w (DidR w d.S d.v d.t d.n) := by
  have HS := fun (W : World) => signs_in W
  have HM := fun (W : World) (bb : Nat) (hB : Below w.heap.size w W) (hb : W.heap[bb]? = some (.cells #[.int .u8 2, .int .i64 a, .int .u8 2, .int .i64 b] 26 (0, 0))) => pmayBe_in (h.below hB) c (l := [⟨2, a⟩, ⟨2, b⟩]) 2 (one_vals2 (u := ⟨2, a⟩) (v := ⟨2, b⟩) (b := bb) hb) (by simp) true (by simp [fine_ints])
  simp only [show ((2 : Nat) : Int) = 2 from rfl, List.length_cons, List.length_nil, Nat.zero_add, Nat.reduceAdd] at HM
  have hB := below3' w (.cells #[.int .u8 2, .int .i64 a] 26) (.cells #[.int .u8 2, .int .i64 b] 26) noD
  have b0 := heap3_0 w (.cells #[.int .u8 2, .int .i64 a] 26) (.cells #[.int .u8 2, .int .i64 b] 26) noD
  have b1 := heap3_1 w (.cells #[.int .u8 2, .int .i64 a] 26) (.cells #[.int .u8 2, .int .i64 b] 26) noD
  have b2 := heap3_2 w (.cells #[.int .u8 2, .int .i64 a] 26) (.cells #[.int .u8 2, .int .i64 b] 26) noD
  have hsz := heap_size3 w (.cells #[.int .u8 2, .int .i64 a] 26) (.cells #[.int .u8 2, .int .i64 b] 26) noD
  unfold noD at hB b0 b1 b2 hsz
  go_enter Try.func5, Try.ntmps5
  go_wp2_with (first
    | (go_at_call 12; refine halt_here ?_))
  unfold Halted
  generalize hW : ((w.alloc (.cells #[.int .u8 2, .int .i64 a] 26)).alloc (.cells #[.int .u8 2, .int .i64 b] 26)).alloc (.cells #[.slice none 0 0, .int .u8 0, .int .i64 0, .string ⟨#[]⟩, .int .i64 0] 28) = W at *
  have HZ : Hid _ := hsz
  refine Calls.mono (HS W) ?_
  clear HS hW
  rintro e W1 ⟨rfl, hW1⟩
  have hD := below3' W (.cells #[fnV 34] 62) (.cells #[fnV 35] 62) (.cells (signRow W.heap.size (W.heap.size + 1)) 49)
  have q0 := heap3_0 W (.cells #[fnV 34] 62) (.cells #[fnV 35] 62) (.cells (signRow W.heap.size (W.heap.size + 1)) 49)
  have q1 := heap3_1 W (.cells #[fnV 34] 62) (.cells #[fnV 35] 62) (.cells (signRow W.heap.size (W.heap.size + 1)) 49)
  have q2 := heap3_2 W (.cells #[fnV 34] 62) (.cells #[fnV 35] 62) (.cells (signRow W.heap.size (W.heap.size + 1)) 49)
  have hs1 := heap_size3 W (.cells #[fnV 34] 62) (.cells #[fnV 35] 62) (.cells (signRow W.heap.size (W.heap.size + 1)) 49)
  rw [← hW1] at hD q0 q1 q2 hs1
  clear hW1
  rw [hsz] at q0 q1 q2 hs1 ⊢
  have hBw1 := hB.trans (hD.mono hB.size)
  have e0 := (hD.block _ (Array.getElem?_eq_some_iff.1 b0).1).trans b0
  have e1 := (hD.block _ (Array.getElem?_eq_some_iff.1 b1).1).trans b1
  have e2 := (hD.block _ (Array.getElem?_eq_some_iff.1 b2).1).trans b2
  have HSZ : Hid _ := hs1
  clear b0 b1 b2 hsz hs1 hD
  obtain ⟨x0, x1⟩ := cell_row2 e0
  obtain ⟨y0, y1⟩ := cell_row2 e1
  go_wp2_with (first
    | (go_at_call 13; refine halt_here ?_))
  unfold Halted
  have hnew := heap_alloc_new W1 (.cells #[.int .u8 2, .int .i64 a, .int .u8 2, .int .i64 b] 26)
  have hBY := below1 W1 (.cells #[.int .u8 2, .int .i64 a, .int .u8 2, .int .i64 b] 26)
  have hB' := hBw1.trans (hBY.mono hBw1.size)
  refine Calls.mono (HM _ _ hB' hnew) ?_
  clear HM
  rintro e W2 ⟨rfl, hB2⟩
  have hD1 := hBY.trans (hB2.mono hBY.size)
  have hBw := hBw1.trans (hD1.mono hBw1.size)
  have f0 := (hD1.block _ (Array.getElem?_eq_some_iff.1 e0).1).trans e0
  have f1 := (hD1.block _ (Array.getElem?_eq_some_iff.1 e1).1).trans e1
  have f2 := (hD1.block _ (Array.getElem?_eq_some_iff.1 e2).1).trans e2
  have ft := (hD1.block _ (Array.getElem?_eq_some_iff.1 q2).1).trans q2
  have hq := trivial
  have hsz1 := HSZ.out
  have hl0 := (Array.getElem?_eq_some_iff.1 f0).1
  have hl1 := (Array.getElem?_eq_some_iff.1 f1).1
  have hl2 := (Array.getElem?_eq_some_iff.1 f2).1
  have hlt := (Array.getElem?_eq_some_iff.1 ft).1
  clear x0 x1 y0 y1 e0 e1 e2 hnew hBY hB2 hB'
  have FS : ∀ W', Below W2.heap.size W2 W' → ((W'.cell? ⟨w.heap.size, 0, none⟩ = some (.int .u8 2) ∧ W'.cell? ⟨w.heap.size, 1, none⟩ = some (.int .i64 a)) ∧ W'.cell? ⟨w.heap.size + 1, 0, none⟩ = some (.int .u8 2) ∧ W'.cell? ⟨w.heap.size + 1, 1, none⟩ = some (.int .i64 b)) ∧ W'.cell? ⟨w.heap.size + 1 + 1 + 1 + 1 + 1, 3, none⟩ = some (.func (.func 28) #[] #[]) ∧ W'.cell? ⟨w.heap.size + 1 + 1 + 1 + 1 + 1, 4, none⟩ = some (fnV 29) ∧ W'.cell? ⟨w.heap.size + 1 + 1 + 1 + 1 + 1, 5, none⟩ = some .nilFunc := fun W' hb => by
    have gt := (hb.block _ hlt).trans ft
    exact ⟨⟨cell_row2 ((hb.block _ hl0).trans f0), cell_row2 ((hb.block _ hl1).trans f1)⟩, by rw [cell_of_row W' _ _ _ _ _ gt]; rfl, by rw [cell_of_row W' _ _ _ _ _ gt]; rfl, by rw [cell_of_row W' _ _ _ _ _ gt]; rfl⟩
  have hDd := below_drew (Below.refl W2.heap.size W2)
  have hBd := hBw.trans (hDd.mono hBw.size)
  have HO := of_signs_1 (w := W2.drew) (S := S) (p := p) c (fnV 29) a b d (fun W hb => HF W (hBd.trans (hb.mono hBd.size)))
  have S0 := FS _ hDd
  have SW := FS _ (Below.refl _ _)
  have hn0 : w.heap.size ≠ w.heap.size + 1 + 1 := by omega
  have hn1 : w.heap.size + 1 ≠ w.heap.size + 1 + 1 := by omega
  have hnt : w.heap.size + 1 + 1 + 1 + 1 + 1 ≠ w.heap.size + 1 + 1 := by omega
  clear HF hq
  go_wp2_with fail
  go_region_held3 (fun W' => ((W'.cell? ⟨w.heap.size, 0, none⟩ = some (.int .u8 2) ∧ W'.cell? ⟨w.heap.size, 1, none⟩ = some (.int .i64 a)) ∧ W'.cell? ⟨w.heap.size + 1, 0, none⟩ = some (.int .u8 2) ∧ W'.cell? ⟨w.heap.size + 1, 1, none⟩ = some (.int .i64 b)) ∧ W'.cell? ⟨w.heap.size + 1 + 1 + 1 + 1 + 1, 3, none⟩ = some (.func (.func 28) #[] #[]) ∧ W'.cell? ⟨w.heap.size + 1 + 1 + 1 + 1 + 1, 4, none⟩ = some (fnV 29) ∧ W'.cell? ⟨w.heap.size + 1 + 1 + 1 + 1 + 1, 5, none⟩ = some .nilFunc) (first | with_reducible exact S0 | with_reducible exact SW | with_reducible exact ⟨⟨⟨s0, s1⟩, s2, s3⟩, s4, s5, s6⟩ | with_reducible exact ⟨⟨⟨(cell_set5 hn0).trans s0, (cell_set5 hn0).trans s1⟩, (cell_set5 hn1).trans s2, (cell_set5 hn1).trans s3⟩, (cell_set5 hnt).trans s4, (cell_set5 hnt).trans s5, (cell_set5 hnt).trans s6⟩ | go_keep)
    (first
      | (go_at_call 15; (with_reducible refine HO.mono ?_); clear HO; rintro e w4 ⟨p1, c1, rfl, hts, hB4⟩; have hD4 := hDd.trans (hB4.mono hDd.size); obtain ⟨⟨⟨s0, s1⟩, s2, s3⟩, s4, s5, s6⟩ := FS _ hD4; have hr := (hD4.block _ hl2).trans f2; obtain ⟨⟨z0, z1, z2, z3, z4⟩, t0, t1, t2, t3, t4⟩ := cell_row5 hr))
  all_goals
    go_wp2
    refine bodyPost_ret (results_cell_row (by rfl) _ _ (w.heap.size + 1 + 1) 28 _ _ _ (by rfl) (set5_row hr) Try.underlying28 (by rfl) infoDid) (by rfl) ?_
    exact did_fin hr (by omega) (hts_mono hts hBd.size) (hBd.trans (hB4.mono hBd.size)) d.v d.t d.n

set_option maxRecDepth 20000 in
set_option maxHeartbeats 2000000 in
theorem Bin_Sub {p : Option Addr} {S : List Om} (h : Ask w p S) (c : Nat) (a b : Int) (d : Dv) (HF : ∀ W, Below w.heap.size w W → Calls Try.prog 31 #[.slice p S.length c, .int .i64 a, .int .i64 b] W (DidR W d.S d.v d.t d.n)) :
    Calls Try.prog 5 #[.slice p S.length c, .int .u8 2, .agg #[.int .u8 2, .int .i64 a], .agg #[.int .u8 2, .int .i64 b]] w (DidR w d.S d.v d.t d.n) := by
  have HS := fun (W : World) => signs_in W
  have HM := fun (W : World) (bb : Nat) (hB : Below w.heap.size w W) (hb : W.heap[bb]? = some (.cells #[.int .u8 2, .int .i64 a, .int .u8 2, .int .i64 b] 26 (0, 0))) => pmayBe_in (h.below hB) c (l := [⟨2, a⟩, ⟨2, b⟩]) 2 (one_vals2 (u := ⟨2, a⟩) (v := ⟨2, b⟩) (b := bb) hb) (by simp) true (by simp [fine_ints])
  simp only [show ((2 : Nat) : Int) = 2 from rfl, List.length_cons, List.length_nil, Nat.zero_add, Nat.reduceAdd] at HM
  have hB := below3' w (.cells #[.int .u8 2, .int .i64 a] 26) (.cells #[.int .u8 2, .int .i64 b] 26) noD
  have b0 := heap3_0 w (.cells #[.int .u8 2, .int .i64 a] 26) (.cells #[.int .u8 2, .int .i64 b] 26) noD
  have b1 := heap3_1 w (.cells #[.int .u8 2, .int .i64 a] 26) (.cells #[.int .u8 2, .int .i64 b] 26) noD
  have b2 := heap3_2 w (.cells #[.int .u8 2, .int .i64 a] 26) (.cells #[.int .u8 2, .int .i64 b] 26) noD
  have hsz := heap_size3 w (.cells #[.int .u8 2, .int .i64 a] 26) (.cells #[.int .u8 2, .int .i64 b] 26) noD
  unfold noD at hB b0 b1 b2 hsz
  go_enter Try.func5, Try.ntmps5
  go_wp2_with (first
    | (go_at_call 12; refine halt_here ?_))
  unfold Halted
  generalize hW : ((w.alloc (.cells #[.int .u8 2, .int .i64 a] 26)).alloc (.cells #[.int .u8 2, .int .i64 b] 26)).alloc (.cells #[.slice none 0 0, .int .u8 0, .int .i64 0, .string ⟨#[]⟩, .int .i64 0] 28) = W at *
  have HZ : Hid _ := hsz
  refine Calls.mono (HS W) ?_
  clear HS hW
  rintro e W1 ⟨rfl, hW1⟩
  have hD := below3' W (.cells #[fnV 34] 62) (.cells #[fnV 35] 62) (.cells (signRow W.heap.size (W.heap.size + 1)) 49)
  have q0 := heap3_0 W (.cells #[fnV 34] 62) (.cells #[fnV 35] 62) (.cells (signRow W.heap.size (W.heap.size + 1)) 49)
  have q1 := heap3_1 W (.cells #[fnV 34] 62) (.cells #[fnV 35] 62) (.cells (signRow W.heap.size (W.heap.size + 1)) 49)
  have q2 := heap3_2 W (.cells #[fnV 34] 62) (.cells #[fnV 35] 62) (.cells (signRow W.heap.size (W.heap.size + 1)) 49)
  have hs1 := heap_size3 W (.cells #[fnV 34] 62) (.cells #[fnV 35] 62) (.cells (signRow W.heap.size (W.heap.size + 1)) 49)
  rw [← hW1] at hD q0 q1 q2 hs1
  clear hW1
  rw [hsz] at q0 q1 q2 hs1 ⊢
  have hBw1 := hB.trans (hD.mono hB.size)
  have e0 := (hD.block _ (Array.getElem?_eq_some_iff.1 b0).1).trans b0
  have e1 := (hD.block _ (Array.getElem?_eq_some_iff.1 b1).1).trans b1
  have e2 := (hD.block _ (Array.getElem?_eq_some_iff.1 b2).1).trans b2
  have HSZ : Hid _ := hs1
  clear b0 b1 b2 hsz hs1 hD
  obtain ⟨x0, x1⟩ := cell_row2 e0
  obtain ⟨y0, y1⟩ := cell_row2 e1
  go_wp2_with (first
    | (go_at_call 13; refine halt_here ?_))
  unfold Halted
  have hnew := heap_alloc_new W1 (.cells #[.int .u8 2, .int .i64 a, .int .u8 2, .int .i64 b] 26)
  have hBY := below1 W1 (.cells #[.int .u8 2, .int .i64 a, .int .u8 2, .int .i64 b] 26)
  have hB' := hBw1.trans (hBY.mono hBw1.size)
  refine Calls.mono (HM _ _ hB' hnew) ?_
  clear HM
  rintro e W2 ⟨rfl, hB2⟩
  have hD1 := hBY.trans (hB2.mono hBY.size)
  have hBw := hBw1.trans (hD1.mono hBw1.size)
  have f0 := (hD1.block _ (Array.getElem?_eq_some_iff.1 e0).1).trans e0
  have f1 := (hD1.block _ (Array.getElem?_eq_some_iff.1 e1).1).trans e1
  have f2 := (hD1.block _ (Array.getElem?_eq_some_iff.1 e2).1).trans e2
  have ft := (hD1.block _ (Array.getElem?_eq_some_iff.1 q2).1).trans q2
  have hq := trivial
  have hsz1 := HSZ.out
  have hl0 := (Array.getElem?_eq_some_iff.1 f0).1
  have hl1 := (Array.getElem?_eq_some_iff.1 f1).1
  have hl2 := (Array.getElem?_eq_some_iff.1 f2).1
  have hlt := (Array.getElem?_eq_some_iff.1 ft).1
  clear x0 x1 y0 y1 e0 e1 e2 hnew hBY hB2 hB'
  have FS : ∀ W', Below W2.heap.size W2 W' → ((W'.cell? ⟨w.heap.size, 0, none⟩ = some (.int .u8 2) ∧ W'.cell? ⟨w.heap.size, 1, none⟩ = some (.int .i64 a)) ∧ W'.cell? ⟨w.heap.size + 1, 0, none⟩ = some (.int .u8 2) ∧ W'.cell? ⟨w.heap.size + 1, 1, none⟩ = some (.int .i64 b)) ∧ W'.cell? ⟨w.heap.size + 1 + 1 + 1 + 1 + 1, 6, none⟩ = some (.func (.func 31) #[] #[]) ∧ W'.cell? ⟨w.heap.size + 1 + 1 + 1 + 1 + 1, 7, none⟩ = some .nilFunc ∧ W'.cell? ⟨w.heap.size + 1 + 1 + 1 + 1 + 1, 8, none⟩ = some .nilFunc := fun W' hb => by
    have gt := (hb.block _ hlt).trans ft
    exact ⟨⟨cell_row2 ((hb.block _ hl0).trans f0), cell_row2 ((hb.block _ hl1).trans f1)⟩, by rw [cell_of_row W' _ _ _ _ _ gt]; rfl, by rw [cell_of_row W' _ _ _ _ _ gt]; rfl, by rw [cell_of_row W' _ _ _ _ _ gt]; rfl⟩
  have hDd := below_drew (Below.refl W2.heap.size W2)
  have hBd := hBw.trans (hDd.mono hBw.size)
  have HO := of_signs_3 (w := W2.drew) (S := S) (p := p) c .nilFunc a b d (fun W hb => HF W (hBd.trans (hb.mono hBd.size)))
  have S0 := FS _ hDd
  have SW := FS _ (Below.refl _ _)
  have hn0 : w.heap.size ≠ w.heap.size + 1 + 1 := by omega
  have hn1 : w.heap.size + 1 ≠ w.heap.size + 1 + 1 := by omega
  have hnt : w.heap.size + 1 + 1 + 1 + 1 + 1 ≠ w.heap.size + 1 + 1 := by omega
  clear HF hq
  go_wp2_with fail
  go_region_held3 (fun W' => ((W'.cell? ⟨w.heap.size, 0, none⟩ = some (.int .u8 2) ∧ W'.cell? ⟨w.heap.size, 1, none⟩ = some (.int .i64 a)) ∧ W'.cell? ⟨w.heap.size + 1, 0, none⟩ = some (.int .u8 2) ∧ W'.cell? ⟨w.heap.size + 1, 1, none⟩ = some (.int .i64 b)) ∧ W'.cell? ⟨w.heap.size + 1 + 1 + 1 + 1 + 1, 6, none⟩ = some (.func (.func 31) #[] #[]) ∧ W'.cell? ⟨w.heap.size + 1 + 1 + 1 + 1 + 1, 7, none⟩ = some .nilFunc ∧ W'.cell? ⟨w.heap.size + 1 + 1 + 1 + 1 + 1, 8, none⟩ = some .nilFunc) (first | with_reducible exact S0 | with_reducible exact SW | with_reducible exact ⟨⟨⟨s0, s1⟩, s2, s3⟩, s4, s5, s6⟩ | with_reducible exact ⟨⟨⟨(cell_set5 hn0).trans s0, (cell_set5 hn0).trans s1⟩, (cell_set5 hn1).trans s2, (cell_set5 hn1).trans s3⟩, (cell_set5 hnt).trans s4, (cell_set5 hnt).trans s5, (cell_set5 hnt).trans s6⟩ | go_keep)
    (first
      | (go_at_call 15; (with_reducible refine HO.mono ?_); clear HO; rintro e w4 ⟨p1, c1, rfl, hts, hB4⟩; have hD4 := hDd.trans (hB4.mono hDd.size); obtain ⟨⟨⟨s0, s1⟩, s2, s3⟩, s4, s5, s6⟩ := FS _ hD4; have hr := (hD4.block _ hl2).trans f2; obtain ⟨⟨z0, z1, z2, z3, z4⟩, t0, t1, t2, t3, t4⟩ := cell_row5 hr))
  all_goals
    go_wp2
    refine bodyPost_ret (results_cell_row (by rfl) _ _ (w.heap.size + 1 + 1) 28 _ _ _ (by rfl) (set5_row hr) Try.underlying28 (by rfl) infoDid) (by rfl) ?_
    exact did_fin hr (by omega) (hts_mono hts hBd.size) (hBd.trans (hB4.mono hBd.size)) d.v d.t d.n

set_option maxRecDepth 20000 in
set_option maxHeartbeats 2000000 in
theorem Bin_Mul {p : Option Addr} {S : List Om} (h : Ask w p S) (c : Nat) (a b : Int) (d : Dv) (HF : ∀ W, Below w.heap.size w W → Calls Try.prog 32 #[.slice p S.length c, .int .i64 a, .int .i64 b] W (DidR W d.S d.v d.t d.n)) :
    Calls Try.prog 5 #[.slice p S.length c, .int .u8 3, .agg #[.int .u8 2, .int .i64 a], .agg #[.int .u8 2, .int .i64 b]] w (DidR w d.S d.v d.t d.n) := by
  have HS := fun (W : World) => signs_in W
  have HM := fun (W : World) (bb : Nat) (hB : Below w.heap.size w W) (hb : W.heap[bb]? = some (.cells #[.int .u8 2, .int .i64 a, .int .u8 2, .int .i64 b] 26 (0, 0))) => pmayBe_in (h.below hB) c (l := [⟨2, a⟩, ⟨2, b⟩]) 2 (one_vals2 (u := ⟨2, a⟩) (v := ⟨2, b⟩) (b := bb) hb) (by simp) true (by simp [fine_ints])
  simp only [show ((2 : Nat) : Int) = 2 from rfl, List.length_cons, List.length_nil, Nat.zero_add, Nat.reduceAdd] at HM
  have hB := below3' w (.cells #[.int .u8 2, .int .i64 a] 26) (.cells #[.int .u8 2, .int .i64 b] 26) noD
  have b0 := heap3_0 w (.cells #[.int .u8 2, .int .i64 a] 26) (.cells #[.int .u8 2, .int .i64 b] 26) noD
  have b1 := heap3_1 w (.cells #[.int .u8 2, .int .i64 a] 26) (.cells #[.int .u8 2, .int .i64 b] 26) noD
  have b2 := heap3_2 w (.cells #[.int .u8 2, .int .i64 a] 26) (.cells #[.int .u8 2, .int .i64 b] 26) noD
  have hsz := heap_size3 w (.cells #[.int .u8 2, .int .i64 a] 26) (.cells #[.int .u8 2, .int .i64 b] 26) noD
  unfold noD at hB b0 b1 b2 hsz
  go_enter Try.func5, Try.ntmps5
  go_wp2_with (first
    | (go_at_call 12; refine halt_here ?_))
  unfold Halted
  generalize hW : ((w.alloc (.cells #[.int .u8 2, .int .i64 a] 26)).alloc (.cells #[.int .u8 2, .int .i64 b] 26)).alloc (.cells #[.slice none 0 0, .int .u8 0, .int .i64 0, .string ⟨#[]⟩, .int .i64 0] 28) = W at *
  have HZ : Hid _ := hsz
  refine Calls.mono (HS W) ?_
  clear HS hW
  rintro e W1 ⟨rfl, hW1⟩
  have hD := below3' W (.cells #[fnV 34] 62) (.cells #[fnV 35] 62) (.cells (signRow W.heap.size (W.heap.size + 1)) 49)
  have q0 := heap3_0 W (.cells #[fnV 34] 62) (.cells #[fnV 35] 62) (.cells (signRow W.heap.size (W.heap.size + 1)) 49)
  have q1 := heap3_1 W (.cells #[fnV 34] 62) (.cells #[fnV 35] 62) (.cells (signRow W.heap.size (W.heap.size + 1)) 49)
  have q2 := heap3_2 W (.cells #[fnV 34] 62) (.cells #[fnV 35] 62) (.cells (signRow W.heap.size (W.heap.size + 1)) 49)
  have hs1 := heap_size3 W (.cells #[fnV 34] 62) (.cells #[fnV 35] 62) (.cells (signRow W.heap.size (W.heap.size + 1)) 49)
  rw [← hW1] at hD q0 q1 q2 hs1
  clear hW1
  rw [hsz] at q0 q1 q2 hs1 ⊢
  have hBw1 := hB.trans (hD.mono hB.size)
  have e0 := (hD.block _ (Array.getElem?_eq_some_iff.1 b0).1).trans b0
  have e1 := (hD.block _ (Array.getElem?_eq_some_iff.1 b1).1).trans b1
  have e2 := (hD.block _ (Array.getElem?_eq_some_iff.1 b2).1).trans b2
  have HSZ : Hid _ := hs1
  clear b0 b1 b2 hsz hs1 hD
  obtain ⟨x0, x1⟩ := cell_row2 e0
  obtain ⟨y0, y1⟩ := cell_row2 e1
  go_wp2_with (first
    | (go_at_call 13; refine halt_here ?_))
  unfold Halted
  have hnew := heap_alloc_new W1 (.cells #[.int .u8 2, .int .i64 a, .int .u8 2, .int .i64 b] 26)
  have hBY := below1 W1 (.cells #[.int .u8 2, .int .i64 a, .int .u8 2, .int .i64 b] 26)
  have hB' := hBw1.trans (hBY.mono hBw1.size)
  refine Calls.mono (HM _ _ hB' hnew) ?_
  clear HM
  rintro e W2 ⟨rfl, hB2⟩
  have hD1 := hBY.trans (hB2.mono hBY.size)
  have hBw := hBw1.trans (hD1.mono hBw1.size)
  have f0 := (hD1.block _ (Array.getElem?_eq_some_iff.1 e0).1).trans e0
  have f1 := (hD1.block _ (Array.getElem?_eq_some_iff.1 e1).1).trans e1
  have f2 := (hD1.block _ (Array.getElem?_eq_some_iff.1 e2).1).trans e2
  have ft := (hD1.block _ (Array.getElem?_eq_some_iff.1 q2).1).trans q2
  have hq := trivial
  have hsz1 := HSZ.out
  have hl0 := (Array.getElem?_eq_some_iff.1 f0).1
  have hl1 := (Array.getElem?_eq_some_iff.1 f1).1
  have hl2 := (Array.getElem?_eq_some_iff.1 f2).1
  have hlt := (Array.getElem?_eq_some_iff.1 ft).1
  clear x0 x1 y0 y1 e0 e1 e2 hnew hBY hB2 hB'
  have FS : ∀ W', Below W2.heap.size W2 W' → ((W'.cell? ⟨w.heap.size, 0, none⟩ = some (.int .u8 2) ∧ W'.cell? ⟨w.heap.size, 1, none⟩ = some (.int .i64 a)) ∧ W'.cell? ⟨w.heap.size + 1, 0, none⟩ = some (.int .u8 2) ∧ W'.cell? ⟨w.heap.size + 1, 1, none⟩ = some (.int .i64 b)) ∧ W'.cell? ⟨w.heap.size + 1 + 1 + 1 + 1 + 1, 9, none⟩ = some (.func (.func 32) #[] #[]) ∧ W'.cell? ⟨w.heap.size + 1 + 1 + 1 + 1 + 1, 10, none⟩ = some .nilFunc ∧ W'.cell? ⟨w.heap.size + 1 + 1 + 1 + 1 + 1, 11, none⟩ = some .nilFunc := fun W' hb => by
    have gt := (hb.block _ hlt).trans ft
    exact ⟨⟨cell_row2 ((hb.block _ hl0).trans f0), cell_row2 ((hb.block _ hl1).trans f1)⟩, by rw [cell_of_row W' _ _ _ _ _ gt]; rfl, by rw [cell_of_row W' _ _ _ _ _ gt]; rfl, by rw [cell_of_row W' _ _ _ _ _ gt]; rfl⟩
  have hDd := below_drew (Below.refl W2.heap.size W2)
  have hBd := hBw.trans (hDd.mono hBw.size)
  have HO := of_signs_4 (w := W2.drew) (S := S) (p := p) c .nilFunc a b d (fun W hb => HF W (hBd.trans (hb.mono hBd.size)))
  have S0 := FS _ hDd
  have SW := FS _ (Below.refl _ _)
  have hn0 : w.heap.size ≠ w.heap.size + 1 + 1 := by omega
  have hn1 : w.heap.size + 1 ≠ w.heap.size + 1 + 1 := by omega
  have hnt : w.heap.size + 1 + 1 + 1 + 1 + 1 ≠ w.heap.size + 1 + 1 := by omega
  clear HF hq
  go_wp2_with fail
  go_region_held3 (fun W' => ((W'.cell? ⟨w.heap.size, 0, none⟩ = some (.int .u8 2) ∧ W'.cell? ⟨w.heap.size, 1, none⟩ = some (.int .i64 a)) ∧ W'.cell? ⟨w.heap.size + 1, 0, none⟩ = some (.int .u8 2) ∧ W'.cell? ⟨w.heap.size + 1, 1, none⟩ = some (.int .i64 b)) ∧ W'.cell? ⟨w.heap.size + 1 + 1 + 1 + 1 + 1, 9, none⟩ = some (.func (.func 32) #[] #[]) ∧ W'.cell? ⟨w.heap.size + 1 + 1 + 1 + 1 + 1, 10, none⟩ = some .nilFunc ∧ W'.cell? ⟨w.heap.size + 1 + 1 + 1 + 1 + 1, 11, none⟩ = some .nilFunc) (first | with_reducible exact S0 | with_reducible exact SW | with_reducible exact ⟨⟨⟨s0, s1⟩, s2, s3⟩, s4, s5, s6⟩ | with_reducible exact ⟨⟨⟨(cell_set5 hn0).trans s0, (cell_set5 hn0).trans s1⟩, (cell_set5 hn1).trans s2, (cell_set5 hn1).trans s3⟩, (cell_set5 hnt).trans s4, (cell_set5 hnt).trans s5, (cell_set5 hnt).trans s6⟩ | go_keep)
    (first
      | (go_at_call 15; (with_reducible refine HO.mono ?_); clear HO; rintro e w4 ⟨p1, c1, rfl, hts, hB4⟩; have hD4 := hDd.trans (hB4.mono hDd.size); obtain ⟨⟨⟨s0, s1⟩, s2, s3⟩, s4, s5, s6⟩ := FS _ hD4; have hr := (hD4.block _ hl2).trans f2; obtain ⟨⟨z0, z1, z2, z3, z4⟩, t0, t1, t2, t3, t4⟩ := cell_row5 hr))
  all_goals
    go_wp2
    refine bodyPost_ret (results_cell_row (by rfl) _ _ (w.heap.size + 1 + 1) 28 _ _ _ (by rfl) (set5_row hr) Try.underlying28 (by rfl) infoDid) (by rfl) ?_
    exact did_fin hr (by omega) (hts_mono hts hBd.size) (hBd.trans (hB4.mono hBd.size)) d.v d.t d.n

set_option maxRecDepth 20000 in
set_option maxHeartbeats 2000000 in
theorem Bin_Div {p : Option Addr} {S : List Om} (h : Ask w p S) (c : Nat) (a b : Int) (d : Dv) (HF : ∀ W, Below w.heap.size w W → W.heap[w.heap.size + 1 + 1 + 1]? = some (.cells #[.func (.func 34) #[] #[]] 62 (0, 0)) → Calls Try.prog 54 #[.slice p S.length c, .int .i64 a, .int .i64 b, .pointer (some ⟨w.heap.size + 1 + 1 + 1, 0, none⟩)] W (DidR W d.S d.v d.t d.n)) :
    Calls Try.prog 5 #[.slice p S.length c, .int .u8 4, .agg #[.int .u8 2, .int .i64 a], .agg #[.int .u8 2, .int .i64 b]] w (DidR w d.S d.v d.t d.n) := by
  have HS := fun (W : World) => signs_in W
  have HM := fun (W : World) (bb : Nat) (hB : Below w.heap.size w W) (hb : W.heap[bb]? = some (.cells #[.int .u8 2, .int .i64 a, .int .u8 2, .int .i64 b] 26 (0, 0))) => pmayBe_in (h.below hB) c (l := [⟨2, a⟩, ⟨2, b⟩]) 2 (one_vals2 (u := ⟨2, a⟩) (v := ⟨2, b⟩) (b := bb) hb) (by simp) true (by simp [fine_ints])
  simp only [show ((2 : Nat) : Int) = 2 from rfl, List.length_cons, List.length_nil, Nat.zero_add, Nat.reduceAdd] at HM
  have hB := below3' w (.cells #[.int .u8 2, .int .i64 a] 26) (.cells #[.int .u8 2, .int .i64 b] 26) noD
  have b0 := heap3_0 w (.cells #[.int .u8 2, .int .i64 a] 26) (.cells #[.int .u8 2, .int .i64 b] 26) noD
  have b1 := heap3_1 w (.cells #[.int .u8 2, .int .i64 a] 26) (.cells #[.int .u8 2, .int .i64 b] 26) noD
  have b2 := heap3_2 w (.cells #[.int .u8 2, .int .i64 a] 26) (.cells #[.int .u8 2, .int .i64 b] 26) noD
  have hsz := heap_size3 w (.cells #[.int .u8 2, .int .i64 a] 26) (.cells #[.int .u8 2, .int .i64 b] 26) noD
  unfold noD at hB b0 b1 b2 hsz
  go_enter Try.func5, Try.ntmps5
  go_wp2_with (first
    | (go_at_call 12; refine halt_here ?_))
  unfold Halted
  generalize hW : ((w.alloc (.cells #[.int .u8 2, .int .i64 a] 26)).alloc (.cells #[.int .u8 2, .int .i64 b] 26)).alloc (.cells #[.slice none 0 0, .int .u8 0, .int .i64 0, .string ⟨#[]⟩, .int .i64 0] 28) = W at *
  have HZ : Hid _ := hsz
  refine Calls.mono (HS W) ?_
  clear HS hW
  rintro e W1 ⟨rfl, hW1⟩
  have hD := below3' W (.cells #[fnV 34] 62) (.cells #[fnV 35] 62) (.cells (signRow W.heap.size (W.heap.size + 1)) 49)
  have q0 := heap3_0 W (.cells #[fnV 34] 62) (.cells #[fnV 35] 62) (.cells (signRow W.heap.size (W.heap.size + 1)) 49)
  have q1 := heap3_1 W (.cells #[fnV 34] 62) (.cells #[fnV 35] 62) (.cells (signRow W.heap.size (W.heap.size + 1)) 49)
  have q2 := heap3_2 W (.cells #[fnV 34] 62) (.cells #[fnV 35] 62) (.cells (signRow W.heap.size (W.heap.size + 1)) 49)
  have hs1 := heap_size3 W (.cells #[fnV 34] 62) (.cells #[fnV 35] 62) (.cells (signRow W.heap.size (W.heap.size + 1)) 49)
  rw [← hW1] at hD q0 q1 q2 hs1
  clear hW1
  rw [hsz] at q0 q1 q2 hs1 ⊢
  have hBw1 := hB.trans (hD.mono hB.size)
  have e0 := (hD.block _ (Array.getElem?_eq_some_iff.1 b0).1).trans b0
  have e1 := (hD.block _ (Array.getElem?_eq_some_iff.1 b1).1).trans b1
  have e2 := (hD.block _ (Array.getElem?_eq_some_iff.1 b2).1).trans b2
  have HSZ : Hid _ := hs1
  clear b0 b1 b2 hsz hs1 hD
  obtain ⟨x0, x1⟩ := cell_row2 e0
  obtain ⟨y0, y1⟩ := cell_row2 e1
  go_wp2_with (first
    | (go_at_call 13; refine halt_here ?_))
  unfold Halted
  have hnew := heap_alloc_new W1 (.cells #[.int .u8 2, .int .i64 a, .int .u8 2, .int .i64 b] 26)
  have hBY := below1 W1 (.cells #[.int .u8 2, .int .i64 a, .int .u8 2, .int .i64 b] 26)
  have hB' := hBw1.trans (hBY.mono hBw1.size)
  refine Calls.mono (HM _ _ hB' hnew) ?_
  clear HM
  rintro e W2 ⟨rfl, hB2⟩
  have hD1 := hBY.trans (hB2.mono hBY.size)
  have hBw := hBw1.trans (hD1.mono hBw1.size)
  have f0 := (hD1.block _ (Array.getElem?_eq_some_iff.1 e0).1).trans e0
  have f1 := (hD1.block _ (Array.getElem?_eq_some_iff.1 e1).1).trans e1
  have f2 := (hD1.block _ (Array.getElem?_eq_some_iff.1 e2).1).trans e2
  have ft := (hD1.block _ (Array.getElem?_eq_some_iff.1 q2).1).trans q2
  have hq := (hD1.block _ (Array.getElem?_eq_some_iff.1 q0).1).trans q0
  have hsz1 := HSZ.out
  have hl0 := (Array.getElem?_eq_some_iff.1 f0).1
  have hl1 := (Array.getElem?_eq_some_iff.1 f1).1
  have hl2 := (Array.getElem?_eq_some_iff.1 f2).1
  have hlt := (Array.getElem?_eq_some_iff.1 ft).1
  clear x0 x1 y0 y1 e0 e1 e2 hnew hBY hB2 hB'
  have FS : ∀ W', Below W2.heap.size W2 W' → ((W'.cell? ⟨w.heap.size, 0, none⟩ = some (.int .u8 2) ∧ W'.cell? ⟨w.heap.size, 1, none⟩ = some (.int .i64 a)) ∧ W'.cell? ⟨w.heap.size + 1, 0, none⟩ = some (.int .u8 2) ∧ W'.cell? ⟨w.heap.size + 1, 1, none⟩ = some (.int .i64 b)) ∧ W'.cell? ⟨w.heap.size + 1 + 1 + 1 + 1 + 1, 12, none⟩ = some (.func (.func 54) #[] #[.pointer (some ⟨w.heap.size + 1 + 1 + 1, 0, none⟩)]) ∧ W'.cell? ⟨w.heap.size + 1 + 1 + 1 + 1 + 1, 13, none⟩ = some .nilFunc ∧ W'.cell? ⟨w.heap.size + 1 + 1 + 1 + 1 + 1, 14, none⟩ = some .nilFunc := fun W' hb => by
    have gt := (hb.block _ hlt).trans ft
    exact ⟨⟨cell_row2 ((hb.block _ hl0).trans f0), cell_row2 ((hb.block _ hl1).trans f1)⟩, by rw [cell_of_row W' _ _ _ _ _ gt]; rfl, by rw [cell_of_row W' _ _ _ _ _ gt]; rfl, by rw [cell_of_row W' _ _ _ _ _ gt]; rfl⟩
  have hDd := below_drew (Below.refl W2.heap.size W2)
  have hBd := hBw.trans (hDd.mono hBw.size)
  have HO := of_unlessZero_1 (w := W2.drew) (S := S) (p := p) c .nilFunc a b (w.heap.size + 1 + 1 + 1) d (fun W hb => HF W (hBd.trans (hb.mono hBd.size)) (((hDd.trans (hb.mono hDd.size)).block _ (Array.getElem?_eq_some_iff.1 hq).1).trans hq))
  have S0 := FS _ hDd
  have SW := FS _ (Below.refl _ _)
  have hn0 : w.heap.size ≠ w.heap.size + 1 + 1 := by omega
  have hn1 : w.heap.size + 1 ≠ w.heap.size + 1 + 1 := by omega
  have hnt : w.heap.size + 1 + 1 + 1 + 1 + 1 ≠ w.heap.size + 1 + 1 := by omega
  clear HF hq
  go_wp2_with fail
  go_region_held3 (fun W' => ((W'.cell? ⟨w.heap.size, 0, none⟩ = some (.int .u8 2) ∧ W'.cell? ⟨w.heap.size, 1, none⟩ = some (.int .i64 a)) ∧ W'.cell? ⟨w.heap.size + 1, 0, none⟩ = some (.int .u8 2) ∧ W'.cell? ⟨w.heap.size + 1, 1, none⟩ = some (.int .i64 b)) ∧ W'.cell? ⟨w.heap.size + 1 + 1 + 1 + 1 + 1, 12, none⟩ = some (.func (.func 54) #[] #[.pointer (some ⟨w.heap.size + 1 + 1 + 1, 0, none⟩)]) ∧ W'.cell? ⟨w.heap.size + 1 + 1 + 1 + 1 + 1, 13, none⟩ = some .nilFunc ∧ W'.cell? ⟨w.heap.size + 1 + 1 + 1 + 1 + 1, 14, none⟩ = some .nilFunc) (first | with_reducible exact S0 | with_reducible exact SW | with_reducible exact ⟨⟨⟨s0, s1⟩, s2, s3⟩, s4, s5, s6⟩ | with_reducible exact ⟨⟨⟨(cell_set5 hn0).trans s0, (cell_set5 hn0).trans s1⟩, (cell_set5 hn1).trans s2, (cell_set5 hn1).trans s3⟩, (cell_set5 hnt).trans s4, (cell_set5 hnt).trans s5, (cell_set5 hnt).trans s6⟩ | go_keep)
    (first
      | (go_at_call 15; (with_reducible refine HO.mono ?_); clear HO; rintro e w4 ⟨p1, c1, rfl, hts, hB4⟩; have hD4 := hDd.trans (hB4.mono hDd.size); obtain ⟨⟨⟨s0, s1⟩, s2, s3⟩, s4, s5, s6⟩ := FS _ hD4; have hr := (hD4.block _ hl2).trans f2; obtain ⟨⟨z0, z1, z2, z3, z4⟩, t0, t1, t2, t3, t4⟩ := cell_row5 hr))
  all_goals
    go_wp2
    refine bodyPost_ret (results_cell_row (by rfl) _ _ (w.heap.size + 1 + 1) 28 _ _ _ (by rfl) (set5_row hr) Try.underlying28 (by rfl) infoDid) (by rfl) ?_
    exact did_fin hr (by omega) (hts_mono hts hBd.size) (hBd.trans (hB4.mono hBd.size)) d.v d.t d.n

set_option maxRecDepth 20000 in
set_option maxHeartbeats 2000000 in
theorem Bin_Mod {p : Option Addr} {S : List Om} (h : Ask w p S) (c : Nat) (a b : Int) (d : Dv) (HF : ∀ W, Below w.heap.size w W → W.heap[w.heap.size + 1 + 1 + 1 + 1]? = some (.cells #[.func (.func 35) #[] #[]] 62 (0, 0)) → Calls Try.prog 54 #[.slice p S.length c, .int .i64 a, .int .i64 b, .pointer (some ⟨w.heap.size + 1 + 1 + 1 + 1, 0, none⟩)] W (DidR W d.S d.v d.t d.n)) :
    Calls Try.prog 5 #[.slice p S.length c, .int .u8 5, .agg #[.int .u8 2, .int .i64 a], .agg #[.int .u8 2, .int .i64 b]] w (DidR w d.S d.v d.t d.n) := by
  have HS := fun (W : World) => signs_in W
  have HM := fun (W : World) (bb : Nat) (hB : Below w.heap.size w W) (hb : W.heap[bb]? = some (.cells #[.int .u8 2, .int .i64 a, .int .u8 2, .int .i64 b] 26 (0, 0))) => pmayBe_in (h.below hB) c (l := [⟨2, a⟩, ⟨2, b⟩]) 2 (one_vals2 (u := ⟨2, a⟩) (v := ⟨2, b⟩) (b := bb) hb) (by simp) true (by simp [fine_ints])
  simp only [show ((2 : Nat) : Int) = 2 from rfl, List.length_cons, List.length_nil, Nat.zero_add, Nat.reduceAdd] at HM
  have hB := below3' w (.cells #[.int .u8 2, .int .i64 a] 26) (.cells #[.int .u8 2, .int .i64 b] 26) noD
  have b0 := heap3_0 w (.cells #[.int .u8 2, .int .i64 a] 26) (.cells #[.int .u8 2, .int .i64 b] 26) noD
  have b1 := heap3_1 w (.cells #[.int .u8 2, .int .i64 a] 26) (.cells #[.int .u8 2, .int .i64 b] 26) noD
  have b2 := heap3_2 w (.cells #[.int .u8 2, .int .i64 a] 26) (.cells #[.int .u8 2, .int .i64 b] 26) noD
  have hsz := heap_size3 w (.cells #[.int .u8 2, .int .i64 a] 26) (.cells #[.int .u8 2, .int .i64 b] 26) noD
  unfold noD at hB b0 b1 b2 hsz
  go_enter Try.func5, Try.ntmps5
  go_wp2_with (first
    | (go_at_call 12; refine halt_here ?_))
  unfold Halted
  generalize hW : ((w.alloc (.cells #[.int .u8 2, .int .i64 a] 26)).alloc (.cells #[.int .u8 2, .int .i64 b] 26)).alloc (.cells #[.slice none 0 0, .int .u8 0, .int .i64 0, .string ⟨#[]⟩, .int .i64 0] 28) = W at *
  have HZ : Hid _ := hsz
  refine Calls.mono (HS W) ?_
  clear HS hW
  rintro e W1 ⟨rfl, hW1⟩
  have hD := below3' W (.cells #[fnV 34] 62) (.cells #[fnV 35] 62) (.cells (signRow W.heap.size (W.heap.size + 1)) 49)
  have q0 := heap3_0 W (.cells #[fnV 34] 62) (.cells #[fnV 35] 62) (.cells (signRow W.heap.size (W.heap.size + 1)) 49)
  have q1 := heap3_1 W (.cells #[fnV 34] 62) (.cells #[fnV 35] 62) (.cells (signRow W.heap.size (W.heap.size + 1)) 49)
  have q2 := heap3_2 W (.cells #[fnV 34] 62) (.cells #[fnV 35] 62) (.cells (signRow W.heap.size (W.heap.size + 1)) 49)
  have hs1 := heap_size3 W (.cells #[fnV 34] 62) (.cells #[fnV 35] 62) (.cells (signRow W.heap.size (W.heap.size + 1)) 49)
  rw [← hW1] at hD q0 q1 q2 hs1
  clear hW1
  rw [hsz] at q0 q1 q2 hs1 ⊢
  have hBw1 := hB.trans (hD.mono hB.size)
  have e0 := (hD.block _ (Array.getElem?_eq_some_iff.1 b0).1).trans b0
  have e1 := (hD.block _ (Array.getElem?_eq_some_iff.1 b1).1).trans b1
  have e2 := (hD.block _ (Array.getElem?_eq_some_iff.1 b2).1).trans b2
  have HSZ : Hid _ := hs1
  clear b0 b1 b2 hsz hs1 hD
  obtain ⟨x0, x1⟩ := cell_row2 e0
  obtain ⟨y0, y1⟩ := cell_row2 e1
  go_wp2_with (first
    | (go_at_call 13; refine halt_here ?_))
  unfold Halted
  have hnew := heap_alloc_new W1 (.cells #[.int .u8 2, .int .i64 a, .int .u8 2, .int .i64 b] 26)
  have hBY := below1 W1 (.cells #[.int .u8 2, .int .i64 a, .int .u8 2, .int .i64 b] 26)
  have hB' := hBw1.trans (hBY.mono hBw1.size)
  refine Calls.mono (HM _ _ hB' hnew) ?_
  clear HM
  rintro e W2 ⟨rfl, hB2⟩
  have hD1 := hBY.trans (hB2.mono hBY.size)
  have hBw := hBw1.trans (hD1.mono hBw1.size)
  have f0 := (hD1.block _ (Array.getElem?_eq_some_iff.1 e0).1).trans e0
  have f1 := (hD1.block _ (Array.getElem?_eq_some_iff.1 e1).1).trans e1
  have f2 := (hD1.block _ (Array.getElem?_eq_some_iff.1 e2).1).trans e2
  have ft := (hD1.block _ (Array.getElem?_eq_some_iff.1 q2).1).trans q2
  have hq := (hD1.block _ (Array.getElem?_eq_some_iff.1 q1).1).trans q1
  have hsz1 := HSZ.out
  have hl0 := (Array.getElem?_eq_some_iff.1 f0).1
  have hl1 := (Array.getElem?_eq_some_iff.1 f1).1
  have hl2 := (Array.getElem?_eq_some_iff.1 f2).1
  have hlt := (Array.getElem?_eq_some_iff.1 ft).1
  clear x0 x1 y0 y1 e0 e1 e2 hnew hBY hB2 hB'
  have FS : ∀ W', Below W2.heap.size W2 W' → ((W'.cell? ⟨w.heap.size, 0, none⟩ = some (.int .u8 2) ∧ W'.cell? ⟨w.heap.size, 1, none⟩ = some (.int .i64 a)) ∧ W'.cell? ⟨w.heap.size + 1, 0, none⟩ = some (.int .u8 2) ∧ W'.cell? ⟨w.heap.size + 1, 1, none⟩ = some (.int .i64 b)) ∧ W'.cell? ⟨w.heap.size + 1 + 1 + 1 + 1 + 1, 15, none⟩ = some (.func (.func 54) #[] #[.pointer (some ⟨w.heap.size + 1 + 1 + 1 + 1, 0, none⟩)]) ∧ W'.cell? ⟨w.heap.size + 1 + 1 + 1 + 1 + 1, 16, none⟩ = some .nilFunc ∧ W'.cell? ⟨w.heap.size + 1 + 1 + 1 + 1 + 1, 17, none⟩ = some .nilFunc := fun W' hb => by
    have gt := (hb.block _ hlt).trans ft
    exact ⟨⟨cell_row2 ((hb.block _ hl0).trans f0), cell_row2 ((hb.block _ hl1).trans f1)⟩, by rw [cell_of_row W' _ _ _ _ _ gt]; rfl, by rw [cell_of_row W' _ _ _ _ _ gt]; rfl, by rw [cell_of_row W' _ _ _ _ _ gt]; rfl⟩
  have hDd := below_drew (Below.refl W2.heap.size W2)
  have hBd := hBw.trans (hDd.mono hBw.size)
  have HO := of_unlessZero_1 (w := W2.drew) (S := S) (p := p) c .nilFunc a b (w.heap.size + 1 + 1 + 1 + 1) d (fun W hb => HF W (hBd.trans (hb.mono hBd.size)) (((hDd.trans (hb.mono hDd.size)).block _ (Array.getElem?_eq_some_iff.1 hq).1).trans hq))
  have S0 := FS _ hDd
  have SW := FS _ (Below.refl _ _)
  have hn0 : w.heap.size ≠ w.heap.size + 1 + 1 := by omega
  have hn1 : w.heap.size + 1 ≠ w.heap.size + 1 + 1 := by omega
  have hnt : w.heap.size + 1 + 1 + 1 + 1 + 1 ≠ w.heap.size + 1 + 1 := by omega
  clear HF hq
  go_wp2_with fail
  go_region_held3 (fun W' => ((W'.cell? ⟨w.heap.size, 0, none⟩ = some (.int .u8 2) ∧ W'.cell? ⟨w.heap.size, 1, none⟩ = some (.int .i64 a)) ∧ W'.cell? ⟨w.heap.size + 1, 0, none⟩ = some (.int .u8 2) ∧ W'.cell? ⟨w.heap.size + 1, 1, none⟩ = some (.int .i64 b)) ∧ W'.cell? ⟨w.heap.size + 1 + 1 + 1 + 1 + 1, 15, none⟩ = some (.func (.func 54) #[] #[.pointer (some ⟨w.heap.size + 1 + 1 + 1 + 1, 0, none⟩)]) ∧ W'.cell? ⟨w.heap.size + 1 + 1 + 1 + 1 + 1, 16, none⟩ = some .nilFunc ∧ W'.cell? ⟨w.heap.size + 1 + 1 + 1 + 1 + 1, 17, none⟩ = some .nilFunc) (first | with_reducible exact S0 | with_reducible exact SW | with_reducible exact ⟨⟨⟨s0, s1⟩, s2, s3⟩, s4, s5, s6⟩ | with_reducible exact ⟨⟨⟨(cell_set5 hn0).trans s0, (cell_set5 hn0).trans s1⟩, (cell_set5 hn1).trans s2, (cell_set5 hn1).trans s3⟩, (cell_set5 hnt).trans s4, (cell_set5 hnt).trans s5, (cell_set5 hnt).trans s6⟩ | go_keep)
    (first
      | (go_at_call 15; (with_reducible refine HO.mono ?_); clear HO; rintro e w4 ⟨p1, c1, rfl, hts, hB4⟩; have hD4 := hDd.trans (hB4.mono hDd.size); obtain ⟨⟨⟨s0, s1⟩, s2, s3⟩, s4, s5, s6⟩ := FS _ hD4; have hr := (hD4.block _ hl2).trans f2; obtain ⟨⟨z0, z1, z2, z3, z4⟩, t0, t1, t2, t3, t4⟩ := cell_row5 hr))
  all_goals
    go_wp2
    refine bodyPost_ret (results_cell_row (by rfl) _ _ (w.heap.size + 1 + 1) 28 _ _ _ (by rfl) (set5_row hr) Try.underlying28 (by rfl) infoDid) (by rfl) ?_
    exact did_fin hr (by omega) (hts_mono hts hBd.size) (hBd.trans (hB4.mono hBd.size)) d.v d.t d.n

set_option maxRecDepth 20000 in
set_option maxHeartbeats 2000000 in
theorem Bin_Less {p : Option Addr} {S : List Om} (h : Ask w p S) (c : Nat) (a b : Int) (d : Dv) (HF : ∀ W, Below w.heap.size w W → Calls Try.prog 36 #[.slice p S.length c, .int .i64 a, .int .i64 b] W (DidR W d.S d.v d.t d.n)) :
    Calls Try.prog 5 #[.slice p S.length c, .int .u8 6, .agg #[.int .u8 2, .int .i64 a], .agg #[.int .u8 2, .int .i64 b]] w (DidR w d.S d.v d.t d.n) := by
  have HS := fun (W : World) => signs_in W
  have HM := fun (W : World) (bb : Nat) (hB : Below w.heap.size w W) (hb : W.heap[bb]? = some (.cells #[.int .u8 2, .int .i64 a, .int .u8 2, .int .i64 b] 26 (0, 0))) => pmayBe_in (h.below hB) c (l := [⟨2, a⟩, ⟨2, b⟩]) 2 (one_vals2 (u := ⟨2, a⟩) (v := ⟨2, b⟩) (b := bb) hb) (by simp) true (by simp [fine_ints])
  simp only [show ((2 : Nat) : Int) = 2 from rfl, List.length_cons, List.length_nil, Nat.zero_add, Nat.reduceAdd] at HM
  have hB := below3' w (.cells #[.int .u8 2, .int .i64 a] 26) (.cells #[.int .u8 2, .int .i64 b] 26) noD
  have b0 := heap3_0 w (.cells #[.int .u8 2, .int .i64 a] 26) (.cells #[.int .u8 2, .int .i64 b] 26) noD
  have b1 := heap3_1 w (.cells #[.int .u8 2, .int .i64 a] 26) (.cells #[.int .u8 2, .int .i64 b] 26) noD
  have b2 := heap3_2 w (.cells #[.int .u8 2, .int .i64 a] 26) (.cells #[.int .u8 2, .int .i64 b] 26) noD
  have hsz := heap_size3 w (.cells #[.int .u8 2, .int .i64 a] 26) (.cells #[.int .u8 2, .int .i64 b] 26) noD
  unfold noD at hB b0 b1 b2 hsz
  go_enter Try.func5, Try.ntmps5
  go_wp2_with (first
    | (go_at_call 12; refine halt_here ?_))
  unfold Halted
  generalize hW : ((w.alloc (.cells #[.int .u8 2, .int .i64 a] 26)).alloc (.cells #[.int .u8 2, .int .i64 b] 26)).alloc (.cells #[.slice none 0 0, .int .u8 0, .int .i64 0, .string ⟨#[]⟩, .int .i64 0] 28) = W at *
  have HZ : Hid _ := hsz
  refine Calls.mono (HS W) ?_
  clear HS hW
  rintro e W1 ⟨rfl, hW1⟩
  have hD := below3' W (.cells #[fnV 34] 62) (.cells #[fnV 35] 62) (.cells (signRow W.heap.size (W.heap.size + 1)) 49)
  have q0 := heap3_0 W (.cells #[fnV 34] 62) (.cells #[fnV 35] 62) (.cells (signRow W.heap.size (W.heap.size + 1)) 49)
  have q1 := heap3_1 W (.cells #[fnV 34] 62) (.cells #[fnV 35] 62) (.cells (signRow W.heap.size (W.heap.size + 1)) 49)
  have q2 := heap3_2 W (.cells #[fnV 34] 62) (.cells #[fnV 35] 62) (.cells (signRow W.heap.size (W.heap.size + 1)) 49)
  have hs1 := heap_size3 W (.cells #[fnV 34] 62) (.cells #[fnV 35] 62) (.cells (signRow W.heap.size (W.heap.size + 1)) 49)
  rw [← hW1] at hD q0 q1 q2 hs1
  clear hW1
  rw [hsz] at q0 q1 q2 hs1 ⊢
  have hBw1 := hB.trans (hD.mono hB.size)
  have e0 := (hD.block _ (Array.getElem?_eq_some_iff.1 b0).1).trans b0
  have e1 := (hD.block _ (Array.getElem?_eq_some_iff.1 b1).1).trans b1
  have e2 := (hD.block _ (Array.getElem?_eq_some_iff.1 b2).1).trans b2
  have HSZ : Hid _ := hs1
  clear b0 b1 b2 hsz hs1 hD
  obtain ⟨x0, x1⟩ := cell_row2 e0
  obtain ⟨y0, y1⟩ := cell_row2 e1
  go_wp2_with (first
    | (go_at_call 13; refine halt_here ?_))
  unfold Halted
  have hnew := heap_alloc_new W1 (.cells #[.int .u8 2, .int .i64 a, .int .u8 2, .int .i64 b] 26)
  have hBY := below1 W1 (.cells #[.int .u8 2, .int .i64 a, .int .u8 2, .int .i64 b] 26)
  have hB' := hBw1.trans (hBY.mono hBw1.size)
  refine Calls.mono (HM _ _ hB' hnew) ?_
  clear HM
  rintro e W2 ⟨rfl, hB2⟩
  have hD1 := hBY.trans (hB2.mono hBY.size)
  have hBw := hBw1.trans (hD1.mono hBw1.size)
  have f0 := (hD1.block _ (Array.getElem?_eq_some_iff.1 e0).1).trans e0
  have f1 := (hD1.block _ (Array.getElem?_eq_some_iff.1 e1).1).trans e1
  have f2 := (hD1.block _ (Array.getElem?_eq_some_iff.1 e2).1).trans e2
  have ft := (hD1.block _ (Array.getElem?_eq_some_iff.1 q2).1).trans q2
  have hq := trivial
  have hsz1 := HSZ.out
  have hl0 := (Array.getElem?_eq_some_iff.1 f0).1
  have hl1 := (Array.getElem?_eq_some_iff.1 f1).1
  have hl2 := (Array.getElem?_eq_some_iff.1 f2).1
  have hlt := (Array.getElem?_eq_some_iff.1 ft).1
  clear x0 x1 y0 y1 e0 e1 e2 hnew hBY hB2 hB'
  have FS : ∀ W', Below W2.heap.size W2 W' → ((W'.cell? ⟨w.heap.size, 0, none⟩ = some (.int .u8 2) ∧ W'.cell? ⟨w.heap.size, 1, none⟩ = some (.int .i64 a)) ∧ W'.cell? ⟨w.heap.size + 1, 0, none⟩ = some (.int .u8 2) ∧ W'.cell? ⟨w.heap.size + 1, 1, none⟩ = some (.int .i64 b)) ∧ W'.cell? ⟨w.heap.size + 1 + 1 + 1 + 1 + 1, 18, none⟩ = some (.func (.func 36) #[] #[]) ∧ W'.cell? ⟨w.heap.size + 1 + 1 + 1 + 1 + 1, 19, none⟩ = some (fnV 38) ∧ W'.cell? ⟨w.heap.size + 1 + 1 + 1 + 1 + 1, 20, none⟩ = some .nilFunc := fun W' hb => by
    have gt := (hb.block _ hlt).trans ft
    exact ⟨⟨cell_row2 ((hb.block _ hl0).trans f0), cell_row2 ((hb.block _ hl1).trans f1)⟩, by rw [cell_of_row W' _ _ _ _ _ gt]; rfl, by rw [cell_of_row W' _ _ _ _ _ gt]; rfl, by rw [cell_of_row W' _ _ _ _ _ gt]; rfl⟩
  have hDd := below_drew (Below.refl W2.heap.size W2)
  have hBd := hBw.trans (hDd.mono hBw.size)
  have HO := of_signs_7 (w := W2.drew) (S := S) (p := p) c (fnV 38) a b d (fun W hb => HF W (hBd.trans (hb.mono hBd.size)))
  have S0 := FS _ hDd
  have SW := FS _ (Below.refl _ _)
  have hn0 : w.heap.size ≠ w.heap.size + 1 + 1 := by omega
  have hn1 : w.heap.size + 1 ≠ w.heap.size + 1 + 1 := by omega
  have hnt : w.heap.size + 1 + 1 + 1 + 1 + 1 ≠ w.heap.size + 1 + 1 := by omega
  clear HF hq
  go_wp2_with fail
  go_region_held3 (fun W' => ((W'.cell? ⟨w.heap.size, 0, none⟩ = some (.int .u8 2) ∧ W'.cell? ⟨w.heap.size, 1, none⟩ = some (.int .i64 a)) ∧ W'.cell? ⟨w.heap.size + 1, 0, none⟩ = some (.int .u8 2) ∧ W'.cell? ⟨w.heap.size + 1, 1, none⟩ = some (.int .i64 b)) ∧ W'.cell? ⟨w.heap.size + 1 + 1 + 1 + 1 + 1, 18, none⟩ = some (.func (.func 36) #[] #[]) ∧ W'.cell? ⟨w.heap.size + 1 + 1 + 1 + 1 + 1, 19, none⟩ = some (fnV 38) ∧ W'.cell? ⟨w.heap.size + 1 + 1 + 1 + 1 + 1, 20, none⟩ = some .nilFunc) (first | with_reducible exact S0 | with_reducible exact SW | with_reducible exact ⟨⟨⟨s0, s1⟩, s2, s3⟩, s4, s5, s6⟩ | with_reducible exact ⟨⟨⟨(cell_set5 hn0).trans s0, (cell_set5 hn0).trans s1⟩, (cell_set5 hn1).trans s2, (cell_set5 hn1).trans s3⟩, (cell_set5 hnt).trans s4, (cell_set5 hnt).trans s5, (cell_set5 hnt).trans s6⟩ | go_keep)
    (first
      | (go_at_call 15; (with_reducible refine HO.mono ?_); clear HO; rintro e w4 ⟨p1, c1, rfl, hts, hB4⟩; have hD4 := hDd.trans (hB4.mono hDd.size); obtain ⟨⟨⟨s0, s1⟩, s2, s3⟩, s4, s5, s6⟩ := FS _ hD4; have hr := (hD4.block _ hl2).trans f2; obtain ⟨⟨z0, z1, z2, z3, z4⟩, t0, t1, t2, t3, t4⟩ := cell_row5 hr))
  all_goals
    go_wp2
    refine bodyPost_ret (results_cell_row (by rfl) _ _ (w.heap.size + 1 + 1) 28 _ _ _ (by rfl) (set5_row hr) Try.underlying28 (by rfl) infoDid) (by rfl) ?_
    exact did_fin hr (by omega) (hts_mono hts hBd.size) (hBd.trans (hB4.mono hBd.size)) d.v d.t d.n

set_option maxRecDepth 20000 in
set_option maxHeartbeats 2000000 in
theorem Bin_Most {p : Option Addr} {S : List Om} (h : Ask w p S) (c : Nat) (a b : Int) (d : Dv) (HF : ∀ W, Below w.heap.size w W → Calls Try.prog 39 #[.slice p S.length c, .int .i64 a, .int .i64 b] W (DidR W d.S d.v d.t d.n)) :
    Calls Try.prog 5 #[.slice p S.length c, .int .u8 7, .agg #[.int .u8 2, .int .i64 a], .agg #[.int .u8 2, .int .i64 b]] w (DidR w d.S d.v d.t d.n) := by
  have HS := fun (W : World) => signs_in W
  have HM := fun (W : World) (bb : Nat) (hB : Below w.heap.size w W) (hb : W.heap[bb]? = some (.cells #[.int .u8 2, .int .i64 a, .int .u8 2, .int .i64 b] 26 (0, 0))) => pmayBe_in (h.below hB) c (l := [⟨2, a⟩, ⟨2, b⟩]) 2 (one_vals2 (u := ⟨2, a⟩) (v := ⟨2, b⟩) (b := bb) hb) (by simp) true (by simp [fine_ints])
  simp only [show ((2 : Nat) : Int) = 2 from rfl, List.length_cons, List.length_nil, Nat.zero_add, Nat.reduceAdd] at HM
  have hB := below3' w (.cells #[.int .u8 2, .int .i64 a] 26) (.cells #[.int .u8 2, .int .i64 b] 26) noD
  have b0 := heap3_0 w (.cells #[.int .u8 2, .int .i64 a] 26) (.cells #[.int .u8 2, .int .i64 b] 26) noD
  have b1 := heap3_1 w (.cells #[.int .u8 2, .int .i64 a] 26) (.cells #[.int .u8 2, .int .i64 b] 26) noD
  have b2 := heap3_2 w (.cells #[.int .u8 2, .int .i64 a] 26) (.cells #[.int .u8 2, .int .i64 b] 26) noD
  have hsz := heap_size3 w (.cells #[.int .u8 2, .int .i64 a] 26) (.cells #[.int .u8 2, .int .i64 b] 26) noD
  unfold noD at hB b0 b1 b2 hsz
  go_enter Try.func5, Try.ntmps5
  go_wp2_with (first
    | (go_at_call 12; refine halt_here ?_))
  unfold Halted
  generalize hW : ((w.alloc (.cells #[.int .u8 2, .int .i64 a] 26)).alloc (.cells #[.int .u8 2, .int .i64 b] 26)).alloc (.cells #[.slice none 0 0, .int .u8 0, .int .i64 0, .string ⟨#[]⟩, .int .i64 0] 28) = W at *
  have HZ : Hid _ := hsz
  refine Calls.mono (HS W) ?_
  clear HS hW
  rintro e W1 ⟨rfl, hW1⟩
  have hD := below3' W (.cells #[fnV 34] 62) (.cells #[fnV 35] 62) (.cells (signRow W.heap.size (W.heap.size + 1)) 49)
  have q0 := heap3_0 W (.cells #[fnV 34] 62) (.cells #[fnV 35] 62) (.cells (signRow W.heap.size (W.heap.size + 1)) 49)
  have q1 := heap3_1 W (.cells #[fnV 34] 62) (.cells #[fnV 35] 62) (.cells (signRow W.heap.size (W.heap.size + 1)) 49)
  have q2 := heap3_2 W (.cells #[fnV 34] 62) (.cells #[fnV 35] 62) (.cells (signRow W.heap.size (W.heap.size + 1)) 49)
  have hs1 := heap_size3 W (.cells #[fnV 34] 62) (.cells #[fnV 35] 62) (.cells (signRow W.heap.size (W.heap.size + 1)) 49)
  rw [← hW1] at hD q0 q1 q2 hs1
  clear hW1
  rw [hsz] at q0 q1 q2 hs1 ⊢
  have hBw1 := hB.trans (hD.mono hB.size)
  have e0 := (hD.block _ (Array.getElem?_eq_some_iff.1 b0).1).trans b0
  have e1 := (hD.block _ (Array.getElem?_eq_some_iff.1 b1).1).trans b1
  have e2 := (hD.block _ (Array.getElem?_eq_some_iff.1 b2).1).trans b2
  have HSZ : Hid _ := hs1
  clear b0 b1 b2 hsz hs1 hD
  obtain ⟨x0, x1⟩ := cell_row2 e0
  obtain ⟨y0, y1⟩ := cell_row2 e1
  go_wp2_with (first
    | (go_at_call 13; refine halt_here ?_))
  unfold Halted
  have hnew := heap_alloc_new W1 (.cells #[.int .u8 2, .int .i64 a, .int .u8 2, .int .i64 b] 26)
  have hBY := below1 W1 (.cells #[.int .u8 2, .int .i64 a, .int .u8 2, .int .i64 b] 26)
  have hB' := hBw1.trans (hBY.mono hBw1.size)
  refine Calls.mono (HM _ _ hB' hnew) ?_
  clear HM
  rintro e W2 ⟨rfl, hB2⟩
  have hD1 := hBY.trans (hB2.mono hBY.size)
  have hBw := hBw1.trans (hD1.mono hBw1.size)
  have f0 := (hD1.block _ (Array.getElem?_eq_some_iff.1 e0).1).trans e0
  have f1 := (hD1.block _ (Array.getElem?_eq_some_iff.1 e1).1).trans e1
  have f2 := (hD1.block _ (Array.getElem?_eq_some_iff.1 e2).1).trans e2
  have ft := (hD1.block _ (Array.getElem?_eq_some_iff.1 q2).1).trans q2
  have hq := trivial
  have hsz1 := HSZ.out
  have hl0 := (Array.getElem?_eq_some_iff.1 f0).1
  have hl1 := (Array.getElem?_eq_some_iff.1 f1).1
  have hl2 := (Array.getElem?_eq_some_iff.1 f2).1
  have hlt := (Array.getElem?_eq_some_iff.1 ft).1
  clear x0 x1 y0 y1 e0 e1 e2 hnew hBY hB2 hB'
  have FS : ∀ W', Below W2.heap.size W2 W' → ((W'.cell? ⟨w.heap.size, 0, none⟩ = some (.int .u8 2) ∧ W'.cell? ⟨w.heap.size, 1, none⟩ = some (.int .i64 a)) ∧ W'.cell? ⟨w.heap.size + 1, 0, none⟩ = some (.int .u8 2) ∧ W'.cell? ⟨w.heap.size + 1, 1, none⟩ = some (.int .i64 b)) ∧ W'.cell? ⟨w.heap.size + 1 + 1 + 1 + 1 + 1, 21, none⟩ = some (.func (.func 39) #[] #[]) ∧ W'.cell? ⟨w.heap.size + 1 + 1 + 1 + 1 + 1, 22, none⟩ = some (fnV 40) ∧ W'.cell? ⟨w.heap.size + 1 + 1 + 1 + 1 + 1, 23, none⟩ = some .nilFunc := fun W' hb => by
    have gt := (hb.block _ hlt).trans ft
    exact ⟨⟨cell_row2 ((hb.block _ hl0).trans f0), cell_row2 ((hb.block _ hl1).trans f1)⟩, by rw [cell_of_row W' _ _ _ _ _ gt]; rfl, by rw [cell_of_row W' _ _ _ _ _ gt]; rfl, by rw [cell_of_row W' _ _ _ _ _ gt]; rfl⟩
  have hDd := below_drew (Below.refl W2.heap.size W2)
  have hBd := hBw.trans (hDd.mono hBw.size)
  have HO := of_signs_9 (w := W2.drew) (S := S) (p := p) c (fnV 40) a b d (fun W hb => HF W (hBd.trans (hb.mono hBd.size)))
  have S0 := FS _ hDd
  have SW := FS _ (Below.refl _ _)
  have hn0 : w.heap.size ≠ w.heap.size + 1 + 1 := by omega
  have hn1 : w.heap.size + 1 ≠ w.heap.size + 1 + 1 := by omega
  have hnt : w.heap.size + 1 + 1 + 1 + 1 + 1 ≠ w.heap.size + 1 + 1 := by omega
  clear HF hq
  go_wp2_with fail
  go_region_held3 (fun W' => ((W'.cell? ⟨w.heap.size, 0, none⟩ = some (.int .u8 2) ∧ W'.cell? ⟨w.heap.size, 1, none⟩ = some (.int .i64 a)) ∧ W'.cell? ⟨w.heap.size + 1, 0, none⟩ = some (.int .u8 2) ∧ W'.cell? ⟨w.heap.size + 1, 1, none⟩ = some (.int .i64 b)) ∧ W'.cell? ⟨w.heap.size + 1 + 1 + 1 + 1 + 1, 21, none⟩ = some (.func (.func 39) #[] #[]) ∧ W'.cell? ⟨w.heap.size + 1 + 1 + 1 + 1 + 1, 22, none⟩ = some (fnV 40) ∧ W'.cell? ⟨w.heap.size + 1 + 1 + 1 + 1 + 1, 23, none⟩ = some .nilFunc) (first | with_reducible exact S0 | with_reducible exact SW | with_reducible exact ⟨⟨⟨s0, s1⟩, s2, s3⟩, s4, s5, s6⟩ | with_reducible exact ⟨⟨⟨(cell_set5 hn0).trans s0, (cell_set5 hn0).trans s1⟩, (cell_set5 hn1).trans s2, (cell_set5 hn1).trans s3⟩, (cell_set5 hnt).trans s4, (cell_set5 hnt).trans s5, (cell_set5 hnt).trans s6⟩ | go_keep)
    (first
      | (go_at_call 15; (with_reducible refine HO.mono ?_); clear HO; rintro e w4 ⟨p1, c1, rfl, hts, hB4⟩; have hD4 := hDd.trans (hB4.mono hDd.size); obtain ⟨⟨⟨s0, s1⟩, s2, s3⟩, s4, s5, s6⟩ := FS _ hD4; have hr := (hD4.block _ hl2).trans f2; obtain ⟨⟨z0, z1, z2, z3, z4⟩, t0, t1, t2, t3, t4⟩ := cell_row5 hr))
  all_goals
    go_wp2
    refine bodyPost_ret (results_cell_row (by rfl) _ _ (w.heap.size + 1 + 1) 28 _ _ _ (by rfl) (set5_row hr) Try.underlying28 (by rfl) infoDid) (by rfl) ?_
    exact did_fin hr (by omega) (hts_mono hts hBd.size) (hBd.trans (hB4.mono hBd.size)) d.v d.t d.n

end Go.Proofs.Ytlghciglofbkaaa
