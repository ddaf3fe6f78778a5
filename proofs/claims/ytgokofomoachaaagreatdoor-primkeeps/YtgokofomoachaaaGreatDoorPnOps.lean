/- prim: the operations, over those of plain. -/
import Derived.Test.YtgokofomoachaaaGreatDoorPnDid2
namespace Go.Proofs.YtgokofomoachaaaGreatDoor
set_option linter.unusedVariables false
set_option linter.unusedSimpArgs false
open Go.RowKit

variable {w : World}

theorem below4' (w : World) (o1 o2 o3 o4 : Obj) : Below w.heap.size w ((((w.alloc o1).alloc o2).alloc o3).alloc o4) := (below3' w o1 o2 o3).alloc (by simp; omega) _

theorem heap4_0 (w : World) (o1 o2 o3 o4 : Obj) : ((((w.alloc o1).alloc o2).alloc o3).alloc o4).heap[w.heap.size]? = some o1 := (Below.heap_alloc _ _ _ (by simp; omega)).trans (heap3_0 w o1 o2 o3)

theorem heap4_1 (w : World) (o1 o2 o3 o4 : Obj) : ((((w.alloc o1).alloc o2).alloc o3).alloc o4).heap[w.heap.size + 1]? = some o2 := (Below.heap_alloc _ _ _ (by simp)).trans (heap3_1 w o1 o2 o3)

theorem heap4_2 (w : World) (o1 o2 o3 o4 : Obj) : ((((w.alloc o1).alloc o2).alloc o3).alloc o4).heap[w.heap.size + 1 + 1]? = some o3 := (Below.heap_alloc _ _ _ (by simp)).trans (heap3_2 w o1 o2 o3)

theorem heap4_3 (w : World) (o1 o2 o3 o4 : Obj) : ((((w.alloc o1).alloc o2).alloc o3).alloc o4).heap[w.heap.size + 1 + 1 + 1]? = some o4 := by
  have := heap_alloc_new (((w.alloc o1).alloc o2).alloc o3) o4
  simpa using this

theorem one_vals2 {W : World} {b : Nat} {u v : Vl} (h : W.heap[b]? = some (.cells #[.int .u8 u.k, .int .i64 u.n, .int .u8 v.k, .int .i64 v.n] 27 (0, 0))) : Vals W (some ⟨b, 0, none⟩) [u, v] := by
  intro j x hj
  have hj0 := (List.getElem?_eq_some_iff.1 hj).1
  simp at hj0
  refine ⟨b, 0, rfl, ?_, ?_⟩ <;> rw [cell_of_row W b _ _ _ _ h]
  all_goals
    have : j = 0 ∨ j = 1 := by omega
    rcases this with rfl | rfl <;> simp at hj <;> subst hj <;> simp

theorem one_vals3 {W : World} {b : Nat} {u v y : Vl} (h : W.heap[b]? = some (.cells #[.int .u8 u.k, .int .i64 u.n, .int .u8 v.k, .int .i64 v.n, .int .u8 y.k, .int .i64 y.n] 27 (0, 0))) : Vals W (some ⟨b, 0, none⟩) [u, v, y] := by
  intro j x hj
  have hj0 := (List.getElem?_eq_some_iff.1 hj).1
  simp at hj0
  refine ⟨b, 0, rfl, ?_, ?_⟩ <;> rw [cell_of_row W b _ _ _ _ h]
  all_goals
    have : j = 0 ∨ j = 1 ∨ j = 2 := by omega
    rcases this with rfl | rfl | rfl <;> simp at hj <;> subst hj <;> simp

set_option maxRecDepth 20000 in
set_option maxHeartbeats 2000000 in
theorem pShow_in {p : Option Addr} {S : List Om} (h : Ask w p S) (c : Nat) (v : Vl) {D : Dv}
    (hD : (¬ mayL S [v] ∧ D = refD S) ∨ (mayL S [v] ∧ ∃ d, DoneR S d D ∧ ∀ W, Below w.heap.size w W → Calls Tryz.prog 67 #[.slice p S.length c, .agg #[.int .u8 v.k, .int .i64 v.n]] W (DeedV W d))) :
    Calls Tryz.prog 23 #[.slice p S.length c, .agg #[.int .u8 v.k, .int .i64 v.n]] w (DidR w D.S D.v D.t D.n) := by
  have hB := below2' w (.cells #[.int .u8 v.k, .int .i64 v.n] 27) (.cells #[.slice none 0 0, .int .u8 0, .int .i64 0, .string ⟨#[]⟩, .int .i64 0] 33)
  have hb0 := (Below.heap_alloc _ (.cells #[.slice none 0 0, .int .u8 0, .int .i64 0, .string ⟨#[]⟩, .int .i64 0] 33) w.heap.size (by simp)).trans (heap_alloc_new w (.cells #[.int .u8 v.k, .int .i64 v.n] 27))
  have hb1 := heap_two w (.cells #[.int .u8 v.k, .int .i64 v.n] 27) (.cells #[.slice none 0 0, .int .u8 0, .int .i64 0, .string ⟨#[]⟩, .int .i64 0] 33)
  obtain ⟨x0, x0'⟩ := cell_row2 hb0
  have HD : Hid _ := hD
  clear hD
  go_enter Tryz.func23, Tryz.ntmps23
  go_wp2_with (first
    | (go_at_call 49; refine halt_here ?_))
  unfold Halted
  have hsz : ((w.alloc (.cells #[.int .u8 v.k, .int .i64 v.n] 27)).alloc (.cells #[.slice none 0 0, .int .u8 0, .int .i64 0, .string ⟨#[]⟩, .int .i64 0] 33)).heap.size = w.heap.size + 1 + 1 := by simp
  generalize hW : ((w.alloc (.cells #[.int .u8 v.k, .int .i64 v.n] 27)).alloc (.cells #[.slice none 0 0, .int .u8 0, .int .i64 0, .string ⟨#[]⟩, .int .i64 0] 33)) = W at *
  clear hW
  have hnew := heap_alloc_new W (.cells #[.int .u8 v.k, .int .i64 v.n] 27)
  have hBY := below1 W (.cells #[.int .u8 v.k, .int .i64 v.n] 27)
  rw [hsz] at hnew
  clear hsz
  have hB' := hB.trans (hBY.mono hB.size)
  obtain ⟨bf, hbf⟩ := b_of (mayL S [v])
  have HM := pmayBe_in (h.below hB') c (l := [v]) 1 (one_val hnew) (by simp) bf hbf
  refine Calls.mono HM ?_
  clear HM
  rintro e w1 ⟨rfl, hB1⟩
  have hB1' := hBY.trans (hB1.mono hBY.size)
  have hBw := hB.trans (hB1'.mono hB.size)
  have e0 := (hB1'.block _ (Array.getElem?_eq_some_iff.1 hb0).1).trans hb0
  have e1 := (hB1'.block _ (Array.getElem?_eq_some_iff.1 hb1).1).trans hb1
  clear x0 x0' hb0 hb1 hnew hB1 hB1' hBY hB'
  have l1 := (Array.getElem?_eq_some_iff.1 e1).1
  cases bf with
  | false =>
    have hde : D = refD S := by
      rcases HD.out with ⟨-, hh⟩ | ⟨hf, -⟩
      · exact hh
      · have := hbf.2 hf; cases this
    clear HD hbf
    have HT := refused_in (h.below hBw) c hde
    clear hde
    go_wp2_with (first
      | (go_at_call 50; (with_reducible refine HT.mono ?_); clear HT; rintro e w2 ⟨p1, c1, rfl, hts, hB2⟩; have hr := (hB2.block _ l1).trans e1; obtain ⟨⟨z0, z1, z2, z3, z4⟩, s0, s1, s2, s3, s4⟩ := cell_row5 hr))
    refine bodyPost_ret (results_cell_row (by rfl) _ _ (w.heap.size + 1) 33 _ _ _ (by rfl) (set5_row hr) Tryz.underlying33 (by rfl) infoDid) (by rfl) ?_
    exact did_fin hr (by omega) (hts_mono hts hBw.size) (hBw.trans (hB2.mono hBw.size)) D.v D.t D.n
  | true =>
    obtain ⟨d, hdone, HP⟩ : ∃ d, DoneR S d D ∧ ∀ W, Below w.heap.size w W → Calls Tryz.prog 67 #[.slice p S.length c, .agg #[.int .u8 v.k, .int .i64 v.n]] W (DeedV W d) := by
      rcases HD.out with ⟨hn, -⟩ | ⟨-, hh⟩
      · exact (hn (hbf.1 rfl)).elim
      · exact hh
    clear HD hbf
    have HP1 := HP w1 hBw
    clear HP
    obtain ⟨x0, x0'⟩ := cell_row2 e0
    have HDN : Hid _ := hdone
    clear hdone
    go_wp2_with (first
      | (go_at_call 67; (with_reducible refine HP1.mono ?_); clear HP1; rintro e w2 ⟨q, c_, q2, rfl, hv1, hv2, hB2⟩; refine halt_here ?_))
    unfold Halted
    have hBw2 := hBw.trans (hB2.mono hBw.size)
    have HE := did_in (h.below hBw2) c d HDN.out (cq := c_) hv1 hv2
    have f1 := (hB2.block _ l1).trans e1
    clear hv1 hv2
    go_wp2_with (first
      | (go_at_call 51; (with_reducible refine HE.mono ?_); clear HE; rintro e w3 ⟨p1, c1, rfl, hts, hB3⟩; have hr := (hB3.block _ (Array.getElem?_eq_some_iff.1 f1).1).trans f1; obtain ⟨⟨z0, z1, z2, z3, z4⟩, s0, s1, s2, s3, s4⟩ := cell_row5 hr))
    refine bodyPost_ret (results_cell_row (by rfl) _ _ (w.heap.size + 1) 33 _ _ _ (by rfl) (set5_row hr) Tryz.underlying33 (by rfl) infoDid) (by rfl) ?_
    exact did_fin hr (by omega) (hts_mono hts hBw2.size) (hBw2.trans (hB3.mono hBw2.size)) D.v D.t D.n

set_option maxRecDepth 20000 in
set_option maxHeartbeats 2000000 in
theorem pGet_in {p : Option Addr} {S : List Om} (h : Ask w p S) (c : Nat) (v k : Vl) {D : Dv}
    (hD : (¬ mayL S [v, k] ∧ D = refD S) ∨ (mayL S [v, k] ∧ ∃ d, DoneR S d D ∧ ∀ W, Below w.heap.size w W → Calls Tryz.prog 143 #[.slice p S.length c, .agg #[.int .u8 v.k, .int .i64 v.n], .agg #[.int .u8 k.k, .int .i64 k.n]] W (DeedV W d))) :
    Calls Tryz.prog 42 #[.slice p S.length c, .agg #[.int .u8 v.k, .int .i64 v.n], .agg #[.int .u8 k.k, .int .i64 k.n]] w (DidR w D.S D.v D.t D.n) := by
  have hB := below3' w (.cells #[.int .u8 v.k, .int .i64 v.n] 27) (.cells #[.int .u8 k.k, .int .i64 k.n] 27) (.cells #[.slice none 0 0, .int .u8 0, .int .i64 0, .string ⟨#[]⟩, .int .i64 0] 33)
  have hb0 := heap3_0 w (.cells #[.int .u8 v.k, .int .i64 v.n] 27) (.cells #[.int .u8 k.k, .int .i64 k.n] 27) (.cells #[.slice none 0 0, .int .u8 0, .int .i64 0, .string ⟨#[]⟩, .int .i64 0] 33)
  have hb1 := heap3_1 w (.cells #[.int .u8 v.k, .int .i64 v.n] 27) (.cells #[.int .u8 k.k, .int .i64 k.n] 27) (.cells #[.slice none 0 0, .int .u8 0, .int .i64 0, .string ⟨#[]⟩, .int .i64 0] 33)
  have hb2 := heap3_2 w (.cells #[.int .u8 v.k, .int .i64 v.n] 27) (.cells #[.int .u8 k.k, .int .i64 k.n] 27) (.cells #[.slice none 0 0, .int .u8 0, .int .i64 0, .string ⟨#[]⟩, .int .i64 0] 33)
  obtain ⟨x0, x0'⟩ := cell_row2 hb0
  obtain ⟨x1, x1'⟩ := cell_row2 hb1
  have HD : Hid _ := hD
  clear hD
  go_enter Tryz.func42, Tryz.ntmps42
  go_wp2_with (first
    | (go_at_call 49; refine halt_here ?_))
  unfold Halted
  have hsz : (((w.alloc (.cells #[.int .u8 v.k, .int .i64 v.n] 27)).alloc (.cells #[.int .u8 k.k, .int .i64 k.n] 27)).alloc (.cells #[.slice none 0 0, .int .u8 0, .int .i64 0, .string ⟨#[]⟩, .int .i64 0] 33)).heap.size = w.heap.size + 1 + 1 + 1 := by simp
  generalize hW : (((w.alloc (.cells #[.int .u8 v.k, .int .i64 v.n] 27)).alloc (.cells #[.int .u8 k.k, .int .i64 k.n] 27)).alloc (.cells #[.slice none 0 0, .int .u8 0, .int .i64 0, .string ⟨#[]⟩, .int .i64 0] 33)) = W at *
  clear hW
  have hnew := heap_alloc_new W (.cells #[.int .u8 v.k, .int .i64 v.n, .int .u8 k.k, .int .i64 k.n] 27)
  have hBY := below1 W (.cells #[.int .u8 v.k, .int .i64 v.n, .int .u8 k.k, .int .i64 k.n] 27)
  rw [hsz] at hnew
  clear hsz
  have hB' := hB.trans (hBY.mono hB.size)
  obtain ⟨bf, hbf⟩ := b_of (mayL S [v, k])
  have HM := pmayBe_in (h.below hB') c (l := [v, k]) 2 (one_vals2 hnew) (by simp) bf hbf
  refine Calls.mono HM ?_
  clear HM
  rintro e w1 ⟨rfl, hB1⟩
  have hB1' := hBY.trans (hB1.mono hBY.size)
  have hBw := hB.trans (hB1'.mono hB.size)
  have e0 := (hB1'.block _ (Array.getElem?_eq_some_iff.1 hb0).1).trans hb0
  have e1 := (hB1'.block _ (Array.getElem?_eq_some_iff.1 hb1).1).trans hb1
  have e2 := (hB1'.block _ (Array.getElem?_eq_some_iff.1 hb2).1).trans hb2
  clear x0 x0' x1 x1' hb0 hb1 hb2 hnew hB1 hB1' hBY hB'
  have l2 := (Array.getElem?_eq_some_iff.1 e2).1
  cases bf with
  | false =>
    have hde : D = refD S := by
      rcases HD.out with ⟨-, hh⟩ | ⟨hf, -⟩
      · exact hh
      · have := hbf.2 hf; cases this
    clear HD hbf
    have HT := refused_in (h.below hBw) c hde
    clear hde
    go_wp2_with (first
      | (go_at_call 50; (with_reducible refine HT.mono ?_); clear HT; rintro e w2 ⟨p1, c1, rfl, hts, hB2⟩; have hr := (hB2.block _ l2).trans e2; obtain ⟨⟨z0, z1, z2, z3, z4⟩, s0, s1, s2, s3, s4⟩ := cell_row5 hr))
    refine bodyPost_ret (results_cell_row (by rfl) _ _ (w.heap.size + 1 + 1) 33 _ _ _ (by rfl) (set5_row hr) Tryz.underlying33 (by rfl) infoDid) (by rfl) ?_
    exact did_fin hr (by omega) (hts_mono hts hBw.size) (hBw.trans (hB2.mono hBw.size)) D.v D.t D.n
  | true =>
    obtain ⟨d, hdone, HP⟩ : ∃ d, DoneR S d D ∧ ∀ W, Below w.heap.size w W → Calls Tryz.prog 143 #[.slice p S.length c, .agg #[.int .u8 v.k, .int .i64 v.n], .agg #[.int .u8 k.k, .int .i64 k.n]] W (DeedV W d) := by
      rcases HD.out with ⟨hn, -⟩ | ⟨-, hh⟩
      · exact (hn (hbf.1 rfl)).elim
      · exact hh
    clear HD hbf
    have HP1 := HP w1 hBw
    clear HP
    obtain ⟨x0, x0'⟩ := cell_row2 e0
    obtain ⟨x1, x1'⟩ := cell_row2 e1
    have HDN : Hid _ := hdone
    clear hdone
    go_wp2_with (first
      | (go_at_call 143; (with_reducible refine HP1.mono ?_); clear HP1; rintro e w2 ⟨q, c_, q2, rfl, hv1, hv2, hB2⟩; refine halt_here ?_))
    unfold Halted
    have hBw2 := hBw.trans (hB2.mono hBw.size)
    have HE := did_in (h.below hBw2) c d HDN.out (cq := c_) hv1 hv2
    have f2 := (hB2.block _ l2).trans e2
    clear hv1 hv2
    go_wp2_with (first
      | (go_at_call 51; (with_reducible refine HE.mono ?_); clear HE; rintro e w3 ⟨p1, c1, rfl, hts, hB3⟩; have hr := (hB3.block _ (Array.getElem?_eq_some_iff.1 f2).1).trans f2; obtain ⟨⟨z0, z1, z2, z3, z4⟩, s0, s1, s2, s3, s4⟩ := cell_row5 hr))
    refine bodyPost_ret (results_cell_row (by rfl) _ _ (w.heap.size + 1 + 1) 33 _ _ _ (by rfl) (set5_row hr) Tryz.underlying33 (by rfl) infoDid) (by rfl) ?_
    exact did_fin hr (by omega) (hts_mono hts hBw2.size) (hBw2.trans (hB3.mono hBw2.size)) D.v D.t D.n

set_option maxRecDepth 20000 in
set_option maxHeartbeats 2000000 in
theorem pPut_in {p : Option Addr} {S : List Om} (h : Ask w p S) (c : Nat) (v k x : Vl) {D : Dv}
    (hD : (¬ mayL S [v, k, x] ∧ D = refD S) ∨ (mayL S [v, k, x] ∧ ∃ d, DoneR S d D ∧ ∀ W, Below w.heap.size w W → Calls Tryz.prog 142 #[.slice p S.length c, .agg #[.int .u8 v.k, .int .i64 v.n], .agg #[.int .u8 k.k, .int .i64 k.n], .agg #[.int .u8 x.k, .int .i64 x.n]] W (DeedV W d))) :
    Calls Tryz.prog 41 #[.slice p S.length c, .agg #[.int .u8 v.k, .int .i64 v.n], .agg #[.int .u8 k.k, .int .i64 k.n], .agg #[.int .u8 x.k, .int .i64 x.n]] w (DidR w D.S D.v D.t D.n) := by
  have hB := below4' w (.cells #[.int .u8 v.k, .int .i64 v.n] 27) (.cells #[.int .u8 k.k, .int .i64 k.n] 27) (.cells #[.int .u8 x.k, .int .i64 x.n] 27) (.cells #[.slice none 0 0, .int .u8 0, .int .i64 0, .string ⟨#[]⟩, .int .i64 0] 33)
  have hb0 := heap4_0 w (.cells #[.int .u8 v.k, .int .i64 v.n] 27) (.cells #[.int .u8 k.k, .int .i64 k.n] 27) (.cells #[.int .u8 x.k, .int .i64 x.n] 27) (.cells #[.slice none 0 0, .int .u8 0, .int .i64 0, .string ⟨#[]⟩, .int .i64 0] 33)
  have hb1 := heap4_1 w (.cells #[.int .u8 v.k, .int .i64 v.n] 27) (.cells #[.int .u8 k.k, .int .i64 k.n] 27) (.cells #[.int .u8 x.k, .int .i64 x.n] 27) (.cells #[.slice none 0 0, .int .u8 0, .int .i64 0, .string ⟨#[]⟩, .int .i64 0] 33)
  have hb2 := heap4_2 w (.cells #[.int .u8 v.k, .int .i64 v.n] 27) (.cells #[.int .u8 k.k, .int .i64 k.n] 27) (.cells #[.int .u8 x.k, .int .i64 x.n] 27) (.cells #[.slice none 0 0, .int .u8 0, .int .i64 0, .string ⟨#[]⟩, .int .i64 0] 33)
  have hb3 := heap4_3 w (.cells #[.int .u8 v.k, .int .i64 v.n] 27) (.cells #[.int .u8 k.k, .int .i64 k.n] 27) (.cells #[.int .u8 x.k, .int .i64 x.n] 27) (.cells #[.slice none 0 0, .int .u8 0, .int .i64 0, .string ⟨#[]⟩, .int .i64 0] 33)
  obtain ⟨x0, x0'⟩ := cell_row2 hb0
  obtain ⟨x1, x1'⟩ := cell_row2 hb1
  obtain ⟨x2, x2'⟩ := cell_row2 hb2
  have HD : Hid _ := hD
  clear hD
  go_enter Tryz.func41, Tryz.ntmps41
  go_wp2_with (first
    | (go_at_call 49; refine halt_here ?_))
  unfold Halted
  have hsz : ((((w.alloc (.cells #[.int .u8 v.k, .int .i64 v.n] 27)).alloc (.cells #[.int .u8 k.k, .int .i64 k.n] 27)).alloc (.cells #[.int .u8 x.k, .int .i64 x.n] 27)).alloc (.cells #[.slice none 0 0, .int .u8 0, .int .i64 0, .string ⟨#[]⟩, .int .i64 0] 33)).heap.size = w.heap.size + 1 + 1 + 1 + 1 := by simp
  generalize hW : ((((w.alloc (.cells #[.int .u8 v.k, .int .i64 v.n] 27)).alloc (.cells #[.int .u8 k.k, .int .i64 k.n] 27)).alloc (.cells #[.int .u8 x.k, .int .i64 x.n] 27)).alloc (.cells #[.slice none 0 0, .int .u8 0, .int .i64 0, .string ⟨#[]⟩, .int .i64 0] 33)) = W at *
  clear hW
  have hnew := heap_alloc_new W (.cells #[.int .u8 v.k, .int .i64 v.n, .int .u8 k.k, .int .i64 k.n, .int .u8 x.k, .int .i64 x.n] 27)
  have hBY := below1 W (.cells #[.int .u8 v.k, .int .i64 v.n, .int .u8 k.k, .int .i64 k.n, .int .u8 x.k, .int .i64 x.n] 27)
  rw [hsz] at hnew
  clear hsz
  have hB' := hB.trans (hBY.mono hB.size)
  obtain ⟨bf, hbf⟩ := b_of (mayL S [v, k, x])
  have HM := pmayBe_in (h.below hB') c (l := [v, k, x]) 3 (one_vals3 hnew) (by simp) bf hbf
  refine Calls.mono HM ?_
  clear HM
  rintro e w1 ⟨rfl, hB1⟩
  have hB1' := hBY.trans (hB1.mono hBY.size)
  have hBw := hB.trans (hB1'.mono hB.size)
  have e0 := (hB1'.block _ (Array.getElem?_eq_some_iff.1 hb0).1).trans hb0
  have e1 := (hB1'.block _ (Array.getElem?_eq_some_iff.1 hb1).1).trans hb1
  have e2 := (hB1'.block _ (Array.getElem?_eq_some_iff.1 hb2).1).trans hb2
  have e3 := (hB1'.block _ (Array.getElem?_eq_some_iff.1 hb3).1).trans hb3
  clear x0 x0' x1 x1' x2 x2' hb0 hb1 hb2 hb3 hnew hB1 hB1' hBY hB'
  have l3 := (Array.getElem?_eq_some_iff.1 e3).1
  cases bf with
  | false =>
    have hde : D = refD S := by
      rcases HD.out with ⟨-, hh⟩ | ⟨hf, -⟩
      · exact hh
      · have := hbf.2 hf; cases this
    clear HD hbf
    have HT := refused_in (h.below hBw) c hde
    clear hde
    go_wp2_with (first
      | (go_at_call 50; (with_reducible refine HT.mono ?_); clear HT; rintro e w2 ⟨p1, c1, rfl, hts, hB2⟩; have hr := (hB2.block _ l3).trans e3; obtain ⟨⟨z0, z1, z2, z3, z4⟩, s0, s1, s2, s3, s4⟩ := cell_row5 hr))
    refine bodyPost_ret (results_cell_row (by rfl) _ _ (w.heap.size + 1 + 1 + 1) 33 _ _ _ (by rfl) (set5_row hr) Tryz.underlying33 (by rfl) infoDid) (by rfl) ?_
    exact did_fin hr (by omega) (hts_mono hts hBw.size) (hBw.trans (hB2.mono hBw.size)) D.v D.t D.n
  | true =>
    obtain ⟨d, hdone, HP⟩ : ∃ d, DoneR S d D ∧ ∀ W, Below w.heap.size w W → Calls Tryz.prog 142 #[.slice p S.length c, .agg #[.int .u8 v.k, .int .i64 v.n], .agg #[.int .u8 k.k, .int .i64 k.n], .agg #[.int .u8 x.k, .int .i64 x.n]] W (DeedV W d) := by
      rcases HD.out with ⟨hn, -⟩ | ⟨-, hh⟩
      · exact (hn (hbf.1 rfl)).elim
      · exact hh
    clear HD hbf
    have HP1 := HP w1 hBw
    clear HP
    obtain ⟨x0, x0'⟩ := cell_row2 e0
    obtain ⟨x1, x1'⟩ := cell_row2 e1
    obtain ⟨x2, x2'⟩ := cell_row2 e2
    have HDN : Hid _ := hdone
    clear hdone
    go_wp2_with (first
      | (go_at_call 142; (with_reducible refine HP1.mono ?_); clear HP1; rintro e w2 ⟨q, c_, q2, rfl, hv1, hv2, hB2⟩; refine halt_here ?_))
    unfold Halted
    have hBw2 := hBw.trans (hB2.mono hBw.size)
    have HE := did_in (h.below hBw2) c d HDN.out (cq := c_) hv1 hv2
    have f3 := (hB2.block _ l3).trans e3
    clear hv1 hv2
    go_wp2_with (first
      | (go_at_call 51; (with_reducible refine HE.mono ?_); clear HE; rintro e w3 ⟨p1, c1, rfl, hts, hB3⟩; have hr := (hB3.block _ (Array.getElem?_eq_some_iff.1 f3).1).trans f3; obtain ⟨⟨z0, z1, z2, z3, z4⟩, s0, s1, s2, s3, s4⟩ := cell_row5 hr))
    refine bodyPost_ret (results_cell_row (by rfl) _ _ (w.heap.size + 1 + 1 + 1) 33 _ _ _ (by rfl) (set5_row hr) Tryz.underlying33 (by rfl) infoDid) (by rfl) ?_
    exact did_fin hr (by omega) (hts_mono hts hBw2.size) (hBw2.trans (hB3.mono hBw2.size)) D.v D.t D.n


end Go.Proofs.YtgokofomoachaaaGreatDoor
