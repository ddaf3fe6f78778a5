/- The document's Put of a list: out of bounds; at a place that there is; where it is full. -/
import Derived.Test.YtgokofomoachaaaGreatDoorPkPutC
namespace Go.Proofs.YtgokofomoachaaaGreatDoor
set_option linter.unusedVariables false
set_option linter.unusedSimpArgs false
open Go.RowKit

variable {w : World}


set_option maxRecDepth 20000 in
set_option maxHeartbeats 8000000 in
theorem rPut_low {base H : Nat} {S : List Om} {p : Option Addr} {c : Nat} {ts : List Po} (hR : Rh base w H S p c ts) (hbw : base ≤ w.heap.size) (h : Ask w p S) (v k x : Vl) (hf : fineP S [v, k, x]) (h4 : v.k = 4) (h2 : k.k = 2) {i : Nat} {o : Om} (ho : leadO S v = some o) (hvi : v.n = (i : Int) + 1) (hkn : k.n < 0) {D : Dv} (hD : D = ⟨S, ⟨0, 0⟩, tBounds, 0⟩) :
    Calls Tryz.prog 40 #[.pointer (some ⟨H, 0, none⟩), .agg #[.int .u8 v.k, .int .i64 v.n], .agg #[.int .u8 k.k, .int .i64 k.n], .agg #[.int .u8 x.k, .int .i64 x.n], .bool false] w fun e w' => e = .returned (.agg #[.int .u8 D.v.k, .int .i64 D.v.n, .string D.t, .int .i64 D.n]) ∧ (∃ p' c' ts', Rh base w' H D.S p' c' ts') ∧ Below base w w' := by
  have hm := fine_may hf
  have hSo : S[i]? = some o := by
    obtain ⟨-, -, -, i', hn, hi, hS⟩ := leadO_some ho
    have : i' = i := by omega
    subst this; exact hS
  have hSi := (List.getElem?_eq_some_iff.1 hSo).1
  have hSl := h.len
  obtain ⟨o', ho', hobj⟩ := may_obj hm (v := v) (by simp) (by omega)
  rw [ho] at ho'; cases ho'
  have hok : o.k = 4 := by have := (leadO_some ho).2.2.1; omega
  have hl9 : o.l.length ≤ 65536 := by have := hobj.1.2.1 hok; omega
  have hro := roomP_le (hobj.1.2.1 hok).2.1
  clear hobj hok hm
  have H_h4 : Hid _ := h4
  clear h4
  have H_h2 : Hid _ := h2
  clear h2
  have H_hvi : Hid _ := hvi
  clear hvi
  have hB := below4' w (.cells #[.int .u8 v.k, .int .i64 v.n] 27) (.cells #[.int .u8 k.k, .int .i64 k.n] 27) (.cells #[.int .u8 x.k, .int .i64 x.n] 27) (.cells #[.int .u8 0, .int .i64 0, .string ⟨#[]⟩, .int .i64 0] 38)
  have e0 := heap4_0 w (.cells #[.int .u8 v.k, .int .i64 v.n] 27) (.cells #[.int .u8 k.k, .int .i64 k.n] 27) (.cells #[.int .u8 x.k, .int .i64 x.n] 27) (.cells #[.int .u8 0, .int .i64 0, .string ⟨#[]⟩, .int .i64 0] 38)
  have e1 := heap4_1 w (.cells #[.int .u8 v.k, .int .i64 v.n] 27) (.cells #[.int .u8 k.k, .int .i64 k.n] 27) (.cells #[.int .u8 x.k, .int .i64 x.n] 27) (.cells #[.int .u8 0, .int .i64 0, .string ⟨#[]⟩, .int .i64 0] 38)
  have e2 := heap4_2 w (.cells #[.int .u8 v.k, .int .i64 v.n] 27) (.cells #[.int .u8 k.k, .int .i64 k.n] 27) (.cells #[.int .u8 x.k, .int .i64 x.n] 27) (.cells #[.int .u8 0, .int .i64 0, .string ⟨#[]⟩, .int .i64 0] 38)
  have e3 := heap4_3 w (.cells #[.int .u8 v.k, .int .i64 v.n] 27) (.cells #[.int .u8 k.k, .int .i64 k.n] 27) (.cells #[.int .u8 x.k, .int .i64 x.n] 27) (.cells #[.int .u8 0, .int .i64 0, .string ⟨#[]⟩, .int .i64 0] 38)
  obtain ⟨x0, x1⟩ := cell_row2 e0
  obtain ⟨u0, u1⟩ := cell_row2 e1
  obtain ⟨t0, t1⟩ := cell_row2 e2
  have HDq : Hid _ := hD
  clear hD
  go_enter Tryz.func40, Tryz.ntmps40
  go_wp2_with (first
    | (go_at_call 54; refine halt_here ?_))
  unfold Halted
  have hsz : ((((w.alloc (.cells #[.int .u8 v.k, .int .i64 v.n] 27)).alloc (.cells #[.int .u8 k.k, .int .i64 k.n] 27)).alloc (.cells #[.int .u8 x.k, .int .i64 x.n] 27)).alloc (.cells #[.int .u8 0, .int .i64 0, .string ⟨#[]⟩, .int .i64 0] 38)).heap.size = w.heap.size + 1 + 1 + 1 + 1 := by simp
  generalize hW : (((w.alloc (.cells #[.int .u8 v.k, .int .i64 v.n] 27)).alloc (.cells #[.int .u8 k.k, .int .i64 k.n] 27)).alloc (.cells #[.int .u8 x.k, .int .i64 x.n] 27)).alloc (.cells #[.int .u8 0, .int .i64 0, .string ⟨#[]⟩, .int .i64 0] 38) = W at *
  clear hW
  have hnew := heap_alloc_new W (.cells #[.int .u8 v.k, .int .i64 v.n, .int .u8 k.k, .int .i64 k.n, .int .u8 x.k, .int .i64 x.n] 27)
  have hBY := below1 W (.cells #[.int .u8 v.k, .int .i64 v.n, .int .u8 k.k, .int .i64 k.n, .int .u8 x.k, .int .i64 x.n] 27)
  rw [hsz] at hnew
  clear hsz
  have hB' := hB.trans (hBY.mono hB.size)
  have HM := Fine_in (h.below hB') c (hR.at_.below hB') (l := [v, k, x]) 3 (one_vals3 hnew) (by simp) true (by simp [hf])
  refine Calls.mono HM ?_
  clear HM
  rintro e w1 ⟨rfl, hB1⟩
  have hB1' := hBY.trans (hB1.mono hBY.size)
  have hBw := hB.trans (hB1'.mono hB.size)
  have f0 := (hB1'.block _ (Array.getElem?_eq_some_iff.1 e0).1).trans e0
  have f1 := (hB1'.block _ (Array.getElem?_eq_some_iff.1 e1).1).trans e1
  have f2 := (hB1'.block _ (Array.getElem?_eq_some_iff.1 e2).1).trans e2
  have f3 := (hB1'.block _ (Array.getElem?_eq_some_iff.1 e3).1).trans e3
  clear x0 x1 u0 u1 t0 t1 e0 e1 e2 e3 hnew hB1 hB1' hBY hB'
  obtain ⟨x0, x1⟩ := cell_row2 f0
  obtain ⟨u0, u1⟩ := cell_row2 f1
  obtain ⟨t0, t1⟩ := cell_row2 f2
  have hR1 := hR.below hBw
  have hbs : base ≤ w1.heap.size := Nat.le_trans hbw hBw.size
  have h4 := H_h4.out
  clear H_h4
  have h2 := H_h2.out
  clear H_h2
  have hvi := H_hvi.out
  clear H_hvi
  obtain ⟨vk, vn⟩ := v
  obtain ⟨kk, kn⟩ := k
  simp only at h4 h2 hvi hkn
  subst h4 h2 hvi
  simp only [show ((4 : Nat) : Int) = 4 from rfl, show ((2 : Nat) : Int) = 2 from rfl] at x0 x1 u0 u1 f0 f1
  have HO := robj_in (h.below hBw) c hR1.at_ ⟨4, (i : Int) + 1⟩ ho
  simp only [show ((4 : Nat) : Int) = 4 from rfl] at HO
  have l3 := (Array.getElem?_eq_some_iff.1 f3).1
  clear hf
  go_wp2_with (first
    | (go_at_call 59; (with_reducible refine HO.mono ?_); clear HO; rintro e w2 ⟨qo, co, rfl, hvo, hqn, hB2⟩; refine halt_here ?_))
  unfold Halted
  have hBw2 := hBw.trans (hB2.mono hBw.size)
  have hA5 := below1 w2 (.cells #[.int .u8 o.k, .string o.s, .slice qo o.l.length co, .int .i64 o.room, .int .i64 o.fn] 96)
  have k5 := heap_alloc_new w2 (.cells #[.int .u8 o.k, .string o.s, .slice qo o.l.length co, .int .i64 o.room, .int .i64 o.fn] 96)
  have g0 := (hB2.block _ (Array.getElem?_eq_some_iff.1 f0).1).trans f0
  have g1 := (hB2.block _ (Array.getElem?_eq_some_iff.1 f1).1).trans f1
  have g2 := (hB2.block _ (Array.getElem?_eq_some_iff.1 f2).1).trans f2
  have g3 := (hB2.block _ (Array.getElem?_eq_some_iff.1 f3).1).trans f3
  have k0 := (hA5.block _ (Array.getElem?_eq_some_iff.1 g0).1).trans g0
  have k1 := (hA5.block _ (Array.getElem?_eq_some_iff.1 g1).1).trans g1
  have k2 := (hA5.block _ (Array.getElem?_eq_some_iff.1 g2).1).trans g2
  have k3 := (hA5.block _ (Array.getElem?_eq_some_iff.1 g3).1).trans g3
  have hBw6 := hBw2.trans (hA5.mono hBw2.size)
  have hR6 := hR1.below (hB2.trans (hA5.mono hB2.size))
  have hv6 := (hvo.below hB2).below hA5
  have hw1 : w.heap.size + 1 + 1 + 1 + 1 ≤ w2.heap.size := by have := hB2.size; omega
  clear x0 x1 u0 u1 t0 t1 f0 f1 f2 f3 g0 g1 g2 g3 hvo hA5 hB hB2 hBw hBw2 hR1 hbs l3
  go_upto_region 8 with fail
  generalize w2.alloc (.cells #[.int .u8 o.k, .string o.s, .slice qo o.l.length co, .int .i64 o.room, .int .i64 o.fn] 96) = w6 at *
  generalize w2.heap.size = O5 at *
  obtain ⟨⟨p0, p1, p2, p3, p4⟩, -⟩ := cell_row5 k5
  obtain ⟨y0, y1⟩ := cell_row2 k1
  obtain ⟨x0, x1⟩ := cell_row2 k0
  obtain ⟨u0, u1⟩ := cell_row2 k2
  have hbs6 : base ≤ w6.heap.size := Nat.le_trans hbw hBw6.size
  have H1 := thrown_in tBounds w6 (d := { t := tBounds }) rfl
  unfold tBounds at H1
  go_wp2_with (first
    | (go_at_call 55; (with_reducible refine H1.mono ?_); clear H1; rintro e w9 ⟨rfl, hB9⟩; have hr := (hB9.block _ (Array.getElem?_eq_some_iff.1 k3).1).trans k3; obtain ⟨⟨z0, z1, z2, z3⟩, y0, y1, y2, y3⟩ := cell_row4D hr))
  refine bodyPost_ret (results_cell_row (by rfl) _ _ (w.heap.size + 1 + 1 + 1) 38 _ _ _ (by rfl) (set4_rowD hr) Tryz.underlying38 (by rfl) infoRd) (by rfl) ?_
  obtain rfl := HDq.out
  exact ⟨rfl, ⟨p, c, ts, (hR6.below hB9).set4 hr _ _ _ _⟩, below_set4 ((hBw6.mono hbw).trans (hB9.mono hbs6)) (by omega) _ _ _ _⟩

set_option maxRecDepth 20000 in
set_option maxHeartbeats 8000000 in
theorem rPut_high {base H : Nat} {S : List Om} {p : Option Addr} {c : Nat} {ts : List Po} (hR : Rh base w H S p c ts) (hbw : base ≤ w.heap.size) (h : Ask w p S) (v k x : Vl) (hf : fineP S [v, k, x]) (h4 : v.k = 4) (h2 : k.k = 2) {i : Nat} {o : Om} (ho : leadO S v = some o) (hvi : v.n = (i : Int) + 1) (hkn : (o.l.length : Int) < k.n) {D : Dv} (hD : D = ⟨S, ⟨0, 0⟩, tBounds, 0⟩) :
    Calls Tryz.prog 40 #[.pointer (some ⟨H, 0, none⟩), .agg #[.int .u8 v.k, .int .i64 v.n], .agg #[.int .u8 k.k, .int .i64 k.n], .agg #[.int .u8 x.k, .int .i64 x.n], .bool false] w fun e w' => e = .returned (.agg #[.int .u8 D.v.k, .int .i64 D.v.n, .string D.t, .int .i64 D.n]) ∧ (∃ p' c' ts', Rh base w' H D.S p' c' ts') ∧ Below base w w' := by
  have hm := fine_may hf
  have hSo : S[i]? = some o := by
    obtain ⟨-, -, -, i', hn, hi, hS⟩ := leadO_some ho
    have : i' = i := by omega
    subst this; exact hS
  have hSi := (List.getElem?_eq_some_iff.1 hSo).1
  have hSl := h.len
  obtain ⟨o', ho', hobj⟩ := may_obj hm (v := v) (by simp) (by omega)
  rw [ho] at ho'; cases ho'
  have hok : o.k = 4 := by have := (leadO_some ho).2.2.1; omega
  have hl9 : o.l.length ≤ 65536 := by have := hobj.1.2.1 hok; omega
  have hro := roomP_le (hobj.1.2.1 hok).2.1
  clear hobj hok hm
  have H_h4 : Hid _ := h4
  clear h4
  have H_h2 : Hid _ := h2
  clear h2
  have H_hvi : Hid _ := hvi
  clear hvi
  have hB := below4' w (.cells #[.int .u8 v.k, .int .i64 v.n] 27) (.cells #[.int .u8 k.k, .int .i64 k.n] 27) (.cells #[.int .u8 x.k, .int .i64 x.n] 27) (.cells #[.int .u8 0, .int .i64 0, .string ⟨#[]⟩, .int .i64 0] 38)
  have e0 := heap4_0 w (.cells #[.int .u8 v.k, .int .i64 v.n] 27) (.cells #[.int .u8 k.k, .int .i64 k.n] 27) (.cells #[.int .u8 x.k, .int .i64 x.n] 27) (.cells #[.int .u8 0, .int .i64 0, .string ⟨#[]⟩, .int .i64 0] 38)
  have e1 := heap4_1 w (.cells #[.int .u8 v.k, .int .i64 v.n] 27) (.cells #[.int .u8 k.k, .int .i64 k.n] 27) (.cells #[.int .u8 x.k, .int .i64 x.n] 27) (.cells #[.int .u8 0, .int .i64 0, .string ⟨#[]⟩, .int .i64 0] 38)
  have e2 := heap4_2 w (.cells #[.int .u8 v.k, .int .i64 v.n] 27) (.cells #[.int .u8 k.k, .int .i64 k.n] 27) (.cells #[.int .u8 x.k, .int .i64 x.n] 27) (.cells #[.int .u8 0, .int .i64 0, .string ⟨#[]⟩, .int .i64 0] 38)
  have e3 := heap4_3 w (.cells #[.int .u8 v.k, .int .i64 v.n] 27) (.cells #[.int .u8 k.k, .int .i64 k.n] 27) (.cells #[.int .u8 x.k, .int .i64 x.n] 27) (.cells #[.int .u8 0, .int .i64 0, .string ⟨#[]⟩, .int .i64 0] 38)
  obtain ⟨x0, x1⟩ := cell_row2 e0
  obtain ⟨u0, u1⟩ := cell_row2 e1
  obtain ⟨t0, t1⟩ := cell_row2 e2
  have HDq : Hid _ := hD
  clear hD
  go_enter Tryz.func40, Tryz.ntmps40
  go_wp2_with (first
    | (go_at_call 54; refine halt_here ?_))
  unfold Halted
  have hsz : ((((w.alloc (.cells #[.int .u8 v.k, .int .i64 v.n] 27)).alloc (.cells #[.int .u8 k.k, .int .i64 k.n] 27)).alloc (.cells #[.int .u8 x.k, .int .i64 x.n] 27)).alloc (.cells #[.int .u8 0, .int .i64 0, .string ⟨#[]⟩, .int .i64 0] 38)).heap.size = w.heap.size + 1 + 1 + 1 + 1 := by simp
  generalize hW : (((w.alloc (.cells #[.int .u8 v.k, .int .i64 v.n] 27)).alloc (.cells #[.int .u8 k.k, .int .i64 k.n] 27)).alloc (.cells #[.int .u8 x.k, .int .i64 x.n] 27)).alloc (.cells #[.int .u8 0, .int .i64 0, .string ⟨#[]⟩, .int .i64 0] 38) = W at *
  clear hW
  have hnew := heap_alloc_new W (.cells #[.int .u8 v.k, .int .i64 v.n, .int .u8 k.k, .int .i64 k.n, .int .u8 x.k, .int .i64 x.n] 27)
  have hBY := below1 W (.cells #[.int .u8 v.k, .int .i64 v.n, .int .u8 k.k, .int .i64 k.n, .int .u8 x.k, .int .i64 x.n] 27)
  rw [hsz] at hnew
  clear hsz
  have hB' := hB.trans (hBY.mono hB.size)
  have HM := Fine_in (h.below hB') c (hR.at_.below hB') (l := [v, k, x]) 3 (one_vals3 hnew) (by simp) true (by simp [hf])
  refine Calls.mono HM ?_
  clear HM
  rintro e w1 ⟨rfl, hB1⟩
  have hB1' := hBY.trans (hB1.mono hBY.size)
  have hBw := hB.trans (hB1'.mono hB.size)
  have f0 := (hB1'.block _ (Array.getElem?_eq_some_iff.1 e0).1).trans e0
  have f1 := (hB1'.block _ (Array.getElem?_eq_some_iff.1 e1).1).trans e1
  have f2 := (hB1'.block _ (Array.getElem?_eq_some_iff.1 e2).1).trans e2
  have f3 := (hB1'.block _ (Array.getElem?_eq_some_iff.1 e3).1).trans e3
  clear x0 x1 u0 u1 t0 t1 e0 e1 e2 e3 hnew hB1 hB1' hBY hB'
  obtain ⟨x0, x1⟩ := cell_row2 f0
  obtain ⟨u0, u1⟩ := cell_row2 f1
  obtain ⟨t0, t1⟩ := cell_row2 f2
  have hR1 := hR.below hBw
  have hbs : base ≤ w1.heap.size := Nat.le_trans hbw hBw.size
  have h4 := H_h4.out
  clear H_h4
  have h2 := H_h2.out
  clear H_h2
  have hvi := H_hvi.out
  clear H_hvi
  obtain ⟨vk, vn⟩ := v
  obtain ⟨kk, kn⟩ := k
  simp only at h4 h2 hvi hkn
  subst h4 h2 hvi
  simp only [show ((4 : Nat) : Int) = 4 from rfl, show ((2 : Nat) : Int) = 2 from rfl] at x0 x1 u0 u1 f0 f1
  have HO := robj_in (h.below hBw) c hR1.at_ ⟨4, (i : Int) + 1⟩ ho
  simp only [show ((4 : Nat) : Int) = 4 from rfl] at HO
  have l3 := (Array.getElem?_eq_some_iff.1 f3).1
  clear hf
  go_wp2_with (first
    | (go_at_call 59; (with_reducible refine HO.mono ?_); clear HO; rintro e w2 ⟨qo, co, rfl, hvo, hqn, hB2⟩; refine halt_here ?_))
  unfold Halted
  have hBw2 := hBw.trans (hB2.mono hBw.size)
  have hA5 := below1 w2 (.cells #[.int .u8 o.k, .string o.s, .slice qo o.l.length co, .int .i64 o.room, .int .i64 o.fn] 96)
  have k5 := heap_alloc_new w2 (.cells #[.int .u8 o.k, .string o.s, .slice qo o.l.length co, .int .i64 o.room, .int .i64 o.fn] 96)
  have g0 := (hB2.block _ (Array.getElem?_eq_some_iff.1 f0).1).trans f0
  have g1 := (hB2.block _ (Array.getElem?_eq_some_iff.1 f1).1).trans f1
  have g2 := (hB2.block _ (Array.getElem?_eq_some_iff.1 f2).1).trans f2
  have g3 := (hB2.block _ (Array.getElem?_eq_some_iff.1 f3).1).trans f3
  have k0 := (hA5.block _ (Array.getElem?_eq_some_iff.1 g0).1).trans g0
  have k1 := (hA5.block _ (Array.getElem?_eq_some_iff.1 g1).1).trans g1
  have k2 := (hA5.block _ (Array.getElem?_eq_some_iff.1 g2).1).trans g2
  have k3 := (hA5.block _ (Array.getElem?_eq_some_iff.1 g3).1).trans g3
  have hBw6 := hBw2.trans (hA5.mono hBw2.size)
  have hR6 := hR1.below (hB2.trans (hA5.mono hB2.size))
  have hv6 := (hvo.below hB2).below hA5
  have hw1 : w.heap.size + 1 + 1 + 1 + 1 ≤ w2.heap.size := by have := hB2.size; omega
  clear x0 x1 u0 u1 t0 t1 f0 f1 f2 f3 g0 g1 g2 g3 hvo hA5 hB hB2 hBw hBw2 hR1 hbs l3
  go_upto_region 8 with fail
  generalize w2.alloc (.cells #[.int .u8 o.k, .string o.s, .slice qo o.l.length co, .int .i64 o.room, .int .i64 o.fn] 96) = w6 at *
  generalize w2.heap.size = O5 at *
  obtain ⟨⟨p0, p1, p2, p3, p4⟩, -⟩ := cell_row5 k5
  obtain ⟨y0, y1⟩ := cell_row2 k1
  obtain ⟨x0, x1⟩ := cell_row2 k0
  obtain ⟨u0, u1⟩ := cell_row2 k2
  have hbs6 : base ≤ w6.heap.size := Nat.le_trans hbw hBw6.size
  have hk0 : ¬ (kn < 0) := by omega
  have H1 := thrown_in tBounds w6 (d := { t := tBounds }) rfl
  unfold tBounds at H1
  go_wp2_with (first
    | (go_at_call 55; (with_reducible refine H1.mono ?_); clear H1; rintro e w9 ⟨rfl, hB9⟩; have hr := (hB9.block _ (Array.getElem?_eq_some_iff.1 k3).1).trans k3; obtain ⟨⟨z0, z1, z2, z3⟩, y0, y1, y2, y3⟩ := cell_row4D hr))
  refine bodyPost_ret (results_cell_row (by rfl) _ _ (w.heap.size + 1 + 1 + 1) 38 _ _ _ (by rfl) (set4_rowD hr) Tryz.underlying38 (by rfl) infoRd) (by rfl) ?_
  obtain rfl := HDq.out
  exact ⟨rfl, ⟨p, c, ts, (hR6.below hB9).set4 hr _ _ _ _⟩, below_set4 ((hBw6.mono hbw).trans (hB9.mono hbs6)) (by omega) _ _ _ _⟩

set_option maxRecDepth 20000 in
set_option maxHeartbeats 8000000 in
theorem rPut_full {base H : Nat} {S : List Om} {p : Option Addr} {c : Nat} {ts : List Po} (hR : Rh base w H S p c ts) (hbw : base ≤ w.heap.size) (h : Ask w p S) (v k x : Vl) (hf : fineP S [v, k, x]) (h4 : v.k = 4) (h2 : k.k = 2) {i : Nat} {o : Om} (ho : leadO S v = some o) (hvi : v.n = (i : Int) + 1) (hkn : k.n = (o.l.length : Int)) (hmx : o.l.length = 65536) {D : Dv} (hD : D = ⟨S, ⟨0, 0⟩, tItems, 0⟩) :
    Calls Tryz.prog 40 #[.pointer (some ⟨H, 0, none⟩), .agg #[.int .u8 v.k, .int .i64 v.n], .agg #[.int .u8 k.k, .int .i64 k.n], .agg #[.int .u8 x.k, .int .i64 x.n], .bool false] w fun e w' => e = .returned (.agg #[.int .u8 D.v.k, .int .i64 D.v.n, .string D.t, .int .i64 D.n]) ∧ (∃ p' c' ts', Rh base w' H D.S p' c' ts') ∧ Below base w w' := by
  have hm := fine_may hf
  have hSo : S[i]? = some o := by
    obtain ⟨-, -, -, i', hn, hi, hS⟩ := leadO_some ho
    have : i' = i := by omega
    subst this; exact hS
  have hSi := (List.getElem?_eq_some_iff.1 hSo).1
  have hSl := h.len
  obtain ⟨o', ho', hobj⟩ := may_obj hm (v := v) (by simp) (by omega)
  rw [ho] at ho'; cases ho'
  have hok : o.k = 4 := by have := (leadO_some ho).2.2.1; omega
  have hl9 : o.l.length ≤ 65536 := by have := hobj.1.2.1 hok; omega
  have hro := roomP_le (hobj.1.2.1 hok).2.1
  clear hobj hok hm
  have H_hmx : Hid _ := hmx
  clear hmx
  have H_h4 : Hid _ := h4
  clear h4
  have H_h2 : Hid _ := h2
  clear h2
  have H_hvi : Hid _ := hvi
  clear hvi
  have H_hkn : Hid _ := hkn
  clear hkn
  have hB := below4' w (.cells #[.int .u8 v.k, .int .i64 v.n] 27) (.cells #[.int .u8 k.k, .int .i64 k.n] 27) (.cells #[.int .u8 x.k, .int .i64 x.n] 27) (.cells #[.int .u8 0, .int .i64 0, .string ⟨#[]⟩, .int .i64 0] 38)
  have e0 := heap4_0 w (.cells #[.int .u8 v.k, .int .i64 v.n] 27) (.cells #[.int .u8 k.k, .int .i64 k.n] 27) (.cells #[.int .u8 x.k, .int .i64 x.n] 27) (.cells #[.int .u8 0, .int .i64 0, .string ⟨#[]⟩, .int .i64 0] 38)
  have e1 := heap4_1 w (.cells #[.int .u8 v.k, .int .i64 v.n] 27) (.cells #[.int .u8 k.k, .int .i64 k.n] 27) (.cells #[.int .u8 x.k, .int .i64 x.n] 27) (.cells #[.int .u8 0, .int .i64 0, .string ⟨#[]⟩, .int .i64 0] 38)
  have e2 := heap4_2 w (.cells #[.int .u8 v.k, .int .i64 v.n] 27) (.cells #[.int .u8 k.k, .int .i64 k.n] 27) (.cells #[.int .u8 x.k, .int .i64 x.n] 27) (.cells #[.int .u8 0, .int .i64 0, .string ⟨#[]⟩, .int .i64 0] 38)
  have e3 := heap4_3 w (.cells #[.int .u8 v.k, .int .i64 v.n] 27) (.cells #[.int .u8 k.k, .int .i64 k.n] 27) (.cells #[.int .u8 x.k, .int .i64 x.n] 27) (.cells #[.int .u8 0, .int .i64 0, .string ⟨#[]⟩, .int .i64 0] 38)
  obtain ⟨x0, x1⟩ := cell_row2 e0
  obtain ⟨u0, u1⟩ := cell_row2 e1
  obtain ⟨t0, t1⟩ := cell_row2 e2
  have HDq : Hid _ := hD
  clear hD
  go_enter Tryz.func40, Tryz.ntmps40
  go_wp2_with (first
    | (go_at_call 54; refine halt_here ?_))
  unfold Halted
  have hsz : ((((w.alloc (.cells #[.int .u8 v.k, .int .i64 v.n] 27)).alloc (.cells #[.int .u8 k.k, .int .i64 k.n] 27)).alloc (.cells #[.int .u8 x.k, .int .i64 x.n] 27)).alloc (.cells #[.int .u8 0, .int .i64 0, .string ⟨#[]⟩, .int .i64 0] 38)).heap.size = w.heap.size + 1 + 1 + 1 + 1 := by simp
  generalize hW : (((w.alloc (.cells #[.int .u8 v.k, .int .i64 v.n] 27)).alloc (.cells #[.int .u8 k.k, .int .i64 k.n] 27)).alloc (.cells #[.int .u8 x.k, .int .i64 x.n] 27)).alloc (.cells #[.int .u8 0, .int .i64 0, .string ⟨#[]⟩, .int .i64 0] 38) = W at *
  clear hW
  have hnew := heap_alloc_new W (.cells #[.int .u8 v.k, .int .i64 v.n, .int .u8 k.k, .int .i64 k.n, .int .u8 x.k, .int .i64 x.n] 27)
  have hBY := below1 W (.cells #[.int .u8 v.k, .int .i64 v.n, .int .u8 k.k, .int .i64 k.n, .int .u8 x.k, .int .i64 x.n] 27)
  rw [hsz] at hnew
  clear hsz
  have hB' := hB.trans (hBY.mono hB.size)
  have HM := Fine_in (h.below hB') c (hR.at_.below hB') (l := [v, k, x]) 3 (one_vals3 hnew) (by simp) true (by simp [hf])
  refine Calls.mono HM ?_
  clear HM
  rintro e w1 ⟨rfl, hB1⟩
  have hB1' := hBY.trans (hB1.mono hBY.size)
  have hBw := hB.trans (hB1'.mono hB.size)
  have f0 := (hB1'.block _ (Array.getElem?_eq_some_iff.1 e0).1).trans e0
  have f1 := (hB1'.block _ (Array.getElem?_eq_some_iff.1 e1).1).trans e1
  have f2 := (hB1'.block _ (Array.getElem?_eq_some_iff.1 e2).1).trans e2
  have f3 := (hB1'.block _ (Array.getElem?_eq_some_iff.1 e3).1).trans e3
  clear x0 x1 u0 u1 t0 t1 e0 e1 e2 e3 hnew hB1 hB1' hBY hB'
  obtain ⟨x0, x1⟩ := cell_row2 f0
  obtain ⟨u0, u1⟩ := cell_row2 f1
  obtain ⟨t0, t1⟩ := cell_row2 f2
  have hR1 := hR.below hBw
  have hbs : base ≤ w1.heap.size := Nat.le_trans hbw hBw.size
  have h4 := H_h4.out
  clear H_h4
  have h2 := H_h2.out
  clear H_h2
  have hvi := H_hvi.out
  clear H_hvi
  have hkn := H_hkn.out
  clear H_hkn
  obtain ⟨vk, vn⟩ := v
  obtain ⟨kk, kn⟩ := k
  simp only at h4 h2 hvi hkn
  subst h4 h2 hvi hkn
  simp only [show ((4 : Nat) : Int) = 4 from rfl, show ((2 : Nat) : Int) = 2 from rfl] at x0 x1 u0 u1 f0 f1
  have HO := robj_in (h.below hBw) c hR1.at_ ⟨4, (i : Int) + 1⟩ ho
  simp only [show ((4 : Nat) : Int) = 4 from rfl] at HO
  have l3 := (Array.getElem?_eq_some_iff.1 f3).1
  clear hf
  go_wp2_with (first
    | (go_at_call 59; (with_reducible refine HO.mono ?_); clear HO; rintro e w2 ⟨qo, co, rfl, hvo, hqn, hB2⟩; refine halt_here ?_))
  unfold Halted
  have hBw2 := hBw.trans (hB2.mono hBw.size)
  have hA5 := below1 w2 (.cells #[.int .u8 o.k, .string o.s, .slice qo o.l.length co, .int .i64 o.room, .int .i64 o.fn] 96)
  have k5 := heap_alloc_new w2 (.cells #[.int .u8 o.k, .string o.s, .slice qo o.l.length co, .int .i64 o.room, .int .i64 o.fn] 96)
  have g0 := (hB2.block _ (Array.getElem?_eq_some_iff.1 f0).1).trans f0
  have g1 := (hB2.block _ (Array.getElem?_eq_some_iff.1 f1).1).trans f1
  have g2 := (hB2.block _ (Array.getElem?_eq_some_iff.1 f2).1).trans f2
  have g3 := (hB2.block _ (Array.getElem?_eq_some_iff.1 f3).1).trans f3
  have k0 := (hA5.block _ (Array.getElem?_eq_some_iff.1 g0).1).trans g0
  have k1 := (hA5.block _ (Array.getElem?_eq_some_iff.1 g1).1).trans g1
  have k2 := (hA5.block _ (Array.getElem?_eq_some_iff.1 g2).1).trans g2
  have k3 := (hA5.block _ (Array.getElem?_eq_some_iff.1 g3).1).trans g3
  have hBw6 := hBw2.trans (hA5.mono hBw2.size)
  have hR6 := hR1.below (hB2.trans (hA5.mono hB2.size))
  have hv6 := (hvo.below hB2).below hA5
  have hw1 : w.heap.size + 1 + 1 + 1 + 1 ≤ w2.heap.size := by have := hB2.size; omega
  clear x0 x1 u0 u1 t0 t1 f0 f1 f2 f3 g0 g1 g2 g3 hvo hA5 hB hB2 hBw hBw2 hR1 hbs l3
  go_upto_region 8 with fail
  generalize w2.alloc (.cells #[.int .u8 o.k, .string o.s, .slice qo o.l.length co, .int .i64 o.room, .int .i64 o.fn] 96) = w6 at *
  generalize w2.heap.size = O5 at *
  obtain ⟨⟨p0, p1, p2, p3, p4⟩, -⟩ := cell_row5 k5
  obtain ⟨y0, y1⟩ := cell_row2 k1
  obtain ⟨x0, x1⟩ := cell_row2 k0
  obtain ⟨u0, u1⟩ := cell_row2 k2
  have hbs6 : base ≤ w6.heap.size := Nat.le_trans hbw hBw6.size
  have hl6 : (65536 : Int) ≤ (o.l.length : Int) := by have := H_hmx.out; omega
  have hl7 : ¬ ((o.l.length : Int) < 0) := by omega
  have H1 := thrown_in tItems w6 (d := { t := tItems }) rfl
  unfold tItems at H1
  go_wp2_with (first
    | (go_at_call 55; (with_reducible refine H1.mono ?_); clear H1; rintro e w9 ⟨rfl, hB9⟩; have hr := (hB9.block _ (Array.getElem?_eq_some_iff.1 k3).1).trans k3; obtain ⟨⟨z0, z1, z2, z3⟩, y0, y1, y2, y3⟩ := cell_row4D hr))
  refine bodyPost_ret (results_cell_row (by rfl) _ _ (w.heap.size + 1 + 1 + 1) 38 _ _ _ (by rfl) (set4_rowD hr) Tryz.underlying38 (by rfl) infoRd) (by rfl) ?_
  obtain rfl := HDq.out
  exact ⟨rfl, ⟨p, c, ts, (hR6.below hB9).set4 hr _ _ _ _⟩, below_set4 ((hBw6.mono hbw).trans (hB9.mono hbs6)) (by omega) _ _ _ _⟩

set_option maxRecDepth 20000 in
set_option maxHeartbeats 8000000 in
theorem rPut_set {base H : Nat} {S : List Om} {p : Option Addr} {c : Nat} {ts : List Po} (hR : Rh base w H S p c ts) (hbw : base ≤ w.heap.size) (h : Ask w p S) (v k x : Vl) (hf : fineP S [v, k, x]) (h4 : v.k = 4) (h2 : k.k = 2) {i : Nat} {o : Om} (ho : leadO S v = some o) (hvi : v.n = (i : Int) + 1) {j : Nat} (hkn : k.n = (j : Int)) (hj : j < o.l.length) {D : Dv} (hD : D = ⟨S.set i { o with l := o.l.set j x }, ⟨0, 0⟩, ⟨#[]⟩, 0⟩) :
    Calls Tryz.prog 40 #[.pointer (some ⟨H, 0, none⟩), .agg #[.int .u8 v.k, .int .i64 v.n], .agg #[.int .u8 k.k, .int .i64 k.n], .agg #[.int .u8 x.k, .int .i64 x.n], .bool false] w fun e w' => e = .returned (.agg #[.int .u8 D.v.k, .int .i64 D.v.n, .string D.t, .int .i64 D.n]) ∧ (∃ p' c' ts', Rh base w' H D.S p' c' ts') ∧ Below base w w' := by
  obtain ⟨i0, hi, hz0, hz1, hz2⟩ := info_parts infoVp
  have hm := fine_may hf
  have hSo : S[i]? = some o := by
    obtain ⟨-, -, -, i', hn, hi, hS⟩ := leadO_some ho
    have : i' = i := by omega
    subst this; exact hS
  have hSi := (List.getElem?_eq_some_iff.1 hSo).1
  have hSl := h.len
  obtain ⟨o', ho', hobj⟩ := may_obj hm (v := v) (by simp) (by omega)
  rw [ho] at ho'; cases ho'
  have hok : o.k = 4 := by have := (leadO_some ho).2.2.1; omega
  have hl9 : o.l.length ≤ 65536 := by have := hobj.1.2.1 hok; omega
  have hro := roomP_le (hobj.1.2.1 hok).2.1
  clear hobj hok hm
  have H_h4 : Hid _ := h4
  clear h4
  have H_h2 : Hid _ := h2
  clear h2
  have H_hvi : Hid _ := hvi
  clear hvi
  have H_hkn : Hid _ := hkn
  clear hkn
  have hB := below4' w (.cells #[.int .u8 v.k, .int .i64 v.n] 27) (.cells #[.int .u8 k.k, .int .i64 k.n] 27) (.cells #[.int .u8 x.k, .int .i64 x.n] 27) (.cells #[.int .u8 0, .int .i64 0, .string ⟨#[]⟩, .int .i64 0] 38)
  have e0 := heap4_0 w (.cells #[.int .u8 v.k, .int .i64 v.n] 27) (.cells #[.int .u8 k.k, .int .i64 k.n] 27) (.cells #[.int .u8 x.k, .int .i64 x.n] 27) (.cells #[.int .u8 0, .int .i64 0, .string ⟨#[]⟩, .int .i64 0] 38)
  have e1 := heap4_1 w (.cells #[.int .u8 v.k, .int .i64 v.n] 27) (.cells #[.int .u8 k.k, .int .i64 k.n] 27) (.cells #[.int .u8 x.k, .int .i64 x.n] 27) (.cells #[.int .u8 0, .int .i64 0, .string ⟨#[]⟩, .int .i64 0] 38)
  have e2 := heap4_2 w (.cells #[.int .u8 v.k, .int .i64 v.n] 27) (.cells #[.int .u8 k.k, .int .i64 k.n] 27) (.cells #[.int .u8 x.k, .int .i64 x.n] 27) (.cells #[.int .u8 0, .int .i64 0, .string ⟨#[]⟩, .int .i64 0] 38)
  have e3 := heap4_3 w (.cells #[.int .u8 v.k, .int .i64 v.n] 27) (.cells #[.int .u8 k.k, .int .i64 k.n] 27) (.cells #[.int .u8 x.k, .int .i64 x.n] 27) (.cells #[.int .u8 0, .int .i64 0, .string ⟨#[]⟩, .int .i64 0] 38)
  obtain ⟨x0, x1⟩ := cell_row2 e0
  obtain ⟨u0, u1⟩ := cell_row2 e1
  obtain ⟨t0, t1⟩ := cell_row2 e2
  have HDq : Hid _ := hD
  clear hD
  go_enter Tryz.func40, Tryz.ntmps40
  go_wp2_with (first
    | (go_at_call 54; refine halt_here ?_))
  unfold Halted
  have hsz : ((((w.alloc (.cells #[.int .u8 v.k, .int .i64 v.n] 27)).alloc (.cells #[.int .u8 k.k, .int .i64 k.n] 27)).alloc (.cells #[.int .u8 x.k, .int .i64 x.n] 27)).alloc (.cells #[.int .u8 0, .int .i64 0, .string ⟨#[]⟩, .int .i64 0] 38)).heap.size = w.heap.size + 1 + 1 + 1 + 1 := by simp
  generalize hW : (((w.alloc (.cells #[.int .u8 v.k, .int .i64 v.n] 27)).alloc (.cells #[.int .u8 k.k, .int .i64 k.n] 27)).alloc (.cells #[.int .u8 x.k, .int .i64 x.n] 27)).alloc (.cells #[.int .u8 0, .int .i64 0, .string ⟨#[]⟩, .int .i64 0] 38) = W at *
  clear hW
  have hnew := heap_alloc_new W (.cells #[.int .u8 v.k, .int .i64 v.n, .int .u8 k.k, .int .i64 k.n, .int .u8 x.k, .int .i64 x.n] 27)
  have hBY := below1 W (.cells #[.int .u8 v.k, .int .i64 v.n, .int .u8 k.k, .int .i64 k.n, .int .u8 x.k, .int .i64 x.n] 27)
  rw [hsz] at hnew
  clear hsz
  have hB' := hB.trans (hBY.mono hB.size)
  have HM := Fine_in (h.below hB') c (hR.at_.below hB') (l := [v, k, x]) 3 (one_vals3 hnew) (by simp) true (by simp [hf])
  refine Calls.mono HM ?_
  clear HM
  rintro e w1 ⟨rfl, hB1⟩
  have hB1' := hBY.trans (hB1.mono hBY.size)
  have hBw := hB.trans (hB1'.mono hB.size)
  have f0 := (hB1'.block _ (Array.getElem?_eq_some_iff.1 e0).1).trans e0
  have f1 := (hB1'.block _ (Array.getElem?_eq_some_iff.1 e1).1).trans e1
  have f2 := (hB1'.block _ (Array.getElem?_eq_some_iff.1 e2).1).trans e2
  have f3 := (hB1'.block _ (Array.getElem?_eq_some_iff.1 e3).1).trans e3
  clear x0 x1 u0 u1 t0 t1 e0 e1 e2 e3 hnew hB1 hB1' hBY hB'
  obtain ⟨x0, x1⟩ := cell_row2 f0
  obtain ⟨u0, u1⟩ := cell_row2 f1
  obtain ⟨t0, t1⟩ := cell_row2 f2
  have hR1 := hR.below hBw
  have hbs : base ≤ w1.heap.size := Nat.le_trans hbw hBw.size
  have h4 := H_h4.out
  clear H_h4
  have h2 := H_h2.out
  clear H_h2
  have hvi := H_hvi.out
  clear H_hvi
  have hkn := H_hkn.out
  clear H_hkn
  obtain ⟨vk, vn⟩ := v
  obtain ⟨kk, kn⟩ := k
  simp only at h4 h2 hvi hkn
  subst h4 h2 hvi hkn
  simp only [show ((4 : Nat) : Int) = 4 from rfl, show ((2 : Nat) : Int) = 2 from rfl] at x0 x1 u0 u1 f0 f1
  have HO := robj_in (h.below hBw) c hR1.at_ ⟨4, (i : Int) + 1⟩ ho
  simp only [show ((4 : Nat) : Int) = 4 from rfl] at HO
  have l3 := (Array.getElem?_eq_some_iff.1 f3).1
  clear hf
  go_wp2_with (first
    | (go_at_call 59; (with_reducible refine HO.mono ?_); clear HO; rintro e w2 ⟨qo, co, rfl, hvo, hqn, hB2⟩; refine halt_here ?_))
  unfold Halted
  have hBw2 := hBw.trans (hB2.mono hBw.size)
  have hA5 := below1 w2 (.cells #[.int .u8 o.k, .string o.s, .slice qo o.l.length co, .int .i64 o.room, .int .i64 o.fn] 96)
  have k5 := heap_alloc_new w2 (.cells #[.int .u8 o.k, .string o.s, .slice qo o.l.length co, .int .i64 o.room, .int .i64 o.fn] 96)
  have g0 := (hB2.block _ (Array.getElem?_eq_some_iff.1 f0).1).trans f0
  have g1 := (hB2.block _ (Array.getElem?_eq_some_iff.1 f1).1).trans f1
  have g2 := (hB2.block _ (Array.getElem?_eq_some_iff.1 f2).1).trans f2
  have g3 := (hB2.block _ (Array.getElem?_eq_some_iff.1 f3).1).trans f3
  have k0 := (hA5.block _ (Array.getElem?_eq_some_iff.1 g0).1).trans g0
  have k1 := (hA5.block _ (Array.getElem?_eq_some_iff.1 g1).1).trans g1
  have k2 := (hA5.block _ (Array.getElem?_eq_some_iff.1 g2).1).trans g2
  have k3 := (hA5.block _ (Array.getElem?_eq_some_iff.1 g3).1).trans g3
  have hBw6 := hBw2.trans (hA5.mono hBw2.size)
  have hR6 := hR1.below (hB2.trans (hA5.mono hB2.size))
  have hv6 := (hvo.below hB2).below hA5
  have hw1 : w.heap.size + 1 + 1 + 1 + 1 ≤ w2.heap.size := by have := hB2.size; omega
  clear x0 x1 u0 u1 t0 t1 f0 f1 f2 f3 g0 g1 g2 g3 hvo hA5 hB hB2 hBw hBw2 hR1 hbs l3
  go_upto_region 8 with fail
  generalize w2.alloc (.cells #[.int .u8 o.k, .string o.s, .slice qo o.l.length co, .int .i64 o.room, .int .i64 o.fn] 96) = w6 at *
  generalize w2.heap.size = O5 at *
  obtain ⟨⟨p0, p1, p2, p3, p4⟩, -⟩ := cell_row5 k5
  obtain ⟨y0, y1⟩ := cell_row2 k1
  obtain ⟨x0, x1⟩ := cell_row2 k0
  obtain ⟨u0, u1⟩ := cell_row2 k2
  have hbs6 : base ≤ w6.heap.size := Nat.le_trans hbw hBw6.size
  have hd := HDq.out
  clear HDq
  subst hd
  have hj' : (j : Int) < (o.l.length : Int) := by omega
  have hjn : ¬ ((o.l.length : Int) < (j : Int)) := by omega
  have hj0 : ¬ ((j : Int) < 0) := by omega
  obtain ⟨ad, rfl⟩ := vals_ne hv6 (by omega)
  obtain ⟨b0, off, rfl, hb0, hvc⟩ := vals_cells hv6 (by omega)
  go_wp2_with (first
    | (at_builtin; refine wpList_append_own _ rfl (.const (.slice none 0 0)) (.tmp 65) 47 rfl w6.heap.size 27 i0 (.agg #[.int .u8 0, .int .i64 0]) 2 16 Tryz.underlying47 hi hz0 hz1 hz2 rfl (by decide) (.slice none 0 0) 0 [] rfl ⟨rfl, .inl ⟨rfl, rfl⟩⟩ ⟨b0, off, none⟩ o.l.length co (vcells o.l) rfl (vcells_len _) hvc (vcells_one _) (by unfold maxLen; omega) (by omega) (Nat.le_refl _) ?_; intro v4 w4 hown4 hgrow4 hnil4; clear hnil4; obtain ⟨pp4, c4, rfl, hc4, -, hp4⟩ := row_form hown4; obtain ⟨g4, rfl⟩ := hp4 (by omega); have hB4 : Below w6.heap.size w6 w4 := rbelow_grown hgrow4 (fun q e => by cases e) (Nat.le_refl _); rw [List.nil_append] at hown4; simp only [Nat.zero_add] at hown4 ⊢; obtain ⟨a0, a1⟩ := cell_row2 ((hB4.block _ (Array.getElem?_eq_some_iff.1 k0).1).trans k0); obtain ⟨t0, t1⟩ := cell_row2 ((hB4.block _ (Array.getElem?_eq_some_iff.1 k2).1).trans k2); obtain ⟨r0, r1⟩ := cell_row2 ((hB4.block _ (Array.getElem?_eq_some_iff.1 k1).1).trans k1); obtain ⟨⟨q0, hq0⟩, ⟨q1, hq1⟩, fz⟩ := row_two hown4 hj; have fz0 := fz (j * 2); have fz1 := fz (j * 2 + 1)))
  have hg4 := (hown4.lt g4 rfl).1
  have hown7 : ((w4.setCell ⟨g4, j * 2, none⟩ (.int .u8 x.k)).setCell ⟨g4, j * 2 + 1, none⟩ (.int .i64 x.n)).ownsRow w6.heap.size 27 2 (.slice (some ⟨g4, 0, none⟩) o.l.length c4) o.l.length (vcells (o.l.set j x)) := by
    have s1 := ((hown4.stored (j * 2) (.int .u8 x.k)).1.stored (j * 2 + 1) (.int .i64 x.n)).1
    rw [vcells_put _ _ _ hj] at s1
    exact s1
  have hB7 : Below w6.heap.size w6 ((w4.setCell ⟨g4, j * 2, none⟩ (.int .u8 x.k)).setCell ⟨g4, j * 2 + 1, none⟩ (.int .i64 x.n)) := below_set (below_set hB4 hg4 _) hg4 _
  generalize (w4.setCell ⟨g4, j * 2, none⟩ (.int .u8 x.k)).setCell ⟨g4, j * 2 + 1, none⟩ (.int .i64 x.n) = w7 at *
  clear hq0 hq1 fz fz0 fz1 hown4 hgrow4 hB4 a0 a1 t0 t1 r0 r1 hvc hp4
  have hR7 := hR6.below hB7
  have hBw7 := hBw6.trans (hB7.mono hBw6.size)
  have m3 := (hB7.block _ (Array.getElem?_eq_some_iff.1 k3).1).trans k3
  have m0 := (hB7.block _ (Array.getElem?_eq_some_iff.1 k0).1).trans k0
  clear x0 x1 y0 y1 u0 u1 p0 p1 p2 p3 p4 k5 k0 k1 k2 k3 hR6 hv6
  obtain ⟨a0, a1⟩ := cell_row2 m0
  obtain ⟨xp, g, hxp, hxo, rfl, hgl, hgb, hfz, hcl, hcr, cur, hcur⟩ := hR7.at_i hSo
  have hcH := hR7.at_.cell
  have hfz2 := hfz (i * 5 + 2)
  have hiS : (i : Int) < (S.length : Int) := by omega
  have hi9 : i ≤ 1048576 := by omega
  go_wp2_with fail
  go_region
  have hR8 := (hR7.set (d := 2) (by omega) hxp (y := ⟨{ o with l := o.l.set j x }, .slice (some ⟨g4, 0, none⟩) o.l.length c4⟩) (.slice (some ⟨g4, 0, none⟩) o.l.length c4) (by simp [pcell, hxo]) ⟨_, c4, by simp, (fun e => by cases e), vt_of_row hown7⟩).below (below_drew (Below.refl _ _))
  have hgB : w.heap.size + 1 + 1 + 1 ≠ g := fun e => by rw [e, hcur] at m3; cases m3
  have hr := (heap_setCell_other w7 ⟨g, i * 5 + 2, none⟩ _ (.slice (some ⟨g4, 0, none⟩) o.l.length c4) hgB).trans m3
  have hB8 := below_drew (below_set (i := i * 5 + 2) (hBw7.mono hbw) hgb (.slice (some ⟨g4, 0, none⟩) o.l.length c4))
  obtain ⟨⟨z0, z1, z2, z3⟩, y0, y1, y2, y3⟩ := cell_row4D hr
  go_wp2
  refine bodyPost_ret (results_cell_row (by rfl) _ _ (w.heap.size + 1 + 1 + 1) 38 _ _ _ (by rfl) (set4_rowD hr) Tryz.underlying38 (by rfl) infoRd) (by rfl) ?_
  exact ⟨rfl, ⟨_, _, _, hR8.set4 hr _ _ _ _⟩, below_set4 hB8 (by omega) _ _ _ _⟩



end Go.Proofs.YtgokofomoachaaaGreatDoor
