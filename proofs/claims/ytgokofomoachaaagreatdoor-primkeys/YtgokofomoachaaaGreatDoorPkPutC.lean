/- The document's putKey; Put where it throws, Put of a map. -/
import Derived.Test.YtgokofomoachaaaGreatDoorPkPutB
namespace Go.Proofs.YtgokofomoachaaaGreatDoor
set_option linter.unusedVariables false
set_option linter.unusedSimpArgs false
open Go.RowKit

variable {w : World}


set_option maxRecDepth 20000 in
set_option maxHeartbeats 8000000 in
theorem rPutKey_in {base H : Nat} {S : List Om} {p : Option Addr} {c : Nat} {ts : List Po} (hR : Rh base w H S p c ts) (hbw : base ≤ w.heap.size) (h : Ask w p S) (vk : Nat) (k x : Vl) {i : Nat} {o : Om} (ho : leadO S ⟨vk, (i : Int) + 1⟩ = some o) (hSo : S[i]? = some o) (hobj : objP S o) (hl9 : o.l.length ≤ 131072) (hro : 0 ≤ o.room ∧ o.room ≤ 1099511627776) (hev : o.l.length % 2 = 0) (hsk : SameOk S k) (r : Option Nat) (hka : KeyAt S o.l k r) {D : Dv} (hD : D = putPairP S i o k x r) :
    Calls Tryz.prog 140 #[.pointer (some ⟨H, 0, none⟩), .agg #[.int .u8 vk, .int .i64 ((i : Int) + 1)], .agg #[.int .u8 k.k, .int .i64 k.n], .agg #[.int .u8 x.k, .int .i64 x.n], .bool false] w fun e w' => e = .returned (.agg #[.int .u8 D.v.k, .int .i64 D.v.n, .string D.t, .int .i64 D.n]) ∧ (∃ p' c' ts', Rh base w' H D.S p' c' ts') ∧ Below base w w' ∧ ∀ (k : Nat) (cur : Array Value), k < w.heap.size → w.heap[k]? = some (.cells cur 38 (0, 0)) → w'.heap[k]? = w.heap[k]? := by
  cases r with
  | none => exact rPutKey_none hR hbw h vk k x ho hSo hobj hl9 hro hev hsk hka hD
  | some j => exact rPutKey_some hR hbw h vk k x ho hSo hobj hl9 hro hev hsk j hka hD

theorem put_ref {S : List Om} {v k x : Vl} {D : Dv} (hD : PutQ S v k x D) (h : ¬ fineP S [v, k, x]) : D = refD S := by
  rcases hD with ⟨-, e⟩ | ⟨hm, i, o, r, -, -, e⟩
  · exact e
  · have h7 : v.k = 7 ∨ k.k = 7 ∨ x.k = 7 := by
      by_cases h1 : v.k = 7
      · exact .inl h1
      · by_cases h2 : k.k = 7
        · exact .inr (.inl h2)
        · by_cases h3 : x.k = 7
          · exact .inr (.inr h3)
          · refine (h ?_).elim
            intro y hy
            refine ⟨?_, hm y hy⟩
            simp at hy
            rcases hy with rfl | rfl | rfl
            · exact h1
            · exact h2
            · exact h3
    rw [e]; unfold putP
    by_cases hkx : k.k = 7 ∨ x.k = 7
    · rw [if_pos hkx]
    · have h1 : v.k = 7 := by omega
      rw [if_neg hkx, if_neg (by omega), if_neg (by omega)]

set_option maxRecDepth 20000 in
set_option maxHeartbeats 8000000 in
theorem rPut_bad {base H : Nat} {S : List Om} {p : Option Addr} {c : Nat} {ts : List Po} (hR : Rh base w H S p c ts) (hbw : base ≤ w.heap.size) (h : Ask w p S) (v k x : Vl) (hf : ¬ fineP S [v, k, x]) {D : Dv} (hD : D = refD S) :
    Calls Tryz.prog 40 #[.pointer (some ⟨H, 0, none⟩), .agg #[.int .u8 v.k, .int .i64 v.n], .agg #[.int .u8 k.k, .int .i64 k.n], .agg #[.int .u8 x.k, .int .i64 x.n], .bool false] w fun e w' => e = .returned (.agg #[.int .u8 D.v.k, .int .i64 D.v.n, .string D.t, .int .i64 D.n]) ∧ (∃ p' c' ts', Rh base w' H D.S p' c' ts') ∧ Below base w w' := by
  have hB := below4' w (.cells #[.int .u8 v.k, .int .i64 v.n] 27) (.cells #[.int .u8 k.k, .int .i64 k.n] 27) (.cells #[.int .u8 x.k, .int .i64 x.n] 27) (.cells #[.int .u8 0, .int .i64 0, .string ⟨#[]⟩, .int .i64 0] 38)
  have e0 := heap4_0 w (.cells #[.int .u8 v.k, .int .i64 v.n] 27) (.cells #[.int .u8 k.k, .int .i64 k.n] 27) (.cells #[.int .u8 x.k, .int .i64 x.n] 27) (.cells #[.int .u8 0, .int .i64 0, .string ⟨#[]⟩, .int .i64 0] 38)
  have e1 := heap4_1 w (.cells #[.int .u8 v.k, .int .i64 v.n] 27) (.cells #[.int .u8 k.k, .int .i64 k.n] 27) (.cells #[.int .u8 x.k, .int .i64 x.n] 27) (.cells #[.int .u8 0, .int .i64 0, .string ⟨#[]⟩, .int .i64 0] 38)
  have e2 := heap4_2 w (.cells #[.int .u8 v.k, .int .i64 v.n] 27) (.cells #[.int .u8 k.k, .int .i64 k.n] 27) (.cells #[.int .u8 x.k, .int .i64 x.n] 27) (.cells #[.int .u8 0, .int .i64 0, .string ⟨#[]⟩, .int .i64 0] 38)
  have e3 := heap4_3 w (.cells #[.int .u8 v.k, .int .i64 v.n] 27) (.cells #[.int .u8 k.k, .int .i64 k.n] 27) (.cells #[.int .u8 x.k, .int .i64 x.n] 27) (.cells #[.int .u8 0, .int .i64 0, .string ⟨#[]⟩, .int .i64 0] 38)
  obtain ⟨x0, x1⟩ := cell_row2 e0
  obtain ⟨u0, u1⟩ := cell_row2 e1
  obtain ⟨t0, t1⟩ := cell_row2 e2
  have HDq : Hid _ := hD
  clear hD
  go_enter Tryz.func40, Tryz.ntmps40
  go_wp2_with (first
    | (go_at_call 54; refine halt_here ?_))
  unfold Halted
  have hsz : ((((w.alloc (.cells #[.int .u8 v.k, .int .i64 v.n] 27)).alloc (.cells #[.int .u8 k.k, .int .i64 k.n] 27)).alloc (.cells #[.int .u8 x.k, .int .i64 x.n] 27)).alloc (.cells #[.int .u8 0, .int .i64 0, .string ⟨#[]⟩, .int .i64 0] 38)).heap.size = w.heap.size + 1 + 1 + 1 + 1 := by simp
  generalize hW : (((w.alloc (.cells #[.int .u8 v.k, .int .i64 v.n] 27)).alloc (.cells #[.int .u8 k.k, .int .i64 k.n] 27)).alloc (.cells #[.int .u8 x.k, .int .i64 x.n] 27)).alloc (.cells #[.int .u8 0, .int .i64 0, .string ⟨#[]⟩, .int .i64 0] 38) = W at *
  clear hW
  have hnew := heap_alloc_new W (.cells #[.int .u8 v.k, .int .i64 v.n, .int .u8 k.k, .int .i64 k.n, .int .u8 x.k, .int .i64 x.n] 27)
  have hBY := below1 W (.cells #[.int .u8 v.k, .int .i64 v.n, .int .u8 k.k, .int .i64 k.n, .int .u8 x.k, .int .i64 x.n] 27)
  rw [hsz] at hnew
  clear hsz
  have hB' := hB.trans (hBY.mono hB.size)
  have HM := Fine_in (h.below hB') c (hR.at_.below hB') (l := [v, k, x]) 3 (one_vals3 hnew) (by simp) false (by simp [hf])
  refine Calls.mono HM ?_
  clear HM
  rintro e w1 ⟨rfl, hB1⟩
  have hB1' := hBY.trans (hB1.mono hBY.size)
  have hBw := hB.trans (hB1'.mono hB.size)
  have f0 := (hB1'.block _ (Array.getElem?_eq_some_iff.1 e0).1).trans e0
  have f1 := (hB1'.block _ (Array.getElem?_eq_some_iff.1 e1).1).trans e1
  have f2 := (hB1'.block _ (Array.getElem?_eq_some_iff.1 e2).1).trans e2
  have f3 := (hB1'.block _ (Array.getElem?_eq_some_iff.1 e3).1).trans e3
  clear x0 x1 u0 u1 t0 t1 e0 e1 e2 e3 hnew hB1 hB1' hBY hB'
  obtain ⟨x0, x1⟩ := cell_row2 f0
  obtain ⟨u0, u1⟩ := cell_row2 f1
  obtain ⟨t0, t1⟩ := cell_row2 f2
  have hR1 := hR.below hBw
  have hbs : base ≤ w1.heap.size := Nat.le_trans hbw hBw.size
  have H1 := thrown_in tKind w1 (d := { t := tKind }) rfl
  unfold tKind at H1
  go_wp2_with (first
    | (go_at_call 55; (with_reducible refine H1.mono ?_); clear H1; rintro e w9 ⟨rfl, hB9⟩; have hr := (hB9.block _ (Array.getElem?_eq_some_iff.1 f3).1).trans f3; obtain ⟨⟨z0, z1, z2, z3⟩, y0, y1, y2, y3⟩ := cell_row4D hr))
  refine bodyPost_ret (results_cell_row (by rfl) _ _ (w.heap.size + 1 + 1 + 1) 38 _ _ _ (by rfl) (set4_rowD hr) Tryz.underlying38 (by rfl) infoRd) (by rfl) ?_
  obtain rfl := HDq.out
  exact ⟨rfl, ⟨p, c, ts, (hR1.below hB9).set4 hr _ _ _ _⟩, below_set4 ((hBw.mono hbw).trans (hB9.mono hbs)) (by omega) _ _ _ _⟩

set_option maxRecDepth 20000 in
set_option maxHeartbeats 8000000 in
theorem rPut_kind1 {base H : Nat} {S : List Om} {p : Option Addr} {c : Nat} {ts : List Po} (hR : Rh base w H S p c ts) (hbw : base ≤ w.heap.size) (h : Ask w p S) (v k x : Vl) (hf : fineP S [v, k, x]) (h5 : v.k ≠ 5) (h4 : v.k ≠ 4) {D : Dv} (hD : D = refD S) :
    Calls Tryz.prog 40 #[.pointer (some ⟨H, 0, none⟩), .agg #[.int .u8 v.k, .int .i64 v.n], .agg #[.int .u8 k.k, .int .i64 k.n], .agg #[.int .u8 x.k, .int .i64 x.n], .bool false] w fun e w' => e = .returned (.agg #[.int .u8 D.v.k, .int .i64 D.v.n, .string D.t, .int .i64 D.n]) ∧ (∃ p' c' ts', Rh base w' H D.S p' c' ts') ∧ Below base w w' := by
  have hB := below4' w (.cells #[.int .u8 v.k, .int .i64 v.n] 27) (.cells #[.int .u8 k.k, .int .i64 k.n] 27) (.cells #[.int .u8 x.k, .int .i64 x.n] 27) (.cells #[.int .u8 0, .int .i64 0, .string ⟨#[]⟩, .int .i64 0] 38)
  have e0 := heap4_0 w (.cells #[.int .u8 v.k, .int .i64 v.n] 27) (.cells #[.int .u8 k.k, .int .i64 k.n] 27) (.cells #[.int .u8 x.k, .int .i64 x.n] 27) (.cells #[.int .u8 0, .int .i64 0, .string ⟨#[]⟩, .int .i64 0] 38)
  have e1 := heap4_1 w (.cells #[.int .u8 v.k, .int .i64 v.n] 27) (.cells #[.int .u8 k.k, .int .i64 k.n] 27) (.cells #[.int .u8 x.k, .int .i64 x.n] 27) (.cells #[.int .u8 0, .int .i64 0, .string ⟨#[]⟩, .int .i64 0] 38)
  have e2 := heap4_2 w (.cells #[.int .u8 v.k, .int .i64 v.n] 27) (.cells #[.int .u8 k.k, .int .i64 k.n] 27) (.cells #[.int .u8 x.k, .int .i64 x.n] 27) (.cells #[.int .u8 0, .int .i64 0, .string ⟨#[]⟩, .int .i64 0] 38)
  have e3 := heap4_3 w (.cells #[.int .u8 v.k, .int .i64 v.n] 27) (.cells #[.int .u8 k.k, .int .i64 k.n] 27) (.cells #[.int .u8 x.k, .int .i64 x.n] 27) (.cells #[.int .u8 0, .int .i64 0, .string ⟨#[]⟩, .int .i64 0] 38)
  obtain ⟨x0, x1⟩ := cell_row2 e0
  obtain ⟨u0, u1⟩ := cell_row2 e1
  obtain ⟨t0, t1⟩ := cell_row2 e2
  have HDq : Hid _ := hD
  clear hD
  go_enter Tryz.func40, Tryz.ntmps40
  go_wp2_with (first
    | (go_at_call 54; refine halt_here ?_))
  unfold Halted
  have hsz : ((((w.alloc (.cells #[.int .u8 v.k, .int .i64 v.n] 27)).alloc (.cells #[.int .u8 k.k, .int .i64 k.n] 27)).alloc (.cells #[.int .u8 x.k, .int .i64 x.n] 27)).alloc (.cells #[.int .u8 0, .int .i64 0, .string ⟨#[]⟩, .int .i64 0] 38)).heap.size = w.heap.size + 1 + 1 + 1 + 1 := by simp
  generalize hW : (((w.alloc (.cells #[.int .u8 v.k, .int .i64 v.n] 27)).alloc (.cells #[.int .u8 k.k, .int .i64 k.n] 27)).alloc (.cells #[.int .u8 x.k, .int .i64 x.n] 27)).alloc (.cells #[.int .u8 0, .int .i64 0, .string ⟨#[]⟩, .int .i64 0] 38) = W at *
  clear hW
  have hnew := heap_alloc_new W (.cells #[.int .u8 v.k, .int .i64 v.n, .int .u8 k.k, .int .i64 k.n, .int .u8 x.k, .int .i64 x.n] 27)
  have hBY := below1 W (.cells #[.int .u8 v.k, .int .i64 v.n, .int .u8 k.k, .int .i64 k.n, .int .u8 x.k, .int .i64 x.n] 27)
  rw [hsz] at hnew
  clear hsz
  have hB' := hB.trans (hBY.mono hB.size)
  have HM := Fine_in (h.below hB') c (hR.at_.below hB') (l := [v, k, x]) 3 (one_vals3 hnew) (by simp) true (by simp [hf])
  refine Calls.mono HM ?_
  clear HM
  rintro e w1 ⟨rfl, hB1⟩
  have hB1' := hBY.trans (hB1.mono hBY.size)
  have hBw := hB.trans (hB1'.mono hB.size)
  have f0 := (hB1'.block _ (Array.getElem?_eq_some_iff.1 e0).1).trans e0
  have f1 := (hB1'.block _ (Array.getElem?_eq_some_iff.1 e1).1).trans e1
  have f2 := (hB1'.block _ (Array.getElem?_eq_some_iff.1 e2).1).trans e2
  have f3 := (hB1'.block _ (Array.getElem?_eq_some_iff.1 e3).1).trans e3
  clear x0 x1 u0 u1 t0 t1 e0 e1 e2 e3 hnew hB1 hB1' hBY hB'
  obtain ⟨x0, x1⟩ := cell_row2 f0
  obtain ⟨u0, u1⟩ := cell_row2 f1
  obtain ⟨t0, t1⟩ := cell_row2 f2
  have hR1 := hR.below hBw
  have hbs : base ≤ w1.heap.size := Nat.le_trans hbw hBw.size
  have h5n : ¬ ((v.k : Int) = 5) := by omega
  have h5b : ((v.k : Int) == 5) = false := by simp; omega
  have h4n : ¬ ((v.k : Int) = 4) := by omega
  have h4b : ((v.k : Int) == 4) = false := by simp; omega
  clear hf h5 h4
  have H1 := thrown_in tKind w1 (d := { t := tKind }) rfl
  unfold tKind at H1
  go_wp2_with (first
    | (go_at_call 55; (with_reducible refine H1.mono ?_); clear H1; rintro e w9 ⟨rfl, hB9⟩; have hr := (hB9.block _ (Array.getElem?_eq_some_iff.1 f3).1).trans f3; obtain ⟨⟨z0, z1, z2, z3⟩, y0, y1, y2, y3⟩ := cell_row4D hr))
  refine bodyPost_ret (results_cell_row (by rfl) _ _ (w.heap.size + 1 + 1 + 1) 38 _ _ _ (by rfl) (set4_rowD hr) Tryz.underlying38 (by rfl) infoRd) (by rfl) ?_
  obtain rfl := HDq.out
  exact ⟨rfl, ⟨p, c, ts, (hR1.below hB9).set4 hr _ _ _ _⟩, below_set4 ((hBw.mono hbw).trans (hB9.mono hbs)) (by omega) _ _ _ _⟩

set_option maxRecDepth 20000 in
set_option maxHeartbeats 8000000 in
theorem rPut_kind2 {base H : Nat} {S : List Om} {p : Option Addr} {c : Nat} {ts : List Po} (hR : Rh base w H S p c ts) (hbw : base ≤ w.heap.size) (h : Ask w p S) (v k x : Vl) (hf : fineP S [v, k, x]) (h4 : v.k = 4) (hk : k.k ≠ 2) {D : Dv} (hD : D = refD S) :
    Calls Tryz.prog 40 #[.pointer (some ⟨H, 0, none⟩), .agg #[.int .u8 v.k, .int .i64 v.n], .agg #[.int .u8 k.k, .int .i64 k.n], .agg #[.int .u8 x.k, .int .i64 x.n], .bool false] w fun e w' => e = .returned (.agg #[.int .u8 D.v.k, .int .i64 D.v.n, .string D.t, .int .i64 D.n]) ∧ (∃ p' c' ts', Rh base w' H D.S p' c' ts') ∧ Below base w w' := by
  have H_h4 : Hid _ := h4
  clear h4
  have hB := below4' w (.cells #[.int .u8 v.k, .int .i64 v.n] 27) (.cells #[.int .u8 k.k, .int .i64 k.n] 27) (.cells #[.int .u8 x.k, .int .i64 x.n] 27) (.cells #[.int .u8 0, .int .i64 0, .string ⟨#[]⟩, .int .i64 0] 38)
  have e0 := heap4_0 w (.cells #[.int .u8 v.k, .int .i64 v.n] 27) (.cells #[.int .u8 k.k, .int .i64 k.n] 27) (.cells #[.int .u8 x.k, .int .i64 x.n] 27) (.cells #[.int .u8 0, .int .i64 0, .string ⟨#[]⟩, .int .i64 0] 38)
  have e1 := heap4_1 w (.cells #[.int .u8 v.k, .int .i64 v.n] 27) (.cells #[.int .u8 k.k, .int .i64 k.n] 27) (.cells #[.int .u8 x.k, .int .i64 x.n] 27) (.cells #[.int .u8 0, .int .i64 0, .string ⟨#[]⟩, .int .i64 0] 38)
  have e2 := heap4_2 w (.cells #[.int .u8 v.k, .int .i64 v.n] 27) (.cells #[.int .u8 k.k, .int .i64 k.n] 27) (.cells #[.int .u8 x.k, .int .i64 x.n] 27) (.cells #[.int .u8 0, .int .i64 0, .string ⟨#[]⟩, .int .i64 0] 38)
  have e3 := heap4_3 w (.cells #[.int .u8 v.k, .int .i64 v.n] 27) (.cells #[.int .u8 k.k, .int .i64 k.n] 27) (.cells #[.int .u8 x.k, .int .i64 x.n] 27) (.cells #[.int .u8 0, .int .i64 0, .string ⟨#[]⟩, .int .i64 0] 38)
  obtain ⟨x0, x1⟩ := cell_row2 e0
  obtain ⟨u0, u1⟩ := cell_row2 e1
  obtain ⟨t0, t1⟩ := cell_row2 e2
  have HDq : Hid _ := hD
  clear hD
  go_enter Tryz.func40, Tryz.ntmps40
  go_wp2_with (first
    | (go_at_call 54; refine halt_here ?_))
  unfold Halted
  have hsz : ((((w.alloc (.cells #[.int .u8 v.k, .int .i64 v.n] 27)).alloc (.cells #[.int .u8 k.k, .int .i64 k.n] 27)).alloc (.cells #[.int .u8 x.k, .int .i64 x.n] 27)).alloc (.cells #[.int .u8 0, .int .i64 0, .string ⟨#[]⟩, .int .i64 0] 38)).heap.size = w.heap.size + 1 + 1 + 1 + 1 := by simp
  generalize hW : (((w.alloc (.cells #[.int .u8 v.k, .int .i64 v.n] 27)).alloc (.cells #[.int .u8 k.k, .int .i64 k.n] 27)).alloc (.cells #[.int .u8 x.k, .int .i64 x.n] 27)).alloc (.cells #[.int .u8 0, .int .i64 0, .string ⟨#[]⟩, .int .i64 0] 38) = W at *
  clear hW
  have hnew := heap_alloc_new W (.cells #[.int .u8 v.k, .int .i64 v.n, .int .u8 k.k, .int .i64 k.n, .int .u8 x.k, .int .i64 x.n] 27)
  have hBY := below1 W (.cells #[.int .u8 v.k, .int .i64 v.n, .int .u8 k.k, .int .i64 k.n, .int .u8 x.k, .int .i64 x.n] 27)
  rw [hsz] at hnew
  clear hsz
  have hB' := hB.trans (hBY.mono hB.size)
  have HM := Fine_in (h.below hB') c (hR.at_.below hB') (l := [v, k, x]) 3 (one_vals3 hnew) (by simp) true (by simp [hf])
  refine Calls.mono HM ?_
  clear HM
  rintro e w1 ⟨rfl, hB1⟩
  have hB1' := hBY.trans (hB1.mono hBY.size)
  have hBw := hB.trans (hB1'.mono hB.size)
  have f0 := (hB1'.block _ (Array.getElem?_eq_some_iff.1 e0).1).trans e0
  have f1 := (hB1'.block _ (Array.getElem?_eq_some_iff.1 e1).1).trans e1
  have f2 := (hB1'.block _ (Array.getElem?_eq_some_iff.1 e2).1).trans e2
  have f3 := (hB1'.block _ (Array.getElem?_eq_some_iff.1 e3).1).trans e3
  clear x0 x1 u0 u1 t0 t1 e0 e1 e2 e3 hnew hB1 hB1' hBY hB'
  obtain ⟨x0, x1⟩ := cell_row2 f0
  obtain ⟨u0, u1⟩ := cell_row2 f1
  obtain ⟨t0, t1⟩ := cell_row2 f2
  have hR1 := hR.below hBw
  have hbs : base ≤ w1.heap.size := Nat.le_trans hbw hBw.size
  have h4 := H_h4.out
  clear H_h4
  obtain ⟨vk, vn⟩ := v
  simp only at h4
  subst h4
  simp only [show ((4 : Nat) : Int) = 4 from rfl] at x0 x1
  have hk2n : ¬ ((k.k : Int) = 2) := by omega
  have hk2b : ((k.k : Int) == 2) = false := by simp; omega
  clear hf hk
  have H1 := thrown_in tKind w1 (d := { t := tKind }) rfl
  unfold tKind at H1
  go_wp2_with (first
    | (go_at_call 55; (with_reducible refine H1.mono ?_); clear H1; rintro e w9 ⟨rfl, hB9⟩; have hr := (hB9.block _ (Array.getElem?_eq_some_iff.1 f3).1).trans f3; obtain ⟨⟨z0, z1, z2, z3⟩, y0, y1, y2, y3⟩ := cell_row4D hr))
  refine bodyPost_ret (results_cell_row (by rfl) _ _ (w.heap.size + 1 + 1 + 1) 38 _ _ _ (by rfl) (set4_rowD hr) Tryz.underlying38 (by rfl) infoRd) (by rfl) ?_
  obtain rfl := HDq.out
  exact ⟨rfl, ⟨p, c, ts, (hR1.below hB9).set4 hr _ _ _ _⟩, below_set4 ((hBw.mono hbw).trans (hB9.mono hbs)) (by omega) _ _ _ _⟩

set_option maxRecDepth 20000 in
set_option maxHeartbeats 8000000 in
theorem rPut_map {base H : Nat} {S : List Om} {p : Option Addr} {c : Nat} {ts : List Po} (hR : Rh base w H S p c ts) (hbw : base ≤ w.heap.size) (h : Ask w p S) (v k x : Vl) (hf : fineP S [v, k, x]) (h5 : v.k = 5) {i : Nat} {o : Om} (ho : leadO S v = some o) (hvi : v.n = (i : Int) + 1) (r : Option Nat) (hka : KeyAt S o.l k r) {D : Dv} (hD : D = putPairP S i o k x r) :
    Calls Tryz.prog 40 #[.pointer (some ⟨H, 0, none⟩), .agg #[.int .u8 v.k, .int .i64 v.n], .agg #[.int .u8 k.k, .int .i64 k.n], .agg #[.int .u8 x.k, .int .i64 x.n], .bool false] w fun e w' => e = .returned (.agg #[.int .u8 D.v.k, .int .i64 D.v.n, .string D.t, .int .i64 D.n]) ∧ (∃ p' c' ts', Rh base w' H D.S p' c' ts') ∧ Below base w w' := by
  have hm := fine_may hf
  have hSo : S[i]? = some o := by
    obtain ⟨-, -, -, i', hn, hi, hS⟩ := leadO_some ho
    have : i' = i := by omega
    subst this; exact hS
  obtain ⟨o', ho', hobj⟩ := may_obj hm (v := v) (by simp) (by omega)
  rw [ho] at ho'; cases ho'
  have hok : o.k = 5 := by have := (leadO_some ho).2.2.1; omega
  have hev : o.l.length % 2 = 0 := by have := hobj.1.2.2.1 hok; omega
  have hl9 : o.l.length ≤ 131072 := by have := hobj.1.2.2.1 hok; omega
  have hro := roomP_le (hobj.1.2.2.1 hok).2.2.1
  have hsk := may_same hm (v := k) (by simp)
  have H_h5 : Hid _ := h5
  clear h5
  have H_hvi : Hid _ := hvi
  clear hvi
  have H_hev : Hid _ := hev
  clear hev
  have H_hok : Hid _ := hok
  clear hok
  have hB := below4' w (.cells #[.int .u8 v.k, .int .i64 v.n] 27) (.cells #[.int .u8 k.k, .int .i64 k.n] 27) (.cells #[.int .u8 x.k, .int .i64 x.n] 27) (.cells #[.int .u8 0, .int .i64 0, .string ⟨#[]⟩, .int .i64 0] 38)
  have e0 := heap4_0 w (.cells #[.int .u8 v.k, .int .i64 v.n] 27) (.cells #[.int .u8 k.k, .int .i64 k.n] 27) (.cells #[.int .u8 x.k, .int .i64 x.n] 27) (.cells #[.int .u8 0, .int .i64 0, .string ⟨#[]⟩, .int .i64 0] 38)
  have e1 := heap4_1 w (.cells #[.int .u8 v.k, .int .i64 v.n] 27) (.cells #[.int .u8 k.k, .int .i64 k.n] 27) (.cells #[.int .u8 x.k, .int .i64 x.n] 27) (.cells #[.int .u8 0, .int .i64 0, .string ⟨#[]⟩, .int .i64 0] 38)
  have e2 := heap4_2 w (.cells #[.int .u8 v.k, .int .i64 v.n] 27) (.cells #[.int .u8 k.k, .int .i64 k.n] 27) (.cells #[.int .u8 x.k, .int .i64 x.n] 27) (.cells #[.int .u8 0, .int .i64 0, .string ⟨#[]⟩, .int .i64 0] 38)
  have e3 := heap4_3 w (.cells #[.int .u8 v.k, .int .i64 v.n] 27) (.cells #[.int .u8 k.k, .int .i64 k.n] 27) (.cells #[.int .u8 x.k, .int .i64 x.n] 27) (.cells #[.int .u8 0, .int .i64 0, .string ⟨#[]⟩, .int .i64 0] 38)
  obtain ⟨x0, x1⟩ := cell_row2 e0
  obtain ⟨u0, u1⟩ := cell_row2 e1
  obtain ⟨t0, t1⟩ := cell_row2 e2
  have HDq : Hid _ := hD
  clear hD
  go_enter Tryz.func40, Tryz.ntmps40
  go_wp2_with (first
    | (go_at_call 54; refine halt_here ?_))
  unfold Halted
  have hsz : ((((w.alloc (.cells #[.int .u8 v.k, .int .i64 v.n] 27)).alloc (.cells #[.int .u8 k.k, .int .i64 k.n] 27)).alloc (.cells #[.int .u8 x.k, .int .i64 x.n] 27)).alloc (.cells #[.int .u8 0, .int .i64 0, .string ⟨#[]⟩, .int .i64 0] 38)).heap.size = w.heap.size + 1 + 1 + 1 + 1 := by simp
  generalize hW : (((w.alloc (.cells #[.int .u8 v.k, .int .i64 v.n] 27)).alloc (.cells #[.int .u8 k.k, .int .i64 k.n] 27)).alloc (.cells #[.int .u8 x.k, .int .i64 x.n] 27)).alloc (.cells #[.int .u8 0, .int .i64 0, .string ⟨#[]⟩, .int .i64 0] 38) = W at *
  clear hW
  have hnew := heap_alloc_new W (.cells #[.int .u8 v.k, .int .i64 v.n, .int .u8 k.k, .int .i64 k.n, .int .u8 x.k, .int .i64 x.n] 27)
  have hBY := below1 W (.cells #[.int .u8 v.k, .int .i64 v.n, .int .u8 k.k, .int .i64 k.n, .int .u8 x.k, .int .i64 x.n] 27)
  rw [hsz] at hnew
  clear hsz
  have hB' := hB.trans (hBY.mono hB.size)
  have HM := Fine_in (h.below hB') c (hR.at_.below hB') (l := [v, k, x]) 3 (one_vals3 hnew) (by simp) true (by simp [hf])
  refine Calls.mono HM ?_
  clear HM
  rintro e w1 ⟨rfl, hB1⟩
  have hB1' := hBY.trans (hB1.mono hBY.size)
  have hBw := hB.trans (hB1'.mono hB.size)
  have f0 := (hB1'.block _ (Array.getElem?_eq_some_iff.1 e0).1).trans e0
  have f1 := (hB1'.block _ (Array.getElem?_eq_some_iff.1 e1).1).trans e1
  have f2 := (hB1'.block _ (Array.getElem?_eq_some_iff.1 e2).1).trans e2
  have f3 := (hB1'.block _ (Array.getElem?_eq_some_iff.1 e3).1).trans e3
  clear x0 x1 u0 u1 t0 t1 e0 e1 e2 e3 hnew hB1 hB1' hBY hB'
  obtain ⟨x0, x1⟩ := cell_row2 f0
  obtain ⟨u0, u1⟩ := cell_row2 f1
  obtain ⟨t0, t1⟩ := cell_row2 f2
  have hR1 := hR.below hBw
  have hbs : base ≤ w1.heap.size := Nat.le_trans hbw hBw.size
  have h5 := H_h5.out
  clear H_h5
  have hvi := H_hvi.out
  clear H_hvi
  have hev := H_hev.out
  clear H_hev
  have hok := H_hok.out
  clear H_hok
  obtain ⟨vk, vn⟩ := v
  simp only at h5 hvi
  subst h5 hvi
  simp only [show ((5 : Nat) : Int) = 5 from rfl] at x0 x1
  have HP := rPutKey_in hR1 hbs (h.below hBw) 5 k x ho hSo hobj hl9 hro hev hsk r hka HDq.out
  simp only [show ((5 : Nat) : Int) = 5 from rfl] at HP
  have l3 := (Array.getElem?_eq_some_iff.1 f3).1
  clear hf hm hobj hsk hka hev hl9 hro
  go_wp2_with (first
    | (go_at_call 140; (with_reducible refine HP.mono ?_); clear HP; rintro e w9 ⟨rfl, hR9, hB9, hfr⟩; have hr := (hfr _ _ l3 f3).trans f3; obtain ⟨⟨z0, z1, z2, z3⟩, y0, y1, y2, y3⟩ := cell_row4D hr))
  refine bodyPost_ret (results_cell_row (by rfl) _ _ (w.heap.size + 1 + 1 + 1) 38 _ _ _ (by rfl) (set4_rowD hr) Tryz.underlying38 (by rfl) infoRd) (by rfl) ?_
  obtain ⟨p', c', ts', hR9⟩ := hR9
  exact ⟨rfl, ⟨p', c', ts', hR9.set4 hr _ _ _ _⟩, below_set4 ((hBw.mono hbw).trans hB9) (by omega) _ _ _ _⟩



end Go.Proofs.YtgokofomoachaaaGreatDoor
