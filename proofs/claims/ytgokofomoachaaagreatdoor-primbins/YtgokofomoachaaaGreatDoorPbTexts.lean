/- Values that may be: what Same asks of them. -/
import Derived.Test.YtgokofomoachaaaGreatDoorPkAt
import Derived.Test.YtgokofomoachaaaGreatDoorPnPut2
import Derived.Test.YtgokofomoachaaaGreatDoorPbInts
namespace Go.Proofs.YtgokofomoachaaaGreatDoor
set_option linter.unusedVariables false
set_option linter.unusedSimpArgs false
open Go.RowKit

variable {w : World}

theorem sameOk_of {S : List Om} {v : Vl} (h : valP S v) : SameOk S v := ⟨fun h3 => h.2.2 (by omega), h.1⟩

theorem may_same {S : List Om} {l : List Vl} (h : mayL S l) {v : Vl} (hv : v ∈ l) : SameOk S v := sameOk_of (h v hv).1

theorem obj_same {S : List Om} {o : Om} (h : objP S o) : ∀ x ∈ o.l, SameOk S x := fun x hx => sameOk_of (h.2.1 x hx).1

theorem fine_may {S : List Om} {l : List Vl} (h : fineP S l) : mayL S l := fun v hv => (h v hv).2

end Go.Proofs.YtgokofomoachaaaGreatDoor

namespace Go.Proofs.YtgokofomoachaaaGreatDoor
set_option linter.unusedVariables false
set_option linter.unusedSimpArgs false
open Go.RowKit

variable {w : World}

/-- What two values come to. -/
def binP (S : List Om) (op : Nat) (a b : Vl) (x y : Om) (r : Bool) : Dv :=
  if op = 8 then ⟨S, tru r, ⟨#[]⟩, 0⟩ else if op = 9 then ⟨S, tru (!r), ⟨#[]⟩, 0⟩
  else if a.k = 2 ∧ b.k = 2 then ⟨S, (intsR op a.n b.n).v, (intsR op a.n b.n).t, (intsR op a.n b.n).n⟩
  else if a.k = 3 ∧ b.k = 3 then
    (if op = 1 then (if 4096 < (x.s ++ y.s).size then ⟨S, ⟨0, 0⟩, tGreat, 0⟩ else ⟨S ++ [txtO (x.s ++ y.s)], ⟨3, (S.length : Int) + 1⟩, ⟨#[]⟩, (wordsO (txtO (x.s ++ y.s)) : Nat)⟩)
     else if op = 6 then ⟨S, tru (Op.bytesLess x.s.toList y.s.toList), ⟨#[]⟩, 0⟩ else if op = 7 then ⟨S, tru (Op.bytesLess x.s.toList y.s.toList || x.s.toList == y.s.toList), ⟨#[]⟩, 0⟩ else refD S)
  else refD S

def BinR (S : List Om) (op : Nat) (a b : Vl) (D : Dv) : Prop := (¬ fineP S [a, b] ∧ D = refD S) ∨ (fineP S [a, b] ∧ ∃ x y r, (a.k = 3 → leadO S a = some x) ∧ (b.k = 3 → leadO S b = some y) ∧ (r = true ↔ essP S a = essP S b) ∧ D = binP S op a b x y r)

theorem fine2 {S : List Om} {a b : Vl} (h : fineP S [a, b]) : SameOk S a ∧ SameOk S b := ⟨may_same (fine_may h) (by simp), may_same (fine_may h) (by simp)⟩

set_option maxRecDepth 20000 in
set_option maxHeartbeats 8000000 in
theorem rBin_bad {base H : Nat} {S : List Om} {p : Option Addr} {c : Nat} {ts : List Po} (hR : Rh base w H S p c ts) (hbw : base ≤ w.heap.size) (h : Ask w p S) (op : Nat) (a b : Vl) (hf : ¬ fineP S [a, b]) {D : Dv} (hD : D = refD S) :
    Calls Tryz.prog 13 #[.pointer (some ⟨H, 0, none⟩), .int .u8 op, .agg #[.int .u8 a.k, .int .i64 a.n], .agg #[.int .u8 b.k, .int .i64 b.n], .bool false] w fun e w' => e = .returned (.agg #[.int .u8 D.v.k, .int .i64 D.v.n, .string D.t, .int .i64 D.n]) ∧ (∃ p' c' ts', Rh base w' H D.S p' c' ts') ∧ Below base w w' := by
  have hB := below3' w (.cells #[.int .u8 a.k, .int .i64 a.n] 27) (.cells #[.int .u8 b.k, .int .i64 b.n] 27) (.cells #[.int .u8 0, .int .i64 0, .string ⟨#[]⟩, .int .i64 0] 38)
  have e0 := heap3_0 w (.cells #[.int .u8 a.k, .int .i64 a.n] 27) (.cells #[.int .u8 b.k, .int .i64 b.n] 27) (.cells #[.int .u8 0, .int .i64 0, .string ⟨#[]⟩, .int .i64 0] 38)
  have e1 := heap3_1 w (.cells #[.int .u8 a.k, .int .i64 a.n] 27) (.cells #[.int .u8 b.k, .int .i64 b.n] 27) (.cells #[.int .u8 0, .int .i64 0, .string ⟨#[]⟩, .int .i64 0] 38)
  have e2 := heap3_2 w (.cells #[.int .u8 a.k, .int .i64 a.n] 27) (.cells #[.int .u8 b.k, .int .i64 b.n] 27) (.cells #[.int .u8 0, .int .i64 0, .string ⟨#[]⟩, .int .i64 0] 38)
  obtain ⟨x0, x1⟩ := cell_row2 e0
  obtain ⟨u0, u1⟩ := cell_row2 e1
  have HDq : Hid _ := hD
  clear hD
  go_enter Tryz.func13, Tryz.ntmps13
  go_wp2_with (first
    | (go_at_call 54; refine halt_here ?_))
  unfold Halted
  have hsz : (((w.alloc (.cells #[.int .u8 a.k, .int .i64 a.n] 27)).alloc (.cells #[.int .u8 b.k, .int .i64 b.n] 27)).alloc (.cells #[.int .u8 0, .int .i64 0, .string ⟨#[]⟩, .int .i64 0] 38)).heap.size = w.heap.size + 1 + 1 + 1 := by simp
  generalize hW : ((w.alloc (.cells #[.int .u8 a.k, .int .i64 a.n] 27)).alloc (.cells #[.int .u8 b.k, .int .i64 b.n] 27)).alloc (.cells #[.int .u8 0, .int .i64 0, .string ⟨#[]⟩, .int .i64 0] 38) = W at *
  clear hW
  have hnew := heap_alloc_new W (.cells #[.int .u8 a.k, .int .i64 a.n, .int .u8 b.k, .int .i64 b.n] 27)
  have hBY := below1 W (.cells #[.int .u8 a.k, .int .i64 a.n, .int .u8 b.k, .int .i64 b.n] 27)
  rw [hsz] at hnew
  clear hsz
  have hB' := hB.trans (hBY.mono hB.size)
  have HM := Fine_in (h.below hB') c (hR.at_.below hB') (l := [a, b]) 2 (one_vals2 hnew) (by simp) false (by simp [hf])
  refine Calls.mono HM ?_
  clear HM
  rintro e w1 ⟨rfl, hB1⟩
  have hB1' := hBY.trans (hB1.mono hBY.size)
  have hBw := hB.trans (hB1'.mono hB.size)
  have f0 := (hB1'.block _ (Array.getElem?_eq_some_iff.1 e0).1).trans e0
  have f1 := (hB1'.block _ (Array.getElem?_eq_some_iff.1 e1).1).trans e1
  have f2 := (hB1'.block _ (Array.getElem?_eq_some_iff.1 e2).1).trans e2
  clear x0 x1 u0 u1 e0 e1 e2 hnew hB1 hB1' hBY hB'
  obtain ⟨x0, x1⟩ := cell_row2 f0
  obtain ⟨u0, u1⟩ := cell_row2 f1
  have hR1 := hR.below hBw
  have hbs : base ≤ w1.heap.size := Nat.le_trans hbw hBw.size
  have l2 := (Array.getElem?_eq_some_iff.1 f2).1
  have H1 := fun (W : World) => thrown_in tKind W (d := { t := tKind }) rfl
  unfold tKind at H1
  go_wp2_with (first
    | (go_at_call 55; (with_reducible refine (H1 w1).mono ?_); rintro e y1 ⟨rfl, hY1⟩; have hC1 := hY1; have hr := (hC1.block _ (Array.getElem?_eq_some_iff.1 f2).1).trans f2; obtain ⟨⟨z0, z1, z2, z3⟩, q0, q1, q2, q3⟩ := cell_row4D hr))
  refine bodyPost_ret (results_cell_row (by rfl) _ _ (w.heap.size + 1 + 1) 38 _ _ _ (by rfl) (set4_rowD hr) Tryz.underlying38 (by rfl) infoRd) (by rfl) ?_
  obtain rfl := HDq.out
  exact ⟨rfl, ⟨p, c, ts, (hR1.below hC1).set4 hr _ _ _ _⟩, below_set4 ((hBw.mono hbw).trans (hC1.mono hbs)) (by omega) _ _ _ _⟩

set_option maxRecDepth 20000 in
set_option maxHeartbeats 8000000 in
theorem rBin_8 {base H : Nat} {S : List Om} {p : Option Addr} {c : Nat} {ts : List Po} (hR : Rh base w H S p c ts) (hbw : base ≤ w.heap.size) (h : Ask w p S) (op : Nat) (a b : Vl) (hop : op = 8) (hf : fineP S [a, b]) (r : Bool) (hr0 : r = true ↔ essP S a = essP S b) {D : Dv} (hD : D = ⟨S, tru r, ⟨#[]⟩, 0⟩) :
    Calls Tryz.prog 13 #[.pointer (some ⟨H, 0, none⟩), .int .u8 op, .agg #[.int .u8 a.k, .int .i64 a.n], .agg #[.int .u8 b.k, .int .i64 b.n], .bool false] w fun e w' => e = .returned (.agg #[.int .u8 D.v.k, .int .i64 D.v.n, .string D.t, .int .i64 D.n]) ∧ (∃ p' c' ts', Rh base w' H D.S p' c' ts') ∧ Below base w w' := by
  subst hop
  simp only [show ((8 : Nat) : Int) = 8 from rfl]
  have hB := below3' w (.cells #[.int .u8 a.k, .int .i64 a.n] 27) (.cells #[.int .u8 b.k, .int .i64 b.n] 27) (.cells #[.int .u8 0, .int .i64 0, .string ⟨#[]⟩, .int .i64 0] 38)
  have e0 := heap3_0 w (.cells #[.int .u8 a.k, .int .i64 a.n] 27) (.cells #[.int .u8 b.k, .int .i64 b.n] 27) (.cells #[.int .u8 0, .int .i64 0, .string ⟨#[]⟩, .int .i64 0] 38)
  have e1 := heap3_1 w (.cells #[.int .u8 a.k, .int .i64 a.n] 27) (.cells #[.int .u8 b.k, .int .i64 b.n] 27) (.cells #[.int .u8 0, .int .i64 0, .string ⟨#[]⟩, .int .i64 0] 38)
  have e2 := heap3_2 w (.cells #[.int .u8 a.k, .int .i64 a.n] 27) (.cells #[.int .u8 b.k, .int .i64 b.n] 27) (.cells #[.int .u8 0, .int .i64 0, .string ⟨#[]⟩, .int .i64 0] 38)
  obtain ⟨x0, x1⟩ := cell_row2 e0
  obtain ⟨u0, u1⟩ := cell_row2 e1
  have HDq : Hid _ := hD
  clear hD
  go_enter Tryz.func13, Tryz.ntmps13
  go_wp2_with (first
    | (go_at_call 54; refine halt_here ?_))
  unfold Halted
  have hsz : (((w.alloc (.cells #[.int .u8 a.k, .int .i64 a.n] 27)).alloc (.cells #[.int .u8 b.k, .int .i64 b.n] 27)).alloc (.cells #[.int .u8 0, .int .i64 0, .string ⟨#[]⟩, .int .i64 0] 38)).heap.size = w.heap.size + 1 + 1 + 1 := by simp
  generalize hW : ((w.alloc (.cells #[.int .u8 a.k, .int .i64 a.n] 27)).alloc (.cells #[.int .u8 b.k, .int .i64 b.n] 27)).alloc (.cells #[.int .u8 0, .int .i64 0, .string ⟨#[]⟩, .int .i64 0] 38) = W at *
  clear hW
  have hnew := heap_alloc_new W (.cells #[.int .u8 a.k, .int .i64 a.n, .int .u8 b.k, .int .i64 b.n] 27)
  have hBY := below1 W (.cells #[.int .u8 a.k, .int .i64 a.n, .int .u8 b.k, .int .i64 b.n] 27)
  rw [hsz] at hnew
  clear hsz
  have hB' := hB.trans (hBY.mono hB.size)
  have HM := Fine_in (h.below hB') c (hR.at_.below hB') (l := [a, b]) 2 (one_vals2 hnew) (by simp) true (by simp [hf])
  refine Calls.mono HM ?_
  clear HM
  rintro e w1 ⟨rfl, hB1⟩
  have hB1' := hBY.trans (hB1.mono hBY.size)
  have hBw := hB.trans (hB1'.mono hB.size)
  have f0 := (hB1'.block _ (Array.getElem?_eq_some_iff.1 e0).1).trans e0
  have f1 := (hB1'.block _ (Array.getElem?_eq_some_iff.1 e1).1).trans e1
  have f2 := (hB1'.block _ (Array.getElem?_eq_some_iff.1 e2).1).trans e2
  clear x0 x1 u0 u1 e0 e1 e2 hnew hB1 hB1' hBY hB'
  obtain ⟨x0, x1⟩ := cell_row2 f0
  obtain ⟨u0, u1⟩ := cell_row2 f1
  have hR1 := hR.below hBw
  have hbs : base ≤ w1.heap.size := Nat.le_trans hbw hBw.size
  have l2 := (Array.getElem?_eq_some_iff.1 f2).1
  have HS := fun (W : World) (hb : Below w1.heap.size w1 W) => rhSame_in (h.below (hBw.trans (hb.mono hBw.size))) c (hR1.at_.below hb) a b (fine2 hf).1 (fine2 hf).2 r hr0
  have HS1 := HS w1 (Below.refl _ _)
  clear HS hr0 hf
  have HBo := fun (W : World) => rBool_in (r) W
  go_wp2_with (first
    | (go_at_call 57; (with_reducible refine (HS1).mono ?_); rintro e y1 ⟨rfl, hY1⟩; have hC1 := hY1; obtain ⟨v0, v1⟩ := cell_row2 ((hC1.block _ (Array.getElem?_eq_some_iff.1 f0).1).trans f0); obtain ⟨v2, v3⟩ := cell_row2 ((hC1.block _ (Array.getElem?_eq_some_iff.1 f1).1).trans f1))
    | (go_at_call 56; (with_reducible refine (HBo y1).mono ?_); rintro e y2 ⟨rfl, hY2⟩; have hC2 := hC1.trans (hY2.mono hC1.size); have hr := (hC2.block _ (Array.getElem?_eq_some_iff.1 f2).1).trans f2; obtain ⟨⟨z0, z1, z2, z3⟩, q0, q1, q2, q3⟩ := cell_row4D hr))
  refine bodyPost_ret (results_cell_row (by rfl) _ _ (w.heap.size + 1 + 1) 38 _ _ _ (by rfl) (set4_rowD hr) Tryz.underlying38 (by rfl) infoRd) (by rfl) ?_
  obtain rfl := HDq.out
  exact ⟨rfl, ⟨p, c, ts, (hR1.below hC2).set4 hr _ _ _ _⟩, below_set4 ((hBw.mono hbw).trans (hC2.mono hbs)) (by omega) _ _ _ _⟩

set_option maxRecDepth 20000 in
set_option maxHeartbeats 8000000 in
theorem rBin_9 {base H : Nat} {S : List Om} {p : Option Addr} {c : Nat} {ts : List Po} (hR : Rh base w H S p c ts) (hbw : base ≤ w.heap.size) (h : Ask w p S) (op : Nat) (a b : Vl) (hop : op = 9) (hf : fineP S [a, b]) (r : Bool) (hr0 : r = true ↔ essP S a = essP S b) {D : Dv} (hD : D = ⟨S, tru (!r), ⟨#[]⟩, 0⟩) :
    Calls Tryz.prog 13 #[.pointer (some ⟨H, 0, none⟩), .int .u8 op, .agg #[.int .u8 a.k, .int .i64 a.n], .agg #[.int .u8 b.k, .int .i64 b.n], .bool false] w fun e w' => e = .returned (.agg #[.int .u8 D.v.k, .int .i64 D.v.n, .string D.t, .int .i64 D.n]) ∧ (∃ p' c' ts', Rh base w' H D.S p' c' ts') ∧ Below base w w' := by
  subst hop
  simp only [show ((9 : Nat) : Int) = 9 from rfl]
  have hB := below3' w (.cells #[.int .u8 a.k, .int .i64 a.n] 27) (.cells #[.int .u8 b.k, .int .i64 b.n] 27) (.cells #[.int .u8 0, .int .i64 0, .string ⟨#[]⟩, .int .i64 0] 38)
  have e0 := heap3_0 w (.cells #[.int .u8 a.k, .int .i64 a.n] 27) (.cells #[.int .u8 b.k, .int .i64 b.n] 27) (.cells #[.int .u8 0, .int .i64 0, .string ⟨#[]⟩, .int .i64 0] 38)
  have e1 := heap3_1 w (.cells #[.int .u8 a.k, .int .i64 a.n] 27) (.cells #[.int .u8 b.k, .int .i64 b.n] 27) (.cells #[.int .u8 0, .int .i64 0, .string ⟨#[]⟩, .int .i64 0] 38)
  have e2 := heap3_2 w (.cells #[.int .u8 a.k, .int .i64 a.n] 27) (.cells #[.int .u8 b.k, .int .i64 b.n] 27) (.cells #[.int .u8 0, .int .i64 0, .string ⟨#[]⟩, .int .i64 0] 38)
  obtain ⟨x0, x1⟩ := cell_row2 e0
  obtain ⟨u0, u1⟩ := cell_row2 e1
  have HDq : Hid _ := hD
  clear hD
  go_enter Tryz.func13, Tryz.ntmps13
  go_wp2_with (first
    | (go_at_call 54; refine halt_here ?_))
  unfold Halted
  have hsz : (((w.alloc (.cells #[.int .u8 a.k, .int .i64 a.n] 27)).alloc (.cells #[.int .u8 b.k, .int .i64 b.n] 27)).alloc (.cells #[.int .u8 0, .int .i64 0, .string ⟨#[]⟩, .int .i64 0] 38)).heap.size = w.heap.size + 1 + 1 + 1 := by simp
  generalize hW : ((w.alloc (.cells #[.int .u8 a.k, .int .i64 a.n] 27)).alloc (.cells #[.int .u8 b.k, .int .i64 b.n] 27)).alloc (.cells #[.int .u8 0, .int .i64 0, .string ⟨#[]⟩, .int .i64 0] 38) = W at *
  clear hW
  have hnew := heap_alloc_new W (.cells #[.int .u8 a.k, .int .i64 a.n, .int .u8 b.k, .int .i64 b.n] 27)
  have hBY := below1 W (.cells #[.int .u8 a.k, .int .i64 a.n, .int .u8 b.k, .int .i64 b.n] 27)
  rw [hsz] at hnew
  clear hsz
  have hB' := hB.trans (hBY.mono hB.size)
  have HM := Fine_in (h.below hB') c (hR.at_.below hB') (l := [a, b]) 2 (one_vals2 hnew) (by simp) true (by simp [hf])
  refine Calls.mono HM ?_
  clear HM
  rintro e w1 ⟨rfl, hB1⟩
  have hB1' := hBY.trans (hB1.mono hBY.size)
  have hBw := hB.trans (hB1'.mono hB.size)
  have f0 := (hB1'.block _ (Array.getElem?_eq_some_iff.1 e0).1).trans e0
  have f1 := (hB1'.block _ (Array.getElem?_eq_some_iff.1 e1).1).trans e1
  have f2 := (hB1'.block _ (Array.getElem?_eq_some_iff.1 e2).1).trans e2
  clear x0 x1 u0 u1 e0 e1 e2 hnew hB1 hB1' hBY hB'
  obtain ⟨x0, x1⟩ := cell_row2 f0
  obtain ⟨u0, u1⟩ := cell_row2 f1
  have hR1 := hR.below hBw
  have hbs : base ≤ w1.heap.size := Nat.le_trans hbw hBw.size
  have l2 := (Array.getElem?_eq_some_iff.1 f2).1
  have HS := fun (W : World) (hb : Below w1.heap.size w1 W) => rhSame_in (h.below (hBw.trans (hb.mono hBw.size))) c (hR1.at_.below hb) a b (fine2 hf).1 (fine2 hf).2 r hr0
  have HS1 := HS w1 (Below.refl _ _)
  clear HS hr0 hf
  have HBo := fun (W : World) => rBool_in (!r) W
  go_wp2_with (first
    | (go_at_call 57; (with_reducible refine (HS1).mono ?_); rintro e y1 ⟨rfl, hY1⟩; have hC1 := hY1; obtain ⟨v0, v1⟩ := cell_row2 ((hC1.block _ (Array.getElem?_eq_some_iff.1 f0).1).trans f0); obtain ⟨v2, v3⟩ := cell_row2 ((hC1.block _ (Array.getElem?_eq_some_iff.1 f1).1).trans f1))
    | (go_at_call 56; (with_reducible refine (HBo y1).mono ?_); rintro e y2 ⟨rfl, hY2⟩; have hC2 := hC1.trans (hY2.mono hC1.size); have hr := (hC2.block _ (Array.getElem?_eq_some_iff.1 f2).1).trans f2; obtain ⟨⟨z0, z1, z2, z3⟩, q0, q1, q2, q3⟩ := cell_row4D hr))
  refine bodyPost_ret (results_cell_row (by rfl) _ _ (w.heap.size + 1 + 1) 38 _ _ _ (by rfl) (set4_rowD hr) Tryz.underlying38 (by rfl) infoRd) (by rfl) ?_
  obtain rfl := HDq.out
  exact ⟨rfl, ⟨p, c, ts, (hR1.below hC2).set4 hr _ _ _ _⟩, below_set4 ((hBw.mono hbw).trans (hC2.mono hbs)) (by omega) _ _ _ _⟩

set_option maxRecDepth 20000 in
set_option maxHeartbeats 8000000 in
theorem rBin_ints {base H : Nat} {S : List Om} {p : Option Addr} {c : Nat} {ts : List Po} (hR : Rh base w H S p c ts) (hbw : base ≤ w.heap.size) (h : Ask w p S) (op : Nat) (a b : Vl) (h8 : op ≠ 8) (h9 : op ≠ 9) (hf : fineP S [a, b]) (ha : a.k = 2) (hb : b.k = 2) {D : Dv} (hD : D = ⟨S, (intsR op a.n b.n).v, (intsR op a.n b.n).t, (intsR op a.n b.n).n⟩) :
    Calls Tryz.prog 13 #[.pointer (some ⟨H, 0, none⟩), .int .u8 op, .agg #[.int .u8 a.k, .int .i64 a.n], .agg #[.int .u8 b.k, .int .i64 b.n], .bool false] w fun e w' => e = .returned (.agg #[.int .u8 D.v.k, .int .i64 D.v.n, .string D.t, .int .i64 D.n]) ∧ (∃ p' c' ts', Rh base w' H D.S p' c' ts') ∧ Below base w w' := by
  have H_ha : Hid _ := ha
  clear ha
  have H_hb : Hid _ := hb
  clear hb
  have hB := below3' w (.cells #[.int .u8 a.k, .int .i64 a.n] 27) (.cells #[.int .u8 b.k, .int .i64 b.n] 27) (.cells #[.int .u8 0, .int .i64 0, .string ⟨#[]⟩, .int .i64 0] 38)
  have e0 := heap3_0 w (.cells #[.int .u8 a.k, .int .i64 a.n] 27) (.cells #[.int .u8 b.k, .int .i64 b.n] 27) (.cells #[.int .u8 0, .int .i64 0, .string ⟨#[]⟩, .int .i64 0] 38)
  have e1 := heap3_1 w (.cells #[.int .u8 a.k, .int .i64 a.n] 27) (.cells #[.int .u8 b.k, .int .i64 b.n] 27) (.cells #[.int .u8 0, .int .i64 0, .string ⟨#[]⟩, .int .i64 0] 38)
  have e2 := heap3_2 w (.cells #[.int .u8 a.k, .int .i64 a.n] 27) (.cells #[.int .u8 b.k, .int .i64 b.n] 27) (.cells #[.int .u8 0, .int .i64 0, .string ⟨#[]⟩, .int .i64 0] 38)
  obtain ⟨x0, x1⟩ := cell_row2 e0
  obtain ⟨u0, u1⟩ := cell_row2 e1
  have HDq : Hid _ := hD
  clear hD
  go_enter Tryz.func13, Tryz.ntmps13
  go_wp2_with (first
    | (go_at_call 54; refine halt_here ?_))
  unfold Halted
  have hsz : (((w.alloc (.cells #[.int .u8 a.k, .int .i64 a.n] 27)).alloc (.cells #[.int .u8 b.k, .int .i64 b.n] 27)).alloc (.cells #[.int .u8 0, .int .i64 0, .string ⟨#[]⟩, .int .i64 0] 38)).heap.size = w.heap.size + 1 + 1 + 1 := by simp
  generalize hW : ((w.alloc (.cells #[.int .u8 a.k, .int .i64 a.n] 27)).alloc (.cells #[.int .u8 b.k, .int .i64 b.n] 27)).alloc (.cells #[.int .u8 0, .int .i64 0, .string ⟨#[]⟩, .int .i64 0] 38) = W at *
  clear hW
  have hnew := heap_alloc_new W (.cells #[.int .u8 a.k, .int .i64 a.n, .int .u8 b.k, .int .i64 b.n] 27)
  have hBY := below1 W (.cells #[.int .u8 a.k, .int .i64 a.n, .int .u8 b.k, .int .i64 b.n] 27)
  rw [hsz] at hnew
  clear hsz
  have hB' := hB.trans (hBY.mono hB.size)
  have HM := Fine_in (h.below hB') c (hR.at_.below hB') (l := [a, b]) 2 (one_vals2 hnew) (by simp) true (by simp [hf])
  refine Calls.mono HM ?_
  clear HM
  rintro e w1 ⟨rfl, hB1⟩
  have hB1' := hBY.trans (hB1.mono hBY.size)
  have hBw := hB.trans (hB1'.mono hB.size)
  have f0 := (hB1'.block _ (Array.getElem?_eq_some_iff.1 e0).1).trans e0
  have f1 := (hB1'.block _ (Array.getElem?_eq_some_iff.1 e1).1).trans e1
  have f2 := (hB1'.block _ (Array.getElem?_eq_some_iff.1 e2).1).trans e2
  clear x0 x1 u0 u1 e0 e1 e2 hnew hB1 hB1' hBY hB'
  obtain ⟨x0, x1⟩ := cell_row2 f0
  obtain ⟨u0, u1⟩ := cell_row2 f1
  have hR1 := hR.below hBw
  have hbs : base ≤ w1.heap.size := Nat.le_trans hbw hBw.size
  have l2 := (Array.getElem?_eq_some_iff.1 f2).1
  have ha := H_ha.out
  clear H_ha
  have hb := H_hb.out
  clear H_hb
  obtain ⟨ak, an⟩ := a
  simp only at ha
  subst ha
  obtain ⟨bk, bn⟩ := b
  simp only at hb
  subst hb
  simp only [show ((2 : Nat) : Int) = 2 from rfl] at x0 x1 u0 u1
  have n_op8 : ¬ ((op : Int) = 8) := by omega
  have b_op8 : ((op : Int) == 8) = false := by simp; omega
  have n_op9 : ¬ ((op : Int) = 9) := by omega
  have b_op9 : ((op : Int) == 9) = false := by simp; omega
  have HI := fun (W : World) => rInts_in op an bn W rfl
  clear hf h8 h9
  generalize intsR op an bn = dd at *
  go_wp2_with (first
    | (go_at_call 58; (with_reducible refine (HI w1).mono ?_); rintro e y1 ⟨rfl, hY1⟩; have hC1 := hY1; have hr := (hC1.block _ (Array.getElem?_eq_some_iff.1 f2).1).trans f2; obtain ⟨⟨z0, z1, z2, z3⟩, q0, q1, q2, q3⟩ := cell_row4D hr))
  refine bodyPost_ret (results_cell_row (by rfl) _ _ (w.heap.size + 1 + 1) 38 _ _ _ (by rfl) (set4_rowD hr) Tryz.underlying38 (by rfl) infoRd) (by rfl) ?_
  obtain rfl := HDq.out
  exact ⟨rfl, ⟨p, c, ts, (hR1.below hC1).set4 hr _ _ _ _⟩, below_set4 ((hBw.mono hbw).trans (hC1.mono hbs)) (by omega) _ _ _ _⟩

set_option maxRecDepth 20000 in
set_option maxHeartbeats 8000000 in
theorem rBin_k1 {base H : Nat} {S : List Om} {p : Option Addr} {c : Nat} {ts : List Po} (hR : Rh base w H S p c ts) (hbw : base ≤ w.heap.size) (h : Ask w p S) (op : Nat) (a b : Vl) (h8 : op ≠ 8) (h9 : op ≠ 9) (hf : fineP S [a, b]) (ha : a.k ≠ 2) (hb : a.k ≠ 3) {D : Dv} (hD : D = refD S) :
    Calls Tryz.prog 13 #[.pointer (some ⟨H, 0, none⟩), .int .u8 op, .agg #[.int .u8 a.k, .int .i64 a.n], .agg #[.int .u8 b.k, .int .i64 b.n], .bool false] w fun e w' => e = .returned (.agg #[.int .u8 D.v.k, .int .i64 D.v.n, .string D.t, .int .i64 D.n]) ∧ (∃ p' c' ts', Rh base w' H D.S p' c' ts') ∧ Below base w w' := by
  have hB := below3' w (.cells #[.int .u8 a.k, .int .i64 a.n] 27) (.cells #[.int .u8 b.k, .int .i64 b.n] 27) (.cells #[.int .u8 0, .int .i64 0, .string ⟨#[]⟩, .int .i64 0] 38)
  have e0 := heap3_0 w (.cells #[.int .u8 a.k, .int .i64 a.n] 27) (.cells #[.int .u8 b.k, .int .i64 b.n] 27) (.cells #[.int .u8 0, .int .i64 0, .string ⟨#[]⟩, .int .i64 0] 38)
  have e1 := heap3_1 w (.cells #[.int .u8 a.k, .int .i64 a.n] 27) (.cells #[.int .u8 b.k, .int .i64 b.n] 27) (.cells #[.int .u8 0, .int .i64 0, .string ⟨#[]⟩, .int .i64 0] 38)
  have e2 := heap3_2 w (.cells #[.int .u8 a.k, .int .i64 a.n] 27) (.cells #[.int .u8 b.k, .int .i64 b.n] 27) (.cells #[.int .u8 0, .int .i64 0, .string ⟨#[]⟩, .int .i64 0] 38)
  obtain ⟨x0, x1⟩ := cell_row2 e0
  obtain ⟨u0, u1⟩ := cell_row2 e1
  have HDq : Hid _ := hD
  clear hD
  go_enter Tryz.func13, Tryz.ntmps13
  go_wp2_with (first
    | (go_at_call 54; refine halt_here ?_))
  unfold Halted
  have hsz : (((w.alloc (.cells #[.int .u8 a.k, .int .i64 a.n] 27)).alloc (.cells #[.int .u8 b.k, .int .i64 b.n] 27)).alloc (.cells #[.int .u8 0, .int .i64 0, .string ⟨#[]⟩, .int .i64 0] 38)).heap.size = w.heap.size + 1 + 1 + 1 := by simp
  generalize hW : ((w.alloc (.cells #[.int .u8 a.k, .int .i64 a.n] 27)).alloc (.cells #[.int .u8 b.k, .int .i64 b.n] 27)).alloc (.cells #[.int .u8 0, .int .i64 0, .string ⟨#[]⟩, .int .i64 0] 38) = W at *
  clear hW
  have hnew := heap_alloc_new W (.cells #[.int .u8 a.k, .int .i64 a.n, .int .u8 b.k, .int .i64 b.n] 27)
  have hBY := below1 W (.cells #[.int .u8 a.k, .int .i64 a.n, .int .u8 b.k, .int .i64 b.n] 27)
  rw [hsz] at hnew
  clear hsz
  have hB' := hB.trans (hBY.mono hB.size)
  have HM := Fine_in (h.below hB') c (hR.at_.below hB') (l := [a, b]) 2 (one_vals2 hnew) (by simp) true (by simp [hf])
  refine Calls.mono HM ?_
  clear HM
  rintro e w1 ⟨rfl, hB1⟩
  have hB1' := hBY.trans (hB1.mono hBY.size)
  have hBw := hB.trans (hB1'.mono hB.size)
  have f0 := (hB1'.block _ (Array.getElem?_eq_some_iff.1 e0).1).trans e0
  have f1 := (hB1'.block _ (Array.getElem?_eq_some_iff.1 e1).1).trans e1
  have f2 := (hB1'.block _ (Array.getElem?_eq_some_iff.1 e2).1).trans e2
  clear x0 x1 u0 u1 e0 e1 e2 hnew hB1 hB1' hBY hB'
  obtain ⟨x0, x1⟩ := cell_row2 f0
  obtain ⟨u0, u1⟩ := cell_row2 f1
  have hR1 := hR.below hBw
  have hbs : base ≤ w1.heap.size := Nat.le_trans hbw hBw.size
  have l2 := (Array.getElem?_eq_some_iff.1 f2).1
  have n_op8 : ¬ ((op : Int) = 8) := by omega
  have b_op8 : ((op : Int) == 8) = false := by simp; omega
  have n_op9 : ¬ ((op : Int) = 9) := by omega
  have b_op9 : ((op : Int) == 9) = false := by simp; omega
  have n_ak2 : ¬ ((a.k : Int) = 2) := by omega
  have b_ak2 : ((a.k : Int) == 2) = false := by simp; omega
  have n_ak3 : ¬ ((a.k : Int) = 3) := by omega
  have b_ak3 : ((a.k : Int) == 3) = false := by simp; omega
  clear hf h8 h9 ha hb
  have H1 := fun (W : World) => thrown_in tKind W (d := { t := tKind }) rfl
  unfold tKind at H1
  go_wp2_with (first
    | (go_at_call 55; (with_reducible refine (H1 w1).mono ?_); rintro e y1 ⟨rfl, hY1⟩; have hC1 := hY1; have hr := (hC1.block _ (Array.getElem?_eq_some_iff.1 f2).1).trans f2; obtain ⟨⟨z0, z1, z2, z3⟩, q0, q1, q2, q3⟩ := cell_row4D hr))
  refine bodyPost_ret (results_cell_row (by rfl) _ _ (w.heap.size + 1 + 1) 38 _ _ _ (by rfl) (set4_rowD hr) Tryz.underlying38 (by rfl) infoRd) (by rfl) ?_
  obtain rfl := HDq.out
  exact ⟨rfl, ⟨p, c, ts, (hR1.below hC1).set4 hr _ _ _ _⟩, below_set4 ((hBw.mono hbw).trans (hC1.mono hbs)) (by omega) _ _ _ _⟩

set_option maxRecDepth 20000 in
set_option maxHeartbeats 8000000 in
theorem rBin_k2 {base H : Nat} {S : List Om} {p : Option Addr} {c : Nat} {ts : List Po} (hR : Rh base w H S p c ts) (hbw : base ≤ w.heap.size) (h : Ask w p S) (op : Nat) (a b : Vl) (h8 : op ≠ 8) (h9 : op ≠ 9) (hf : fineP S [a, b]) (ha : a.k = 2) (hb : b.k ≠ 2) {D : Dv} (hD : D = refD S) :
    Calls Tryz.prog 13 #[.pointer (some ⟨H, 0, none⟩), .int .u8 op, .agg #[.int .u8 a.k, .int .i64 a.n], .agg #[.int .u8 b.k, .int .i64 b.n], .bool false] w fun e w' => e = .returned (.agg #[.int .u8 D.v.k, .int .i64 D.v.n, .string D.t, .int .i64 D.n]) ∧ (∃ p' c' ts', Rh base w' H D.S p' c' ts') ∧ Below base w w' := by
  have H_ha : Hid _ := ha
  clear ha
  have hB := below3' w (.cells #[.int .u8 a.k, .int .i64 a.n] 27) (.cells #[.int .u8 b.k, .int .i64 b.n] 27) (.cells #[.int .u8 0, .int .i64 0, .string ⟨#[]⟩, .int .i64 0] 38)
  have e0 := heap3_0 w (.cells #[.int .u8 a.k, .int .i64 a.n] 27) (.cells #[.int .u8 b.k, .int .i64 b.n] 27) (.cells #[.int .u8 0, .int .i64 0, .string ⟨#[]⟩, .int .i64 0] 38)
  have e1 := heap3_1 w (.cells #[.int .u8 a.k, .int .i64 a.n] 27) (.cells #[.int .u8 b.k, .int .i64 b.n] 27) (.cells #[.int .u8 0, .int .i64 0, .string ⟨#[]⟩, .int .i64 0] 38)
  have e2 := heap3_2 w (.cells #[.int .u8 a.k, .int .i64 a.n] 27) (.cells #[.int .u8 b.k, .int .i64 b.n] 27) (.cells #[.int .u8 0, .int .i64 0, .string ⟨#[]⟩, .int .i64 0] 38)
  obtain ⟨x0, x1⟩ := cell_row2 e0
  obtain ⟨u0, u1⟩ := cell_row2 e1
  have HDq : Hid _ := hD
  clear hD
  go_enter Tryz.func13, Tryz.ntmps13
  go_wp2_with (first
    | (go_at_call 54; refine halt_here ?_))
  unfold Halted
  have hsz : (((w.alloc (.cells #[.int .u8 a.k, .int .i64 a.n] 27)).alloc (.cells #[.int .u8 b.k, .int .i64 b.n] 27)).alloc (.cells #[.int .u8 0, .int .i64 0, .string ⟨#[]⟩, .int .i64 0] 38)).heap.size = w.heap.size + 1 + 1 + 1 := by simp
  generalize hW : ((w.alloc (.cells #[.int .u8 a.k, .int .i64 a.n] 27)).alloc (.cells #[.int .u8 b.k, .int .i64 b.n] 27)).alloc (.cells #[.int .u8 0, .int .i64 0, .string ⟨#[]⟩, .int .i64 0] 38) = W at *
  clear hW
  have hnew := heap_alloc_new W (.cells #[.int .u8 a.k, .int .i64 a.n, .int .u8 b.k, .int .i64 b.n] 27)
  have hBY := below1 W (.cells #[.int .u8 a.k, .int .i64 a.n, .int .u8 b.k, .int .i64 b.n] 27)
  rw [hsz] at hnew
  clear hsz
  have hB' := hB.trans (hBY.mono hB.size)
  have HM := Fine_in (h.below hB') c (hR.at_.below hB') (l := [a, b]) 2 (one_vals2 hnew) (by simp) true (by simp [hf])
  refine Calls.mono HM ?_
  clear HM
  rintro e w1 ⟨rfl, hB1⟩
  have hB1' := hBY.trans (hB1.mono hBY.size)
  have hBw := hB.trans (hB1'.mono hB.size)
  have f0 := (hB1'.block _ (Array.getElem?_eq_some_iff.1 e0).1).trans e0
  have f1 := (hB1'.block _ (Array.getElem?_eq_some_iff.1 e1).1).trans e1
  have f2 := (hB1'.block _ (Array.getElem?_eq_some_iff.1 e2).1).trans e2
  clear x0 x1 u0 u1 e0 e1 e2 hnew hB1 hB1' hBY hB'
  obtain ⟨x0, x1⟩ := cell_row2 f0
  obtain ⟨u0, u1⟩ := cell_row2 f1
  have hR1 := hR.below hBw
  have hbs : base ≤ w1.heap.size := Nat.le_trans hbw hBw.size
  have l2 := (Array.getElem?_eq_some_iff.1 f2).1
  have ha := H_ha.out
  clear H_ha
  obtain ⟨ak, an⟩ := a
  simp only at ha
  subst ha
  simp only [show ((2 : Nat) : Int) = 2 from rfl] at x0 x1
  have n_op8 : ¬ ((op : Int) = 8) := by omega
  have b_op8 : ((op : Int) == 8) = false := by simp; omega
  have n_op9 : ¬ ((op : Int) = 9) := by omega
  have b_op9 : ((op : Int) == 9) = false := by simp; omega
  have n_bk2 : ¬ ((b.k : Int) = 2) := by omega
  have b_bk2 : ((b.k : Int) == 2) = false := by simp; omega
  clear hf h8 h9 hb
  have H1 := fun (W : World) => thrown_in tKind W (d := { t := tKind }) rfl
  unfold tKind at H1
  go_wp2_with (first
    | (go_at_call 55; (with_reducible refine (H1 w1).mono ?_); rintro e y1 ⟨rfl, hY1⟩; have hC1 := hY1; have hr := (hC1.block _ (Array.getElem?_eq_some_iff.1 f2).1).trans f2; obtain ⟨⟨z0, z1, z2, z3⟩, q0, q1, q2, q3⟩ := cell_row4D hr))
  refine bodyPost_ret (results_cell_row (by rfl) _ _ (w.heap.size + 1 + 1) 38 _ _ _ (by rfl) (set4_rowD hr) Tryz.underlying38 (by rfl) infoRd) (by rfl) ?_
  obtain rfl := HDq.out
  exact ⟨rfl, ⟨p, c, ts, (hR1.below hC1).set4 hr _ _ _ _⟩, below_set4 ((hBw.mono hbw).trans (hC1.mono hbs)) (by omega) _ _ _ _⟩

set_option maxRecDepth 20000 in
set_option maxHeartbeats 8000000 in
theorem rBin_k3 {base H : Nat} {S : List Om} {p : Option Addr} {c : Nat} {ts : List Po} (hR : Rh base w H S p c ts) (hbw : base ≤ w.heap.size) (h : Ask w p S) (op : Nat) (a b : Vl) (h8 : op ≠ 8) (h9 : op ≠ 9) (hf : fineP S [a, b]) (ha : a.k = 3) (hb : b.k ≠ 3) {D : Dv} (hD : D = refD S) :
    Calls Tryz.prog 13 #[.pointer (some ⟨H, 0, none⟩), .int .u8 op, .agg #[.int .u8 a.k, .int .i64 a.n], .agg #[.int .u8 b.k, .int .i64 b.n], .bool false] w fun e w' => e = .returned (.agg #[.int .u8 D.v.k, .int .i64 D.v.n, .string D.t, .int .i64 D.n]) ∧ (∃ p' c' ts', Rh base w' H D.S p' c' ts') ∧ Below base w w' := by
  have H_ha : Hid _ := ha
  clear ha
  have hB := below3' w (.cells #[.int .u8 a.k, .int .i64 a.n] 27) (.cells #[.int .u8 b.k, .int .i64 b.n] 27) (.cells #[.int .u8 0, .int .i64 0, .string ⟨#[]⟩, .int .i64 0] 38)
  have e0 := heap3_0 w (.cells #[.int .u8 a.k, .int .i64 a.n] 27) (.cells #[.int .u8 b.k, .int .i64 b.n] 27) (.cells #[.int .u8 0, .int .i64 0, .string ⟨#[]⟩, .int .i64 0] 38)
  have e1 := heap3_1 w (.cells #[.int .u8 a.k, .int .i64 a.n] 27) (.cells #[.int .u8 b.k, .int .i64 b.n] 27) (.cells #[.int .u8 0, .int .i64 0, .string ⟨#[]⟩, .int .i64 0] 38)
  have e2 := heap3_2 w (.cells #[.int .u8 a.k, .int .i64 a.n] 27) (.cells #[.int .u8 b.k, .int .i64 b.n] 27) (.cells #[.int .u8 0, .int .i64 0, .string ⟨#[]⟩, .int .i64 0] 38)
  obtain ⟨x0, x1⟩ := cell_row2 e0
  obtain ⟨u0, u1⟩ := cell_row2 e1
  have HDq : Hid _ := hD
  clear hD
  go_enter Tryz.func13, Tryz.ntmps13
  go_wp2_with (first
    | (go_at_call 54; refine halt_here ?_))
  unfold Halted
  have hsz : (((w.alloc (.cells #[.int .u8 a.k, .int .i64 a.n] 27)).alloc (.cells #[.int .u8 b.k, .int .i64 b.n] 27)).alloc (.cells #[.int .u8 0, .int .i64 0, .string ⟨#[]⟩, .int .i64 0] 38)).heap.size = w.heap.size + 1 + 1 + 1 := by simp
  generalize hW : ((w.alloc (.cells #[.int .u8 a.k, .int .i64 a.n] 27)).alloc (.cells #[.int .u8 b.k, .int .i64 b.n] 27)).alloc (.cells #[.int .u8 0, .int .i64 0, .string ⟨#[]⟩, .int .i64 0] 38) = W at *
  clear hW
  have hnew := heap_alloc_new W (.cells #[.int .u8 a.k, .int .i64 a.n, .int .u8 b.k, .int .i64 b.n] 27)
  have hBY := below1 W (.cells #[.int .u8 a.k, .int .i64 a.n, .int .u8 b.k, .int .i64 b.n] 27)
  rw [hsz] at hnew
  clear hsz
  have hB' := hB.trans (hBY.mono hB.size)
  have HM := Fine_in (h.below hB') c (hR.at_.below hB') (l := [a, b]) 2 (one_vals2 hnew) (by simp) true (by simp [hf])
  refine Calls.mono HM ?_
  clear HM
  rintro e w1 ⟨rfl, hB1⟩
  have hB1' := hBY.trans (hB1.mono hBY.size)
  have hBw := hB.trans (hB1'.mono hB.size)
  have f0 := (hB1'.block _ (Array.getElem?_eq_some_iff.1 e0).1).trans e0
  have f1 := (hB1'.block _ (Array.getElem?_eq_some_iff.1 e1).1).trans e1
  have f2 := (hB1'.block _ (Array.getElem?_eq_some_iff.1 e2).1).trans e2
  clear x0 x1 u0 u1 e0 e1 e2 hnew hB1 hB1' hBY hB'
  obtain ⟨x0, x1⟩ := cell_row2 f0
  obtain ⟨u0, u1⟩ := cell_row2 f1
  have hR1 := hR.below hBw
  have hbs : base ≤ w1.heap.size := Nat.le_trans hbw hBw.size
  have l2 := (Array.getElem?_eq_some_iff.1 f2).1
  have ha := H_ha.out
  clear H_ha
  obtain ⟨ak, an⟩ := a
  simp only at ha
  subst ha
  simp only [show ((3 : Nat) : Int) = 3 from rfl] at x0 x1
  have n_op8 : ¬ ((op : Int) = 8) := by omega
  have b_op8 : ((op : Int) == 8) = false := by simp; omega
  have n_op9 : ¬ ((op : Int) = 9) := by omega
  have b_op9 : ((op : Int) == 9) = false := by simp; omega
  have n_bk3 : ¬ ((b.k : Int) = 3) := by omega
  have b_bk3 : ((b.k : Int) == 3) = false := by simp; omega
  clear hf h8 h9 hb
  have H1 := fun (W : World) => thrown_in tKind W (d := { t := tKind }) rfl
  unfold tKind at H1
  go_wp2_with (first
    | (go_at_call 55; (with_reducible refine (H1 w1).mono ?_); rintro e y1 ⟨rfl, hY1⟩; have hC1 := hY1; have hr := (hC1.block _ (Array.getElem?_eq_some_iff.1 f2).1).trans f2; obtain ⟨⟨z0, z1, z2, z3⟩, q0, q1, q2, q3⟩ := cell_row4D hr))
  refine bodyPost_ret (results_cell_row (by rfl) _ _ (w.heap.size + 1 + 1) 38 _ _ _ (by rfl) (set4_rowD hr) Tryz.underlying38 (by rfl) infoRd) (by rfl) ?_
  obtain rfl := HDq.out
  exact ⟨rfl, ⟨p, c, ts, (hR1.below hC1).set4 hr _ _ _ _⟩, below_set4 ((hBw.mono hbw).trans (hC1.mono hbs)) (by omega) _ _ _ _⟩


end Go.Proofs.YtgokofomoachaaaGreatDoor

namespace Go.Proofs.YtgokofomoachaaaGreatDoor
set_option linter.unusedVariables false
set_option linter.unusedSimpArgs false
open Go.RowKit

variable {w : World}

theorem leqS (a b : ByteArray) (W : World) : (binOp .leq 9 (.string a) (.string b)).run Tryz.prog W = .ok (.bool (Op.bytesLess a.toList b.toList || a.toList == b.toList)) W := by
  simp [binOp, Op.stringOp, go_sem]

set_option maxRecDepth 20000 in
set_option maxHeartbeats 8000000 in
theorem rBin_t6 {base H : Nat} {S : List Om} {p : Option Addr} {c : Nat} {ts : List Po} (hR : Rh base w H S p c ts) (hbw : base ≤ w.heap.size) (h : Ask w p S) (op : Nat) (a b : Vl) (hop : op = 6) (hf : fineP S [a, b]) (ha : a.k = 3) (hb : b.k = 3) {x y : Om} (hx : leadO S a = some x) (hy : leadO S b = some y) {D : Dv} (hD : D = ⟨S, tru (Op.bytesLess x.s.toList y.s.toList), ⟨#[]⟩, 0⟩) :
    Calls Tryz.prog 13 #[.pointer (some ⟨H, 0, none⟩), .int .u8 op, .agg #[.int .u8 a.k, .int .i64 a.n], .agg #[.int .u8 b.k, .int .i64 b.n], .bool false] w fun e w' => e = .returned (.agg #[.int .u8 D.v.k, .int .i64 D.v.n, .string D.t, .int .i64 D.n]) ∧ (∃ p' c' ts', Rh base w' H D.S p' c' ts') ∧ Below base w w' := by
  subst hop
  simp only [show ((6 : Nat) : Int) = 6 from rfl]
  have hf' := fine_may hf
  have hxs : x.s.size ≤ 4096 := by
    obtain ⟨o', ho', hobj⟩ := may_obj hf' (v := a) (by simp) (by omega)
    rw [hx] at ho'; cases ho'
    have := (hobj.1.1 (by have := (leadO_some hx).2.2.1; omega)).1
    omega
  have hys : y.s.size ≤ 4096 := by
    obtain ⟨o', ho', hobj⟩ := may_obj hf' (v := b) (by simp) (by omega)
    rw [hy] at ho'; cases ho'
    have := (hobj.1.1 (by have := (leadO_some hy).2.2.1; omega)).1
    omega
  clear hf'
  have H_ha : Hid _ := ha
  clear ha
  have H_hb : Hid _ := hb
  clear hb
  have hB := below3' w (.cells #[.int .u8 a.k, .int .i64 a.n] 27) (.cells #[.int .u8 b.k, .int .i64 b.n] 27) (.cells #[.int .u8 0, .int .i64 0, .string ⟨#[]⟩, .int .i64 0] 38)
  have e0 := heap3_0 w (.cells #[.int .u8 a.k, .int .i64 a.n] 27) (.cells #[.int .u8 b.k, .int .i64 b.n] 27) (.cells #[.int .u8 0, .int .i64 0, .string ⟨#[]⟩, .int .i64 0] 38)
  have e1 := heap3_1 w (.cells #[.int .u8 a.k, .int .i64 a.n] 27) (.cells #[.int .u8 b.k, .int .i64 b.n] 27) (.cells #[.int .u8 0, .int .i64 0, .string ⟨#[]⟩, .int .i64 0] 38)
  have e2 := heap3_2 w (.cells #[.int .u8 a.k, .int .i64 a.n] 27) (.cells #[.int .u8 b.k, .int .i64 b.n] 27) (.cells #[.int .u8 0, .int .i64 0, .string ⟨#[]⟩, .int .i64 0] 38)
  obtain ⟨x0, x1⟩ := cell_row2 e0
  obtain ⟨u0, u1⟩ := cell_row2 e1
  have HDq : Hid _ := hD
  clear hD
  go_enter Tryz.func13, Tryz.ntmps13
  go_wp2_with (first
    | (go_at_call 54; refine halt_here ?_))
  unfold Halted
  have hsz : (((w.alloc (.cells #[.int .u8 a.k, .int .i64 a.n] 27)).alloc (.cells #[.int .u8 b.k, .int .i64 b.n] 27)).alloc (.cells #[.int .u8 0, .int .i64 0, .string ⟨#[]⟩, .int .i64 0] 38)).heap.size = w.heap.size + 1 + 1 + 1 := by simp
  generalize hW : ((w.alloc (.cells #[.int .u8 a.k, .int .i64 a.n] 27)).alloc (.cells #[.int .u8 b.k, .int .i64 b.n] 27)).alloc (.cells #[.int .u8 0, .int .i64 0, .string ⟨#[]⟩, .int .i64 0] 38) = W at *
  clear hW
  have hnew := heap_alloc_new W (.cells #[.int .u8 a.k, .int .i64 a.n, .int .u8 b.k, .int .i64 b.n] 27)
  have hBY := below1 W (.cells #[.int .u8 a.k, .int .i64 a.n, .int .u8 b.k, .int .i64 b.n] 27)
  rw [hsz] at hnew
  clear hsz
  have hB' := hB.trans (hBY.mono hB.size)
  have HM := Fine_in (h.below hB') c (hR.at_.below hB') (l := [a, b]) 2 (one_vals2 hnew) (by simp) true (by simp [hf])
  refine Calls.mono HM ?_
  clear HM
  rintro e w1 ⟨rfl, hB1⟩
  have hB1' := hBY.trans (hB1.mono hBY.size)
  have hBw := hB.trans (hB1'.mono hB.size)
  have f0 := (hB1'.block _ (Array.getElem?_eq_some_iff.1 e0).1).trans e0
  have f1 := (hB1'.block _ (Array.getElem?_eq_some_iff.1 e1).1).trans e1
  have f2 := (hB1'.block _ (Array.getElem?_eq_some_iff.1 e2).1).trans e2
  clear x0 x1 u0 u1 e0 e1 e2 hnew hB1 hB1' hBY hB'
  obtain ⟨x0, x1⟩ := cell_row2 f0
  obtain ⟨u0, u1⟩ := cell_row2 f1
  have hR1 := hR.below hBw
  have hbs : base ≤ w1.heap.size := Nat.le_trans hbw hBw.size
  have l2 := (Array.getElem?_eq_some_iff.1 f2).1
  have ha := H_ha.out
  clear H_ha
  have hb := H_hb.out
  clear H_hb
  obtain ⟨ak, an⟩ := a
  simp only at ha
  subst ha
  obtain ⟨bk, bn⟩ := b
  simp only at hb
  subst hb
  simp only [show ((3 : Nat) : Int) = 3 from rfl] at x0 x1 u0 u1 f0 f1
  have HX := robj_in (h.below hBw) c hR1.at_ ⟨3, an⟩ hx
  have HY := fun (W : World) (hb : Below w1.heap.size w1 W) => robj_in (h.below (hBw.trans (hb.mono hBw.size))) c (hR1.at_.below hb) ⟨3, bn⟩ hy
  simp only [show ((3 : Nat) : Int) = 3 from rfl] at HX HY
  have HF1 := fldO1
  have hsm : ¬ (9223372036854775807 < x.s.size + y.s.size) := by omega
  clear hf
  go_wp2_with (first
    | (go_at_call 59; (with_reducible refine HX.mono ?_); clear HX; rintro e y1 ⟨q1, c1, rfl, -, -, hY1⟩; obtain ⟨v2, v3⟩ := cell_row2 ((hY1.block _ (Array.getElem?_eq_some_iff.1 f1).1).trans f1); have HY1 := HY y1 hY1; clear HY)
    | (go_at_call 59; (with_reducible refine HY1.mono ?_); clear HY1; rintro e y2 ⟨q2, c2, rfl, -, -, hY2⟩; refine halt_here ?_))
  unfold Halted
  have hC2 := hY1.trans (hY2.mono hY1.size)
  have g2 := (hC2.block _ l2).trans f2
  have l3 := (Array.getElem?_eq_some_iff.1 g2).1
  have hR2 := hR1.below hC2
  have hBw2 := hBw.trans (hC2.mono hBw.size)
  have hbs2 : base ≤ y2.heap.size := Nat.le_trans hbs hC2.size
  clear x0 x1 u0 u1 f0 f1 f2 v2 v3 hxs hys
  have HBo := fun (W : World) => rBool_in (Op.bytesLess x.s.toList y.s.toList) W
  go_wp2_with (first
    | (go_at_call 56; (with_reducible refine (HBo _).mono ?_); rintro e y3 ⟨rfl, hY3⟩; have hr := (hY3.block _ l3).trans g2; obtain ⟨⟨z0, z1, z2, z3⟩, q0, q1, q2, q3⟩ := cell_row4D hr))
  refine bodyPost_ret (results_cell_row (by rfl) _ _ (w.heap.size + 1 + 1) 38 _ _ _ (by rfl) (set4_rowD hr) Tryz.underlying38 (by rfl) infoRd) (by rfl) ?_
  obtain rfl := HDq.out
  exact ⟨rfl, ⟨p, c, ts, (hR2.below hY3).set4 hr _ _ _ _⟩, below_set4 ((hBw2.mono hbw).trans (hY3.mono hbs2)) (by omega) _ _ _ _⟩

set_option maxRecDepth 20000 in
set_option maxHeartbeats 8000000 in
theorem rBin_t7 {base H : Nat} {S : List Om} {p : Option Addr} {c : Nat} {ts : List Po} (hR : Rh base w H S p c ts) (hbw : base ≤ w.heap.size) (h : Ask w p S) (op : Nat) (a b : Vl) (hop : op = 7) (hf : fineP S [a, b]) (ha : a.k = 3) (hb : b.k = 3) {x y : Om} (hx : leadO S a = some x) (hy : leadO S b = some y) {D : Dv} (hD : D = ⟨S, tru (Op.bytesLess x.s.toList y.s.toList || x.s.toList == y.s.toList), ⟨#[]⟩, 0⟩) :
    Calls Tryz.prog 13 #[.pointer (some ⟨H, 0, none⟩), .int .u8 op, .agg #[.int .u8 a.k, .int .i64 a.n], .agg #[.int .u8 b.k, .int .i64 b.n], .bool false] w fun e w' => e = .returned (.agg #[.int .u8 D.v.k, .int .i64 D.v.n, .string D.t, .int .i64 D.n]) ∧ (∃ p' c' ts', Rh base w' H D.S p' c' ts') ∧ Below base w w' := by
  subst hop
  simp only [show ((7 : Nat) : Int) = 7 from rfl]
  have hf' := fine_may hf
  have hxs : x.s.size ≤ 4096 := by
    obtain ⟨o', ho', hobj⟩ := may_obj hf' (v := a) (by simp) (by omega)
    rw [hx] at ho'; cases ho'
    have := (hobj.1.1 (by have := (leadO_some hx).2.2.1; omega)).1
    omega
  have hys : y.s.size ≤ 4096 := by
    obtain ⟨o', ho', hobj⟩ := may_obj hf' (v := b) (by simp) (by omega)
    rw [hy] at ho'; cases ho'
    have := (hobj.1.1 (by have := (leadO_some hy).2.2.1; omega)).1
    omega
  clear hf'
  have H_ha : Hid _ := ha
  clear ha
  have H_hb : Hid _ := hb
  clear hb
  have hB := below3' w (.cells #[.int .u8 a.k, .int .i64 a.n] 27) (.cells #[.int .u8 b.k, .int .i64 b.n] 27) (.cells #[.int .u8 0, .int .i64 0, .string ⟨#[]⟩, .int .i64 0] 38)
  have e0 := heap3_0 w (.cells #[.int .u8 a.k, .int .i64 a.n] 27) (.cells #[.int .u8 b.k, .int .i64 b.n] 27) (.cells #[.int .u8 0, .int .i64 0, .string ⟨#[]⟩, .int .i64 0] 38)
  have e1 := heap3_1 w (.cells #[.int .u8 a.k, .int .i64 a.n] 27) (.cells #[.int .u8 b.k, .int .i64 b.n] 27) (.cells #[.int .u8 0, .int .i64 0, .string ⟨#[]⟩, .int .i64 0] 38)
  have e2 := heap3_2 w (.cells #[.int .u8 a.k, .int .i64 a.n] 27) (.cells #[.int .u8 b.k, .int .i64 b.n] 27) (.cells #[.int .u8 0, .int .i64 0, .string ⟨#[]⟩, .int .i64 0] 38)
  obtain ⟨x0, x1⟩ := cell_row2 e0
  obtain ⟨u0, u1⟩ := cell_row2 e1
  have HDq : Hid _ := hD
  clear hD
  go_enter Tryz.func13, Tryz.ntmps13
  go_wp2_with (first
    | (go_at_call 54; refine halt_here ?_))
  unfold Halted
  have hsz : (((w.alloc (.cells #[.int .u8 a.k, .int .i64 a.n] 27)).alloc (.cells #[.int .u8 b.k, .int .i64 b.n] 27)).alloc (.cells #[.int .u8 0, .int .i64 0, .string ⟨#[]⟩, .int .i64 0] 38)).heap.size = w.heap.size + 1 + 1 + 1 := by simp
  generalize hW : ((w.alloc (.cells #[.int .u8 a.k, .int .i64 a.n] 27)).alloc (.cells #[.int .u8 b.k, .int .i64 b.n] 27)).alloc (.cells #[.int .u8 0, .int .i64 0, .string ⟨#[]⟩, .int .i64 0] 38) = W at *
  clear hW
  have hnew := heap_alloc_new W (.cells #[.int .u8 a.k, .int .i64 a.n, .int .u8 b.k, .int .i64 b.n] 27)
  have hBY := below1 W (.cells #[.int .u8 a.k, .int .i64 a.n, .int .u8 b.k, .int .i64 b.n] 27)
  rw [hsz] at hnew
  clear hsz
  have hB' := hB.trans (hBY.mono hB.size)
  have HM := Fine_in (h.below hB') c (hR.at_.below hB') (l := [a, b]) 2 (one_vals2 hnew) (by simp) true (by simp [hf])
  refine Calls.mono HM ?_
  clear HM
  rintro e w1 ⟨rfl, hB1⟩
  have hB1' := hBY.trans (hB1.mono hBY.size)
  have hBw := hB.trans (hB1'.mono hB.size)
  have f0 := (hB1'.block _ (Array.getElem?_eq_some_iff.1 e0).1).trans e0
  have f1 := (hB1'.block _ (Array.getElem?_eq_some_iff.1 e1).1).trans e1
  have f2 := (hB1'.block _ (Array.getElem?_eq_some_iff.1 e2).1).trans e2
  clear x0 x1 u0 u1 e0 e1 e2 hnew hB1 hB1' hBY hB'
  obtain ⟨x0, x1⟩ := cell_row2 f0
  obtain ⟨u0, u1⟩ := cell_row2 f1
  have hR1 := hR.below hBw
  have hbs : base ≤ w1.heap.size := Nat.le_trans hbw hBw.size
  have l2 := (Array.getElem?_eq_some_iff.1 f2).1
  have ha := H_ha.out
  clear H_ha
  have hb := H_hb.out
  clear H_hb
  obtain ⟨ak, an⟩ := a
  simp only at ha
  subst ha
  obtain ⟨bk, bn⟩ := b
  simp only at hb
  subst hb
  simp only [show ((3 : Nat) : Int) = 3 from rfl] at x0 x1 u0 u1 f0 f1
  have HX := robj_in (h.below hBw) c hR1.at_ ⟨3, an⟩ hx
  have HY := fun (W : World) (hb : Below w1.heap.size w1 W) => robj_in (h.below (hBw.trans (hb.mono hBw.size))) c (hR1.at_.below hb) ⟨3, bn⟩ hy
  simp only [show ((3 : Nat) : Int) = 3 from rfl] at HX HY
  have HF1 := fldO1
  have hsm : ¬ (9223372036854775807 < x.s.size + y.s.size) := by omega
  clear hf
  go_wp2_with (first
    | (go_at_call 59; (with_reducible refine HX.mono ?_); clear HX; rintro e y1 ⟨q1, c1, rfl, -, -, hY1⟩; obtain ⟨v2, v3⟩ := cell_row2 ((hY1.block _ (Array.getElem?_eq_some_iff.1 f1).1).trans f1); have HY1 := HY y1 hY1; clear HY)
    | (go_at_call 59; (with_reducible refine HY1.mono ?_); clear HY1; rintro e y2 ⟨q2, c2, rfl, -, -, hY2⟩; refine halt_here ?_))
  unfold Halted
  have hC2 := hY1.trans (hY2.mono hY1.size)
  have g2 := (hC2.block _ l2).trans f2
  have l3 := (Array.getElem?_eq_some_iff.1 g2).1
  have hR2 := hR1.below hC2
  have hBw2 := hBw.trans (hC2.mono hBw.size)
  have hbs2 : base ≤ y2.heap.size := Nat.le_trans hbs hC2.size
  clear x0 x1 u0 u1 f0 f1 f2 v2 v3 hxs hys
  have HLE := leqS
  have HBo := fun (W : World) => rBool_in (Op.bytesLess x.s.toList y.s.toList || x.s.toList == y.s.toList) W
  go_wp2_with (first
    | (go_at_call 56; (with_reducible refine (HBo _).mono ?_); rintro e y3 ⟨rfl, hY3⟩; have hr := (hY3.block _ l3).trans g2; obtain ⟨⟨z0, z1, z2, z3⟩, q0, q1, q2, q3⟩ := cell_row4D hr))
  refine bodyPost_ret (results_cell_row (by rfl) _ _ (w.heap.size + 1 + 1) 38 _ _ _ (by rfl) (set4_rowD hr) Tryz.underlying38 (by rfl) infoRd) (by rfl) ?_
  obtain rfl := HDq.out
  exact ⟨rfl, ⟨p, c, ts, (hR2.below hY3).set4 hr _ _ _ _⟩, below_set4 ((hBw2.mono hbw).trans (hY3.mono hbs2)) (by omega) _ _ _ _⟩

set_option maxRecDepth 20000 in
set_option maxHeartbeats 8000000 in
theorem rBin_tk {base H : Nat} {S : List Om} {p : Option Addr} {c : Nat} {ts : List Po} (hR : Rh base w H S p c ts) (hbw : base ≤ w.heap.size) (h : Ask w p S) (op : Nat) (a b : Vl) (h8 : op ≠ 8) (h9 : op ≠ 9) (h1 : op ≠ 1) (h6 : op ≠ 6) (h7 : op ≠ 7) (hf : fineP S [a, b]) (ha : a.k = 3) (hb : b.k = 3) {x y : Om} (hx : leadO S a = some x) (hy : leadO S b = some y) {D : Dv} (hD : D = refD S) :
    Calls Tryz.prog 13 #[.pointer (some ⟨H, 0, none⟩), .int .u8 op, .agg #[.int .u8 a.k, .int .i64 a.n], .agg #[.int .u8 b.k, .int .i64 b.n], .bool false] w fun e w' => e = .returned (.agg #[.int .u8 D.v.k, .int .i64 D.v.n, .string D.t, .int .i64 D.n]) ∧ (∃ p' c' ts', Rh base w' H D.S p' c' ts') ∧ Below base w w' := by
  have hf' := fine_may hf
  have hxs : x.s.size ≤ 4096 := by
    obtain ⟨o', ho', hobj⟩ := may_obj hf' (v := a) (by simp) (by omega)
    rw [hx] at ho'; cases ho'
    have := (hobj.1.1 (by have := (leadO_some hx).2.2.1; omega)).1
    omega
  have hys : y.s.size ≤ 4096 := by
    obtain ⟨o', ho', hobj⟩ := may_obj hf' (v := b) (by simp) (by omega)
    rw [hy] at ho'; cases ho'
    have := (hobj.1.1 (by have := (leadO_some hy).2.2.1; omega)).1
    omega
  clear hf'
  have H_ha : Hid _ := ha
  clear ha
  have H_hb : Hid _ := hb
  clear hb
  have hB := below3' w (.cells #[.int .u8 a.k, .int .i64 a.n] 27) (.cells #[.int .u8 b.k, .int .i64 b.n] 27) (.cells #[.int .u8 0, .int .i64 0, .string ⟨#[]⟩, .int .i64 0] 38)
  have e0 := heap3_0 w (.cells #[.int .u8 a.k, .int .i64 a.n] 27) (.cells #[.int .u8 b.k, .int .i64 b.n] 27) (.cells #[.int .u8 0, .int .i64 0, .string ⟨#[]⟩, .int .i64 0] 38)
  have e1 := heap3_1 w (.cells #[.int .u8 a.k, .int .i64 a.n] 27) (.cells #[.int .u8 b.k, .int .i64 b.n] 27) (.cells #[.int .u8 0, .int .i64 0, .string ⟨#[]⟩, .int .i64 0] 38)
  have e2 := heap3_2 w (.cells #[.int .u8 a.k, .int .i64 a.n] 27) (.cells #[.int .u8 b.k, .int .i64 b.n] 27) (.cells #[.int .u8 0, .int .i64 0, .string ⟨#[]⟩, .int .i64 0] 38)
  obtain ⟨x0, x1⟩ := cell_row2 e0
  obtain ⟨u0, u1⟩ := cell_row2 e1
  have HDq : Hid _ := hD
  clear hD
  go_enter Tryz.func13, Tryz.ntmps13
  go_wp2_with (first
    | (go_at_call 54; refine halt_here ?_))
  unfold Halted
  have hsz : (((w.alloc (.cells #[.int .u8 a.k, .int .i64 a.n] 27)).alloc (.cells #[.int .u8 b.k, .int .i64 b.n] 27)).alloc (.cells #[.int .u8 0, .int .i64 0, .string ⟨#[]⟩, .int .i64 0] 38)).heap.size = w.heap.size + 1 + 1 + 1 := by simp
  generalize hW : ((w.alloc (.cells #[.int .u8 a.k, .int .i64 a.n] 27)).alloc (.cells #[.int .u8 b.k, .int .i64 b.n] 27)).alloc (.cells #[.int .u8 0, .int .i64 0, .string ⟨#[]⟩, .int .i64 0] 38) = W at *
  clear hW
  have hnew := heap_alloc_new W (.cells #[.int .u8 a.k, .int .i64 a.n, .int .u8 b.k, .int .i64 b.n] 27)
  have hBY := below1 W (.cells #[.int .u8 a.k, .int .i64 a.n, .int .u8 b.k, .int .i64 b.n] 27)
  rw [hsz] at hnew
  clear hsz
  have hB' := hB.trans (hBY.mono hB.size)
  have HM := Fine_in (h.below hB') c (hR.at_.below hB') (l := [a, b]) 2 (one_vals2 hnew) (by simp) true (by simp [hf])
  refine Calls.mono HM ?_
  clear HM
  rintro e w1 ⟨rfl, hB1⟩
  have hB1' := hBY.trans (hB1.mono hBY.size)
  have hBw := hB.trans (hB1'.mono hB.size)
  have f0 := (hB1'.block _ (Array.getElem?_eq_some_iff.1 e0).1).trans e0
  have f1 := (hB1'.block _ (Array.getElem?_eq_some_iff.1 e1).1).trans e1
  have f2 := (hB1'.block _ (Array.getElem?_eq_some_iff.1 e2).1).trans e2
  clear x0 x1 u0 u1 e0 e1 e2 hnew hB1 hB1' hBY hB'
  obtain ⟨x0, x1⟩ := cell_row2 f0
  obtain ⟨u0, u1⟩ := cell_row2 f1
  have hR1 := hR.below hBw
  have hbs : base ≤ w1.heap.size := Nat.le_trans hbw hBw.size
  have l2 := (Array.getElem?_eq_some_iff.1 f2).1
  have ha := H_ha.out
  clear H_ha
  have hb := H_hb.out
  clear H_hb
  obtain ⟨ak, an⟩ := a
  simp only at ha
  subst ha
  obtain ⟨bk, bn⟩ := b
  simp only at hb
  subst hb
  simp only [show ((3 : Nat) : Int) = 3 from rfl] at x0 x1 u0 u1 f0 f1
  have HX := robj_in (h.below hBw) c hR1.at_ ⟨3, an⟩ hx
  have HY := fun (W : World) (hb : Below w1.heap.size w1 W) => robj_in (h.below (hBw.trans (hb.mono hBw.size))) c (hR1.at_.below hb) ⟨3, bn⟩ hy
  simp only [show ((3 : Nat) : Int) = 3 from rfl] at HX HY
  have HF1 := fldO1
  have hsm : ¬ (9223372036854775807 < x.s.size + y.s.size) := by omega
  have n_op8 : ¬ ((op : Int) = 8) := by omega
  have b_op8 : ((op : Int) == 8) = false := by simp; omega
  have n_op9 : ¬ ((op : Int) = 9) := by omega
  have b_op9 : ((op : Int) == 9) = false := by simp; omega
  have n_op1 : ¬ ((op : Int) = 1) := by omega
  have b_op1 : ((op : Int) == 1) = false := by simp; omega
  have n_op6 : ¬ ((op : Int) = 6) := by omega
  have b_op6 : ((op : Int) == 6) = false := by simp; omega
  have n_op7 : ¬ ((op : Int) = 7) := by omega
  have b_op7 : ((op : Int) == 7) = false := by simp; omega
  clear hf h8 h9 h1 h6 h7
  go_wp2_with (first
    | (go_at_call 59; (with_reducible refine HX.mono ?_); clear HX; rintro e y1 ⟨q1, c1, rfl, -, -, hY1⟩; obtain ⟨v2, v3⟩ := cell_row2 ((hY1.block _ (Array.getElem?_eq_some_iff.1 f1).1).trans f1); have HY1 := HY y1 hY1; clear HY)
    | (go_at_call 59; (with_reducible refine HY1.mono ?_); clear HY1; rintro e y2 ⟨q2, c2, rfl, -, -, hY2⟩; refine halt_here ?_))
  unfold Halted
  have hC2 := hY1.trans (hY2.mono hY1.size)
  have g2 := (hC2.block _ l2).trans f2
  have l3 := (Array.getElem?_eq_some_iff.1 g2).1
  have hR2 := hR1.below hC2
  have hBw2 := hBw.trans (hC2.mono hBw.size)
  have hbs2 : base ≤ y2.heap.size := Nat.le_trans hbs hC2.size
  clear x0 x1 u0 u1 f0 f1 f2 v2 v3 hxs hys
  have H1 := fun (W : World) => thrown_in tKind W (d := { t := tKind }) rfl
  unfold tKind at H1
  go_wp2_with (first
    | (go_at_call 55; (with_reducible refine (H1 _).mono ?_); rintro e y3 ⟨rfl, hY3⟩; have hr := (hY3.block _ l3).trans g2; obtain ⟨⟨z0, z1, z2, z3⟩, q0, q1, q2, q3⟩ := cell_row4D hr))
  refine bodyPost_ret (results_cell_row (by rfl) _ _ (w.heap.size + 1 + 1) 38 _ _ _ (by rfl) (set4_rowD hr) Tryz.underlying38 (by rfl) infoRd) (by rfl) ?_
  obtain rfl := HDq.out
  exact ⟨rfl, ⟨p, c, ts, (hR2.below hY3).set4 hr _ _ _ _⟩, below_set4 ((hBw2.mono hbw).trans (hY3.mono hbs2)) (by omega) _ _ _ _⟩

set_option maxRecDepth 20000 in
set_option maxHeartbeats 8000000 in
theorem rBin_far {base H : Nat} {S : List Om} {p : Option Addr} {c : Nat} {ts : List Po} (hR : Rh base w H S p c ts) (hbw : base ≤ w.heap.size) (h : Ask w p S) (op : Nat) (a b : Vl) (hop : op = 1) (hf : fineP S [a, b]) (ha : a.k = 3) (hb : b.k = 3) {x y : Om} (hx : leadO S a = some x) (hy : leadO S b = some y) (hg : 4096 < (x.s ++ y.s).size) {D : Dv} (hD : D = ⟨S, ⟨0, 0⟩, tGreat, 0⟩) :
    Calls Tryz.prog 13 #[.pointer (some ⟨H, 0, none⟩), .int .u8 op, .agg #[.int .u8 a.k, .int .i64 a.n], .agg #[.int .u8 b.k, .int .i64 b.n], .bool false] w fun e w' => e = .returned (.agg #[.int .u8 D.v.k, .int .i64 D.v.n, .string D.t, .int .i64 D.n]) ∧ (∃ p' c' ts', Rh base w' H D.S p' c' ts') ∧ Below base w w' := by
  subst hop
  simp only [show ((1 : Nat) : Int) = 1 from rfl]
  have hf' := fine_may hf
  have hxs : x.s.size ≤ 4096 := by
    obtain ⟨o', ho', hobj⟩ := may_obj hf' (v := a) (by simp) (by omega)
    rw [hx] at ho'; cases ho'
    have := (hobj.1.1 (by have := (leadO_some hx).2.2.1; omega)).1
    omega
  have hys : y.s.size ≤ 4096 := by
    obtain ⟨o', ho', hobj⟩ := may_obj hf' (v := b) (by simp) (by omega)
    rw [hy] at ho'; cases ho'
    have := (hobj.1.1 (by have := (leadO_some hy).2.2.1; omega)).1
    omega
  clear hf'
  have H_ha : Hid _ := ha
  clear ha
  have H_hb : Hid _ := hb
  clear hb
  have hB := below3' w (.cells #[.int .u8 a.k, .int .i64 a.n] 27) (.cells #[.int .u8 b.k, .int .i64 b.n] 27) (.cells #[.int .u8 0, .int .i64 0, .string ⟨#[]⟩, .int .i64 0] 38)
  have e0 := heap3_0 w (.cells #[.int .u8 a.k, .int .i64 a.n] 27) (.cells #[.int .u8 b.k, .int .i64 b.n] 27) (.cells #[.int .u8 0, .int .i64 0, .string ⟨#[]⟩, .int .i64 0] 38)
  have e1 := heap3_1 w (.cells #[.int .u8 a.k, .int .i64 a.n] 27) (.cells #[.int .u8 b.k, .int .i64 b.n] 27) (.cells #[.int .u8 0, .int .i64 0, .string ⟨#[]⟩, .int .i64 0] 38)
  have e2 := heap3_2 w (.cells #[.int .u8 a.k, .int .i64 a.n] 27) (.cells #[.int .u8 b.k, .int .i64 b.n] 27) (.cells #[.int .u8 0, .int .i64 0, .string ⟨#[]⟩, .int .i64 0] 38)
  obtain ⟨x0, x1⟩ := cell_row2 e0
  obtain ⟨u0, u1⟩ := cell_row2 e1
  have HDq : Hid _ := hD
  clear hD
  go_enter Tryz.func13, Tryz.ntmps13
  go_wp2_with (first
    | (go_at_call 54; refine halt_here ?_))
  unfold Halted
  have hsz : (((w.alloc (.cells #[.int .u8 a.k, .int .i64 a.n] 27)).alloc (.cells #[.int .u8 b.k, .int .i64 b.n] 27)).alloc (.cells #[.int .u8 0, .int .i64 0, .string ⟨#[]⟩, .int .i64 0] 38)).heap.size = w.heap.size + 1 + 1 + 1 := by simp
  generalize hW : ((w.alloc (.cells #[.int .u8 a.k, .int .i64 a.n] 27)).alloc (.cells #[.int .u8 b.k, .int .i64 b.n] 27)).alloc (.cells #[.int .u8 0, .int .i64 0, .string ⟨#[]⟩, .int .i64 0] 38) = W at *
  clear hW
  have hnew := heap_alloc_new W (.cells #[.int .u8 a.k, .int .i64 a.n, .int .u8 b.k, .int .i64 b.n] 27)
  have hBY := below1 W (.cells #[.int .u8 a.k, .int .i64 a.n, .int .u8 b.k, .int .i64 b.n] 27)
  rw [hsz] at hnew
  clear hsz
  have hB' := hB.trans (hBY.mono hB.size)
  have HM := Fine_in (h.below hB') c (hR.at_.below hB') (l := [a, b]) 2 (one_vals2 hnew) (by simp) true (by simp [hf])
  refine Calls.mono HM ?_
  clear HM
  rintro e w1 ⟨rfl, hB1⟩
  have hB1' := hBY.trans (hB1.mono hBY.size)
  have hBw := hB.trans (hB1'.mono hB.size)
  have f0 := (hB1'.block _ (Array.getElem?_eq_some_iff.1 e0).1).trans e0
  have f1 := (hB1'.block _ (Array.getElem?_eq_some_iff.1 e1).1).trans e1
  have f2 := (hB1'.block _ (Array.getElem?_eq_some_iff.1 e2).1).trans e2
  clear x0 x1 u0 u1 e0 e1 e2 hnew hB1 hB1' hBY hB'
  obtain ⟨x0, x1⟩ := cell_row2 f0
  obtain ⟨u0, u1⟩ := cell_row2 f1
  have hR1 := hR.below hBw
  have hbs : base ≤ w1.heap.size := Nat.le_trans hbw hBw.size
  have l2 := (Array.getElem?_eq_some_iff.1 f2).1
  have ha := H_ha.out
  clear H_ha
  have hb := H_hb.out
  clear H_hb
  obtain ⟨ak, an⟩ := a
  simp only at ha
  subst ha
  obtain ⟨bk, bn⟩ := b
  simp only at hb
  subst hb
  simp only [show ((3 : Nat) : Int) = 3 from rfl] at x0 x1 u0 u1 f0 f1
  have HX := robj_in (h.below hBw) c hR1.at_ ⟨3, an⟩ hx
  have HY := fun (W : World) (hb : Below w1.heap.size w1 W) => robj_in (h.below (hBw.trans (hb.mono hBw.size))) c (hR1.at_.below hb) ⟨3, bn⟩ hy
  simp only [show ((3 : Nat) : Int) = 3 from rfl] at HX HY
  have HF1 := fldO1
  have hsm : ¬ (9223372036854775807 < x.s.size + y.s.size) := by omega
  clear hf
  go_wp2_with (first
    | (go_at_call 59; (with_reducible refine HX.mono ?_); clear HX; rintro e y1 ⟨q1, c1, rfl, -, -, hY1⟩; obtain ⟨v2, v3⟩ := cell_row2 ((hY1.block _ (Array.getElem?_eq_some_iff.1 f1).1).trans f1); have HY1 := HY y1 hY1; clear HY)
    | (go_at_call 59; (with_reducible refine HY1.mono ?_); clear HY1; rintro e y2 ⟨q2, c2, rfl, -, -, hY2⟩; refine halt_here ?_))
  unfold Halted
  have hC2 := hY1.trans (hY2.mono hY1.size)
  have g2 := (hC2.block _ l2).trans f2
  have l3 := (Array.getElem?_eq_some_iff.1 g2).1
  have hR2 := hR1.below hC2
  have hBw2 := hBw.trans (hC2.mono hBw.size)
  have hbs2 : base ≤ y2.heap.size := Nat.le_trans hbs hC2.size
  clear x0 x1 u0 u1 f0 f1 f2 v2 v3 hxs hys
  have H1 := fun (W : World) => rText_far H (x.s ++ y.s) hg W
  clear hg
  go_wp2_with (first
    | (go_at_call 25; (with_reducible refine (H1 _).mono ?_); rintro e y3 ⟨rfl, hY3⟩; have hr := (hY3.block _ l3).trans g2; obtain ⟨⟨z0, z1, z2, z3⟩, q0, q1, q2, q3⟩ := cell_row4D hr))
  refine bodyPost_ret (results_cell_row (by rfl) _ _ (w.heap.size + 1 + 1) 38 _ _ _ (by rfl) (set4_rowD hr) Tryz.underlying38 (by rfl) infoRd) (by rfl) ?_
  obtain rfl := HDq.out
  exact ⟨rfl, ⟨p, c, ts, (hR2.below hY3).set4 hr _ _ _ _⟩, below_set4 ((hBw2.mono hbw).trans (hY3.mono hbs2)) (by omega) _ _ _ _⟩

set_option maxRecDepth 20000 in
set_option maxHeartbeats 8000000 in
theorem rBin_add {base H : Nat} {S : List Om} {p : Option Addr} {c : Nat} {ts : List Po} (hR : Rh base w H S p c ts) (hbw : base ≤ w.heap.size) (h : Ask w p S) (op : Nat) (a b : Vl) (hop : op = 1) (hf : fineP S [a, b]) (ha : a.k = 3) (hb : b.k = 3) {x y : Om} (hx : leadO S a = some x) (hy : leadO S b = some y) (hg : ¬ 4096 < (x.s ++ y.s).size) {D : Dv} (hD : D = ⟨S ++ [txtO (x.s ++ y.s)], ⟨3, (S.length : Int) + 1⟩, ⟨#[]⟩, (wordsO (txtO (x.s ++ y.s)) : Nat)⟩) :
    Calls Tryz.prog 13 #[.pointer (some ⟨H, 0, none⟩), .int .u8 op, .agg #[.int .u8 a.k, .int .i64 a.n], .agg #[.int .u8 b.k, .int .i64 b.n], .bool false] w fun e w' => e = .returned (.agg #[.int .u8 D.v.k, .int .i64 D.v.n, .string D.t, .int .i64 D.n]) ∧ (∃ p' c' ts', Rh base w' H D.S p' c' ts') ∧ Below base w w' := by
  subst hop
  simp only [show ((1 : Nat) : Int) = 1 from rfl]
  have hf' := fine_may hf
  have hxs : x.s.size ≤ 4096 := by
    obtain ⟨o', ho', hobj⟩ := may_obj hf' (v := a) (by simp) (by omega)
    rw [hx] at ho'; cases ho'
    have := (hobj.1.1 (by have := (leadO_some hx).2.2.1; omega)).1
    omega
  have hys : y.s.size ≤ 4096 := by
    obtain ⟨o', ho', hobj⟩ := may_obj hf' (v := b) (by simp) (by omega)
    rw [hy] at ho'; cases ho'
    have := (hobj.1.1 (by have := (leadO_some hy).2.2.1; omega)).1
    omega
  clear hf'
  have H_ha : Hid _ := ha
  clear ha
  have H_hb : Hid _ := hb
  clear hb
  have hB := below3' w (.cells #[.int .u8 a.k, .int .i64 a.n] 27) (.cells #[.int .u8 b.k, .int .i64 b.n] 27) (.cells #[.int .u8 0, .int .i64 0, .string ⟨#[]⟩, .int .i64 0] 38)
  have e0 := heap3_0 w (.cells #[.int .u8 a.k, .int .i64 a.n] 27) (.cells #[.int .u8 b.k, .int .i64 b.n] 27) (.cells #[.int .u8 0, .int .i64 0, .string ⟨#[]⟩, .int .i64 0] 38)
  have e1 := heap3_1 w (.cells #[.int .u8 a.k, .int .i64 a.n] 27) (.cells #[.int .u8 b.k, .int .i64 b.n] 27) (.cells #[.int .u8 0, .int .i64 0, .string ⟨#[]⟩, .int .i64 0] 38)
  have e2 := heap3_2 w (.cells #[.int .u8 a.k, .int .i64 a.n] 27) (.cells #[.int .u8 b.k, .int .i64 b.n] 27) (.cells #[.int .u8 0, .int .i64 0, .string ⟨#[]⟩, .int .i64 0] 38)
  obtain ⟨x0, x1⟩ := cell_row2 e0
  obtain ⟨u0, u1⟩ := cell_row2 e1
  have HDq : Hid _ := hD
  clear hD
  go_enter Tryz.func13, Tryz.ntmps13
  go_wp2_with (first
    | (go_at_call 54; refine halt_here ?_))
  unfold Halted
  have hsz : (((w.alloc (.cells #[.int .u8 a.k, .int .i64 a.n] 27)).alloc (.cells #[.int .u8 b.k, .int .i64 b.n] 27)).alloc (.cells #[.int .u8 0, .int .i64 0, .string ⟨#[]⟩, .int .i64 0] 38)).heap.size = w.heap.size + 1 + 1 + 1 := by simp
  generalize hW : ((w.alloc (.cells #[.int .u8 a.k, .int .i64 a.n] 27)).alloc (.cells #[.int .u8 b.k, .int .i64 b.n] 27)).alloc (.cells #[.int .u8 0, .int .i64 0, .string ⟨#[]⟩, .int .i64 0] 38) = W at *
  clear hW
  have hnew := heap_alloc_new W (.cells #[.int .u8 a.k, .int .i64 a.n, .int .u8 b.k, .int .i64 b.n] 27)
  have hBY := below1 W (.cells #[.int .u8 a.k, .int .i64 a.n, .int .u8 b.k, .int .i64 b.n] 27)
  rw [hsz] at hnew
  clear hsz
  have hB' := hB.trans (hBY.mono hB.size)
  have HM := Fine_in (h.below hB') c (hR.at_.below hB') (l := [a, b]) 2 (one_vals2 hnew) (by simp) true (by simp [hf])
  refine Calls.mono HM ?_
  clear HM
  rintro e w1 ⟨rfl, hB1⟩
  have hB1' := hBY.trans (hB1.mono hBY.size)
  have hBw := hB.trans (hB1'.mono hB.size)
  have f0 := (hB1'.block _ (Array.getElem?_eq_some_iff.1 e0).1).trans e0
  have f1 := (hB1'.block _ (Array.getElem?_eq_some_iff.1 e1).1).trans e1
  have f2 := (hB1'.block _ (Array.getElem?_eq_some_iff.1 e2).1).trans e2
  clear x0 x1 u0 u1 e0 e1 e2 hnew hB1 hB1' hBY hB'
  obtain ⟨x0, x1⟩ := cell_row2 f0
  obtain ⟨u0, u1⟩ := cell_row2 f1
  have hR1 := hR.below hBw
  have hbs : base ≤ w1.heap.size := Nat.le_trans hbw hBw.size
  have l2 := (Array.getElem?_eq_some_iff.1 f2).1
  have ha := H_ha.out
  clear H_ha
  have hb := H_hb.out
  clear H_hb
  obtain ⟨ak, an⟩ := a
  simp only at ha
  subst ha
  obtain ⟨bk, bn⟩ := b
  simp only at hb
  subst hb
  simp only [show ((3 : Nat) : Int) = 3 from rfl] at x0 x1 u0 u1 f0 f1
  have HX := robj_in (h.below hBw) c hR1.at_ ⟨3, an⟩ hx
  have HY := fun (W : World) (hb : Below w1.heap.size w1 W) => robj_in (h.below (hBw.trans (hb.mono hBw.size))) c (hR1.at_.below hb) ⟨3, bn⟩ hy
  simp only [show ((3 : Nat) : Int) = 3 from rfl] at HX HY
  have HF1 := fldO1
  have hsm : ¬ (9223372036854775807 < x.s.size + y.s.size) := by omega
  clear hf
  go_wp2_with (first
    | (go_at_call 59; (with_reducible refine HX.mono ?_); clear HX; rintro e y1 ⟨q1, c1, rfl, -, -, hY1⟩; obtain ⟨v2, v3⟩ := cell_row2 ((hY1.block _ (Array.getElem?_eq_some_iff.1 f1).1).trans f1); have HY1 := HY y1 hY1; clear HY)
    | (go_at_call 59; (with_reducible refine HY1.mono ?_); clear HY1; rintro e y2 ⟨q2, c2, rfl, -, -, hY2⟩; refine halt_here ?_))
  unfold Halted
  have hC2 := hY1.trans (hY2.mono hY1.size)
  have g2 := (hC2.block _ l2).trans f2
  have l3 := (Array.getElem?_eq_some_iff.1 g2).1
  have hR2 := hR1.below hC2
  have hBw2 := hBw.trans (hC2.mono hBw.size)
  have hbs2 : base ≤ y2.heap.size := Nat.le_trans hbs hC2.size
  clear x0 x1 u0 u1 f0 f1 f2 v2 v3 hxs hys
  have H1 := rText_ok hR2 hbs2 h.len (x.s ++ y.s) (by omega)
  clear hg
  go_wp2_with (first
    | (go_at_call 25; (with_reducible refine H1.mono ?_); clear H1; rintro e y3 ⟨rfl, hR6, hB6, hfr⟩; have hr := (hfr _ _ l3 g2).trans g2; obtain ⟨⟨z0, z1, z2, z3⟩, q0, q1, q2, q3⟩ := cell_row4D hr))
  refine bodyPost_ret (results_cell_row (by rfl) _ _ (w.heap.size + 1 + 1) 38 _ _ _ (by rfl) (set4_rowD hr) Tryz.underlying38 (by rfl) infoRd) (by rfl) ?_
  obtain ⟨p', c', ts', hR6⟩ := hR6
  obtain rfl := HDq.out
  exact ⟨rfl, ⟨p', c', ts', hR6.set4 hr _ _ _ _⟩, below_set4 ((hBw2.mono hbw).trans hB6) (by omega) _ _ _ _⟩

set_option maxRecDepth 20000 in
set_option maxHeartbeats 8000000 in
theorem rBin_in {base H : Nat} {S : List Om} {p : Option Addr} {c : Nat} {ts : List Po} (hR : Rh base w H S p c ts) (hbw : base ≤ w.heap.size) (h : Ask w p S) (op : Nat) (a b : Vl) {D : Dv} (hD : BinR S op a b D) :
    Calls Tryz.prog 13 #[.pointer (some ⟨H, 0, none⟩), .int .u8 op, .agg #[.int .u8 a.k, .int .i64 a.n], .agg #[.int .u8 b.k, .int .i64 b.n], .bool false] w fun e w' => e = .returned (.agg #[.int .u8 D.v.k, .int .i64 D.v.n, .string D.t, .int .i64 D.n]) ∧ (∃ p' c' ts', Rh base w' H D.S p' c' ts') ∧ Below base w w' := by
  rcases hD with ⟨hn, hD⟩ | ⟨hf, x, y, r, hx, hy, hr, hD⟩
  · exact rBin_bad hR hbw h op a b hn hD
  unfold binP at hD
  by_cases h8 : op = 8
  · rw [if_pos h8] at hD; exact rBin_8 hR hbw h op a b h8 hf r hr hD
  rw [if_neg h8] at hD
  by_cases h9 : op = 9
  · rw [if_pos h9] at hD; exact rBin_9 hR hbw h op a b h9 hf r hr hD
  rw [if_neg h9] at hD
  by_cases h22 : a.k = 2 ∧ b.k = 2
  · rw [if_pos h22] at hD; exact rBin_ints hR hbw h op a b h8 h9 hf h22.1 h22.2 hD
  rw [if_neg h22] at hD
  by_cases h33 : a.k = 3 ∧ b.k = 3
  · rw [if_pos h33] at hD
    by_cases h1 : op = 1
    · rw [if_pos h1] at hD
      by_cases hg : 4096 < (x.s ++ y.s).size
      · rw [if_pos hg] at hD; exact rBin_far hR hbw h op a b h1 hf h33.1 h33.2 (hx h33.1) (hy h33.2) hg hD
      · rw [if_neg hg] at hD; exact rBin_add hR hbw h op a b h1 hf h33.1 h33.2 (hx h33.1) (hy h33.2) hg hD
    rw [if_neg h1] at hD
    by_cases h6 : op = 6
    · rw [if_pos h6] at hD; exact rBin_t6 hR hbw h op a b h6 hf h33.1 h33.2 (hx h33.1) (hy h33.2) hD
    rw [if_neg h6] at hD
    by_cases h7 : op = 7
    · rw [if_pos h7] at hD; exact rBin_t7 hR hbw h op a b h7 hf h33.1 h33.2 (hx h33.1) (hy h33.2) hD
    rw [if_neg h7] at hD
    exact rBin_tk hR hbw h op a b h8 h9 h1 h6 h7 hf h33.1 h33.2 (hx h33.1) (hy h33.2) hD
  rw [if_neg h33] at hD
  by_cases ha2 : a.k = 2
  · exact rBin_k2 hR hbw h op a b h8 h9 hf ha2 (fun e => h22 ⟨ha2, e⟩) hD
  by_cases ha3 : a.k = 3
  · exact rBin_k3 hR hbw h op a b h8 h9 hf ha3 (fun e => h33 ⟨ha3, e⟩) hD
  exact rBin_k1 hR hbw h op a b h8 h9 hf ha2 ha3 hD


end Go.Proofs.YtgokofomoachaaaGreatDoor
