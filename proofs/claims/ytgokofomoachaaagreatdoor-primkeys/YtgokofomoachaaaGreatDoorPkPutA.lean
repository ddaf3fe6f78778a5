/- append on lists of values: what a run of it comes to. -/
import Derived.Test.YtgokofomoachaaaGreatDoorPoText
import Derived.Deep.RegionLaw
import Derived.Deep.AppendLies
import Derived.Test.YtgokofomoachaaaGreatDoorPkUpd
namespace Go.Proofs.YtgokofomoachaaaGreatDoor
set_option linter.unusedVariables false
set_option linter.unusedSimpArgs false
open Go.RowKit

variable {w : World}

theorem infoVq : (Tryz.prog.info? 27).map (fun i => (i.zero, i.size, i.bytes)) = some (some (.agg #[.int .u8 0, .int .i64 0]), 2, 16) := by kernel_rfl

theorem wrap_small {m : Nat} (h : m ≤ 1048576) : IntKind.i64.wrap (m : Int) = (m : Int) := by
  unfold IntKind.wrap
  simp [IntKind.bits, IntKind.signed]
  omega

theorem row_two {base g n c j : Nat} {l : List Vl} (h : w.ownsRow base 27 2 (.slice (some ⟨g, 0, none⟩) n c) n (vcells l)) (hj : j < n) : (∃ a, w.cell? ⟨g, j * 2, none⟩ = some a) ∧ (∃ a, w.cell? ⟨g, j * 2 + 1, none⟩ = some a) ∧ ∀ k, w.frozen? ⟨g, k, none⟩ = false := by
  have hl := h.1
  obtain ⟨cur, hc⟩ := row_obj h (k := g) rfl
  refine ⟨⟨(vcells l)[j * 2]'(by omega), ?_⟩, ⟨(vcells l)[j * 2 + 1]'(by omega), ?_⟩, fun k => frozen_of_row w g k _ _ hc⟩
  · rw [h.cellAt _ (by omega)]; exact List.getElem?_eq_getElem _
  · rw [h.cellAt _ (by omega)]; exact List.getElem?_eq_getElem _

theorem vt_of_row {base g n c : Nat} {l : List Vl} (h : w.ownsRow base 27 2 (.slice (some ⟨g, 0, none⟩) n c) n (vcells l)) : VT w (some ⟨g, 0, none⟩) l := by
  have hn : n = l.length := by have := h.1; rw [vcells_len] at this; omega
  subst hn
  exact ⟨fun j v hj => ⟨g, 0, rfl, by simpa using (row_vals h rfl hj).1, by simpa using (row_vals h rfl hj).2⟩, fun ad e => by cases e; exact row_obj h rfl⟩

theorem app1 {q : Option Addr} {l : List Vl} {co : Nat} (hv : Vals w q l) (hl : l.length ≤ 131072) : ∃ v4 w4, (Builtin.append_ #[47, 47] 47 #[.slice none 0 0, .slice q l.length co]).run Tryz.prog w = .ok v4 w4 ∧ w4.ownsRow w.heap.size 27 2 v4 l.length (vcells l) ∧ Below w.heap.size w w4 := by
  obtain ⟨i0, hi, hz0, hz1, hz2⟩ := info_parts infoVq
  have hn : w.ownsRow w.heap.size 27 2 (.slice none 0 0) 0 [] := ⟨rfl, .inl ⟨rfl, rfl⟩⟩
  cases l with
  | nil => exact ⟨_, _, run_append_own_empty w.heap.size _ _ _ i0 2 Tryz.underlying47 hi _ _ _ hn q co, hn, Below.refl _ _⟩
  | cons y r =>
    obtain ⟨ad, rfl⟩ := vals_ne hv (by simp)
    obtain ⟨b0, off, rfl, -, hvc⟩ := vals_cells hv (by simp)
    obtain ⟨v4, w4, h1, h2, h3, -⟩ := run_append_own (P := Tryz.prog) (w := w) w.heap.size 47 47 27 i0 (.agg #[.int .u8 0, .int .i64 0]) 2 16 Tryz.underlying47 hi hz0 hz1 hz2 rfl (by decide) (.slice none 0 0) 0 [] hn ⟨b0, off, none⟩ (y :: r).length co (vcells (y :: r)) (vcells_len _) hvc (vcells_one _) (by unfold maxLen; omega) (by omega) (Nat.le_refl _)
    rw [Nat.zero_add, List.nil_append] at h2
    exact ⟨v4, w4, h1, h2, rbelow_grown h3 (fun q e => by cases e) (Nat.le_refl _)⟩

theorem app2 {base B n : Nat} {v4 : Value} {l more : List Vl} (hb : base ≤ w.heap.size) (hown : w.ownsRow base 27 2 v4 n (vcells l)) (hn : n ≤ 131072) (hv : Vals w (some ⟨B, 0, none⟩) more) (h0 : 0 < more.length) (hm : more.length ≤ 2) : ∃ g5 c5 w5, (Builtin.append_ #[47, 47] 47 #[v4, .slice (some ⟨B, 0, none⟩) more.length more.length]).run Tryz.prog w = .ok (.slice (some ⟨g5, 0, none⟩) (n + more.length) c5) w5 ∧ w5.ownsRow base 27 2 (.slice (some ⟨g5, 0, none⟩) (n + more.length) c5) (n + more.length) (vcells (l ++ more)) ∧ Below base w w5 := by
  obtain ⟨i0, hi, hz0, hz1, hz2⟩ := info_parts infoVq
  obtain ⟨b0, off, e, -, hvc⟩ := vals_cells hv h0
  obtain ⟨v5, w5, h1, h2, h3, -⟩ := run_append_own (P := Tryz.prog) (w := w) base 47 47 27 i0 (.agg #[.int .u8 0, .int .i64 0]) 2 16 Tryz.underlying47 hi hz0 hz1 hz2 rfl (by decide) v4 n (vcells l) hown ⟨B, 0, none⟩ more.length more.length (vcells more) (vcells_len _) hvc (vcells_one _) (by unfold maxLen; omega) (by omega) hb
  rw [← vcells_append] at h2
  obtain ⟨p5, c5, rfl, -, -, hp5⟩ := row_form h2
  obtain ⟨g5, rfl⟩ := hp5 (by omega)
  exact ⟨g5, c5, w5, h1, h2, rbelow_grown h3 (fun q e => (hown.lt q e).1) hb⟩

end Go.Proofs.YtgokofomoachaaaGreatDoor

namespace Go.Proofs.YtgokofomoachaaaGreatDoor
set_option linter.unusedVariables false
set_option linter.unusedSimpArgs false
open Go.RowKit

variable {w : World}

theorem infoVp : (Tryz.prog.info? 27).map (fun i => (i.zero, i.size, i.bytes)) = some (some (.agg #[.int .u8 0, .int .i64 0]), 2, 16) := by kernel_rfl

theorem did_frame {W : World} {r : Nat} {x0 x1 x2 x3 : Value} (g : Option Nat) (hg : ∀ b, g = some b → ∃ cur, w.heap[b]? = some (.cells cur 96 (0, 0))) (hr : w.heap.size ≤ r) (hF : ∀ k, k < w.heap.size → g ≠ some k → W.heap[k]? = w.heap[k]?) : ∀ (k : Nat) (cur : Array Value), k < w.heap.size → w.heap[k]? = some (.cells cur 38 (0, 0)) → ((((W.setCell ⟨r, 0, none⟩ x0).setCell ⟨r, 1, none⟩ x1).setCell ⟨r, 2, none⟩ x2).setCell ⟨r, 3, none⟩ x3).heap[k]? = w.heap[k]? := by
  intro k cur hk hc
  have hne : k ≠ r := by omega
  rw [heap_setCell_other _ ⟨r, 3, none⟩ _ _ hne, heap_setCell_other _ ⟨r, 2, none⟩ _ _ hne, heap_setCell_other _ ⟨r, 1, none⟩ _ _ hne, heap_setCell_other _ ⟨r, 0, none⟩ _ _ hne]
  refine hF k hk (fun e => ?_)
  obtain ⟨cu, h⟩ := hg k e
  rw [h] at hc
  cases hc

set_option maxRecDepth 20000 in
set_option maxHeartbeats 8000000 in
theorem rPutKey_some {base H : Nat} {S : List Om} {p : Option Addr} {c : Nat} {ts : List Po} (hR : Rh base w H S p c ts) (hbw : base ≤ w.heap.size) (h : Ask w p S) (vk : Nat) (k x : Vl) {i : Nat} {o : Om} (ho : leadO S ⟨vk, (i : Int) + 1⟩ = some o) (hSo : S[i]? = some o) (hobj : objP S o) (hl9 : o.l.length ≤ 131072) (hro : 0 ≤ o.room ∧ o.room ≤ 1099511627776) (hev : o.l.length % 2 = 0) (hsk : SameOk S k) (j : Nat) (hka : KeyAt S o.l k (some j)) {D : Dv} (hD : D = putPairP S i o k x (some j)) :
    Calls Tryz.prog 140 #[.pointer (some ⟨H, 0, none⟩), .agg #[.int .u8 vk, .int .i64 ((i : Int) + 1)], .agg #[.int .u8 k.k, .int .i64 k.n], .agg #[.int .u8 x.k, .int .i64 x.n], .bool false] w fun e w' => e = .returned (.agg #[.int .u8 D.v.k, .int .i64 D.v.n, .string D.t, .int .i64 D.n]) ∧ (∃ p' c' ts', Rh base w' H D.S p' c' ts') ∧ Below base w w' ∧ ∀ (k : Nat) (cur : Array Value), k < w.heap.size → w.heap[k]? = some (.cells cur 38 (0, 0)) → w'.heap[k]? = w.heap[k]? := by
  obtain ⟨i0, hi, hz0, hz1, hz2⟩ := info_parts infoVp
  have hss := obj_same hobj
  have hSi := (List.getElem?_eq_some_iff.1 hSo).1
  have hSl := h.len
  have hB := below4' w (.cells #[.int .u8 vk, .int .i64 ((i : Int) + 1)] 27) (.cells #[.int .u8 k.k, .int .i64 k.n] 27) (.cells #[.int .u8 x.k, .int .i64 x.n] 27) (.cells #[.int .u8 0, .int .i64 0, .string ⟨#[]⟩, .int .i64 0] 38)
  have e0 := heap4_0 w (.cells #[.int .u8 vk, .int .i64 ((i : Int) + 1)] 27) (.cells #[.int .u8 k.k, .int .i64 k.n] 27) (.cells #[.int .u8 x.k, .int .i64 x.n] 27) (.cells #[.int .u8 0, .int .i64 0, .string ⟨#[]⟩, .int .i64 0] 38)
  have e1 := heap4_1 w (.cells #[.int .u8 vk, .int .i64 ((i : Int) + 1)] 27) (.cells #[.int .u8 k.k, .int .i64 k.n] 27) (.cells #[.int .u8 x.k, .int .i64 x.n] 27) (.cells #[.int .u8 0, .int .i64 0, .string ⟨#[]⟩, .int .i64 0] 38)
  have e2 := heap4_2 w (.cells #[.int .u8 vk, .int .i64 ((i : Int) + 1)] 27) (.cells #[.int .u8 k.k, .int .i64 k.n] 27) (.cells #[.int .u8 x.k, .int .i64 x.n] 27) (.cells #[.int .u8 0, .int .i64 0, .string ⟨#[]⟩, .int .i64 0] 38)
  have e3 := heap4_3 w (.cells #[.int .u8 vk, .int .i64 ((i : Int) + 1)] 27) (.cells #[.int .u8 k.k, .int .i64 k.n] 27) (.cells #[.int .u8 x.k, .int .i64 x.n] 27) (.cells #[.int .u8 0, .int .i64 0, .string ⟨#[]⟩, .int .i64 0] 38)
  obtain ⟨x0, x1⟩ := cell_row2 e0
  have HO := robj_in (h.below hB) c (hR.at_.below hB) ⟨vk, (i : Int) + 1⟩ ho
  have HDq : Hid _ := hD
  clear hD
  go_enter Tryz.func140, Tryz.ntmps140
  go_wp2_with (first
    | (go_at_call 59; (with_reducible refine HO.mono ?_); clear HO; rintro e w1 ⟨qo, co, rfl, hvo, hqn, hB1⟩; refine halt_here ?_))
  unfold Halted
  have hBw1 := hB.trans (hB1.mono hB.size)
  have f0 := (hB1.block _ (Array.getElem?_eq_some_iff.1 e0).1).trans e0
  have f1 := (hB1.block _ (Array.getElem?_eq_some_iff.1 e1).1).trans e1
  have f2 := (hB1.block _ (Array.getElem?_eq_some_iff.1 e2).1).trans e2
  have f3 := (hB1.block _ (Array.getElem?_eq_some_iff.1 e3).1).trans e3
  have hA5 := below1 w1 (.cells #[.int .u8 o.k, .string o.s, .slice qo o.l.length co, .int .i64 o.room, .int .i64 o.fn] 96)
  have g5 := heap_alloc_new w1 (.cells #[.int .u8 o.k, .string o.s, .slice qo o.l.length co, .int .i64 o.room, .int .i64 o.fn] 96)
  have g0 := (hA5.block _ (Array.getElem?_eq_some_iff.1 f0).1).trans f0
  have g1 := (hA5.block _ (Array.getElem?_eq_some_iff.1 f1).1).trans f1
  have g2 := (hA5.block _ (Array.getElem?_eq_some_iff.1 f2).1).trans f2
  have g3 := (hA5.block _ (Array.getElem?_eq_some_iff.1 f3).1).trans f3
  have hBw5 := hBw1.trans (hA5.mono hBw1.size)
  have hR5 := hR.below hBw5
  have hv5 := (hvo.below hB1).below hA5
  obtain ⟨⟨p0, p1, p2, p3, p4⟩, -⟩ := cell_row5 g5
  obtain ⟨y0, y1⟩ := cell_row2 g1
  have HA := rAt_in (h.below hBw5) c hR5.at_ co hv5 (by omega) hss k hsk (some j) hka
  clear x0 x1 e0 e1 e2 e3 f0 f1 f2 f3 hvo hss
  go_wp2_with (first
    | (go_at_call 69; (with_reducible refine HA.mono ?_); clear HA; rintro e w6 ⟨rfl, hB6⟩; refine halt_here ?_))
  unfold Halted
  have hl5 : w1.heap.size < (w1.alloc (.cells #[.int .u8 o.k, .string o.s, .slice qo o.l.length co, .int .i64 o.room, .int .i64 o.fn] 96)).heap.size := by simp
  have k5 := (hB6.block _ hl5).trans g5
  have k0 := (hB6.block _ (Array.getElem?_eq_some_iff.1 g0).1).trans g0
  have k1 := (hB6.block _ (Array.getElem?_eq_some_iff.1 g1).1).trans g1
  have k2 := (hB6.block _ (Array.getElem?_eq_some_iff.1 g2).1).trans g2
  have k3 := (hB6.block _ (Array.getElem?_eq_some_iff.1 g3).1).trans g3
  have hBw6 := hBw5.trans (hB6.mono hBw5.size)
  have hR6 := hR5.below hB6
  have hv6 := hv5.below hB6
  have hw1 : w.heap.size + 1 + 1 + 1 + 1 ≤ w1.heap.size := by have := hB1.size; simp at this; omega
  clear p0 p1 p2 p3 p4 y0 y1 g0 g1 g2 g3 g5 hv5 hR5 hB6 hBw5 hA5 hB hB1 hBw1
  generalize hO5 : w1.heap.size = O5 at *
  clear hl5 hO5
  obtain ⟨⟨p0, p1, p2, p3, p4⟩, -⟩ := cell_row5 k5
  obtain ⟨y0, y1⟩ := cell_row2 k1
  obtain ⟨x0, x1⟩ := cell_row2 k0
  obtain ⟨u0, u1⟩ := cell_row2 k2
  have hbs6 : base ≤ w6.heap.size := Nat.le_trans hbw hBw6.size
  obtain ⟨hj2, ⟨y, hy, -⟩, -⟩ := hka
  have hjl := (List.getElem?_eq_some_iff.1 hy).1
  have hj1 : j + 1 < o.l.length := by omega
  have hd : D = ⟨S.set i { o with l := o.l.set (j + 1) x }, ⟨0, 0⟩, ⟨#[]⟩, 0⟩ := HDq.out
  clear HDq hy
  subst hd
  have hq : atI (some j) = (j : Int) := rfl
  rw [hq]
  clear hq
  obtain ⟨ad, rfl⟩ := vals_ne hv6 (by omega)
  obtain ⟨b0, off, rfl, hb0, hvc⟩ := vals_cells hv6 (by omega)
  go_wp2_with (first
    | (at_builtin; refine wpList_append_own _ rfl (.const (.slice none 0 0)) (.tmp 29) 47 rfl w6.heap.size 27 i0 (.agg #[.int .u8 0, .int .i64 0]) 2 16 Tryz.underlying47 hi hz0 hz1 hz2 rfl (by decide) (.slice none 0 0) 0 [] rfl ⟨rfl, .inl ⟨rfl, rfl⟩⟩ ⟨b0, off, none⟩ o.l.length co (vcells o.l) rfl (vcells_len _) hvc (vcells_one _) (by unfold maxLen; omega) (by omega) (Nat.le_refl _) ?_; intro v4 w4 hown4 hgrow4 hnil4; clear hnil4; obtain ⟨pp4, c4, rfl, hc4, -, hp4⟩ := row_form hown4; obtain ⟨g4, rfl⟩ := hp4 (by omega); have hB4 : Below w6.heap.size w6 w4 := rbelow_grown hgrow4 (fun q e => by cases e) (Nat.le_refl _); rw [List.nil_append] at hown4; simp only [Nat.zero_add] at hown4 ⊢; obtain ⟨a0, a1⟩ := cell_row2 ((hB4.block _ (Array.getElem?_eq_some_iff.1 k0).1).trans k0); obtain ⟨t0, t1⟩ := cell_row2 ((hB4.block _ (Array.getElem?_eq_some_iff.1 k2).1).trans k2); obtain ⟨⟨q0, hq0⟩, ⟨q1, hq1⟩, fz⟩ := row_two hown4 hj1; have fz0 := fz ((j + 1) * 2); have fz1 := fz ((j + 1) * 2 + 1)))
  have hg4 := (hown4.lt g4 rfl).1
  have hown7 : ((w4.setCell ⟨g4, (j + 1) * 2, none⟩ (.int .u8 x.k)).setCell ⟨g4, (j + 1) * 2 + 1, none⟩ (.int .i64 x.n)).ownsRow w6.heap.size 27 2 (.slice (some ⟨g4, 0, none⟩) o.l.length c4) o.l.length (vcells (o.l.set (j + 1) x)) := by
    have s1 := ((hown4.stored ((j + 1) * 2) (.int .u8 x.k)).1.stored ((j + 1) * 2 + 1) (.int .i64 x.n)).1
    rw [vcells_put _ _ _ hj1] at s1
    exact s1
  have hB7 : Below w6.heap.size w6 ((w4.setCell ⟨g4, (j + 1) * 2, none⟩ (.int .u8 x.k)).setCell ⟨g4, (j + 1) * 2 + 1, none⟩ (.int .i64 x.n)) := below_set (below_set hB4 hg4 _) hg4 _
  generalize (w4.setCell ⟨g4, (j + 1) * 2, none⟩ (.int .u8 x.k)).setCell ⟨g4, (j + 1) * 2 + 1, none⟩ (.int .i64 x.n) = w7 at *
  clear hq0 hq1 fz fz0 fz1 hown4 hgrow4 hB4 a0 a1 t0 t1 hvc hp4
  have hR7 := hR6.below hB7
  have hBw7 := hBw6.trans (hB7.mono hBw6.size)
  have m3 := (hB7.block _ (Array.getElem?_eq_some_iff.1 k3).1).trans k3
  have m0 := (hB7.block _ (Array.getElem?_eq_some_iff.1 k0).1).trans k0
  clear x0 x1 y0 y1 u0 u1 p0 p1 p2 p3 p4 k5 k0 k1 k2 k3 hR6 hv6
  obtain ⟨a0, a1⟩ := cell_row2 m0
  obtain ⟨xp, g, hxp, hxo, rfl, hgl, hgb, hfz, hcl, hcr, cur, hcur⟩ := hR7.at_i hSo
  have hcH := hR7.at_.cell
  have hfz2 := hfz (i * 5 + 2)
  have hiS : (i : Int) < (S.length : Int) := by omega
  have hi9 : i ≤ 1048576 := by omega
  go_wp2_with fail
  go_region
  have hR8 := (hR7.set (d := 2) (by omega) hxp (y := ⟨{ o with l := o.l.set (j + 1) x }, .slice (some ⟨g4, 0, none⟩) o.l.length c4⟩) (.slice (some ⟨g4, 0, none⟩) o.l.length c4) (by simp [pcell, hxo]) ⟨_, c4, by simp, (fun e => by cases e), vt_of_row hown7⟩).below (below_drew (Below.refl _ _))
  have hgB : w.heap.size + 1 + 1 + 1 ≠ g := fun e => by rw [e, hcur] at m3; cases m3
  have hr := (heap_setCell_other w7 ⟨g, i * 5 + 2, none⟩ _ (.slice (some ⟨g4, 0, none⟩) o.l.length c4) hgB).trans m3
  have hB8 := below_drew (below_set (i := i * 5 + 2) (hBw7.mono hbw) hgb (.slice (some ⟨g4, 0, none⟩) o.l.length c4))
  obtain ⟨⟨z0, z1, z2, z3⟩, y0, y1, y2, y3⟩ := cell_row4D hr
  go_wp2
  refine bodyPost_ret (results_cell_row (by rfl) _ _ (w.heap.size + 1 + 1 + 1) 38 _ _ _ (by rfl) (set4_rowD hr) Tryz.underlying38 (by rfl) infoRd) (by rfl) ?_
  obtain ⟨_, g0, _, _, e0, _, _, _, _, _, hgt⟩ := hR.at_i hSo
  cases e0
  exact ⟨rfl, ⟨_, _, _, hR8.set4 hr _ _ _ _⟩, below_set4 hB8 (by omega) _ _ _ _, did_frame (some g) (fun b e => by cases e; exact hgt) (by omega) (fun k hk hkg => (heap_setCell_other w7 ⟨g, i * 5 + 2, none⟩ _ _ (fun e => hkg (by rw [e]))).trans (hBw7.block k hk))⟩


end Go.Proofs.YtgokofomoachaaaGreatDoor
