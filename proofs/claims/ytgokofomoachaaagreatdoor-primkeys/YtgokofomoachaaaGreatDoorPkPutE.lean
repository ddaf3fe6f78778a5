/- The document's Put of a list: one more. -/
import Derived.Test.YtgokofomoachaaaGreatDoorPkPutC
namespace Go.Proofs.YtgokofomoachaaaGreatDoor
set_option linter.unusedVariables false
set_option linter.unusedSimpArgs false
open Go.RowKit

variable {w : World}


set_option maxRecDepth 20000 in
set_option maxHeartbeats 8000000 in
theorem rPut_more {base H : Nat} {S : List Om} {p : Option Addr} {c : Nat} {ts : List Po} (hR : Rh base w H S p c ts) (hbw : base ≤ w.heap.size) (h : Ask w p S) (v k x : Vl) (hf : fineP S [v, k, x]) (h4 : v.k = 4) (h2 : k.k = 2) {i : Nat} {o : Om} (ho : leadO S v = some o) (hvi : v.n = (i : Int) + 1) (hkn : k.n = (o.l.length : Int)) (hmx : o.l.length < 65536) {D : Dv} (hD : D = addedP S i o 4 [x]) :
    Calls Tryz.prog 40 #[.pointer (some ⟨H, 0, none⟩), .agg #[.int .u8 v.k, .int .i64 v.n], .agg #[.int .u8 k.k, .int .i64 k.n], .agg #[.int .u8 x.k, .int .i64 x.n], .bool false] w fun e w' => e = .returned (.agg #[.int .u8 D.v.k, .int .i64 D.v.n, .string D.t, .int .i64 D.n]) ∧ (∃ p' c' ts', Rh base w' H D.S p' c' ts') ∧ Below base w w' := by
  have hm := fine_may hf
  have hSo : S[i]? = some o := by
    obtain ⟨-, -, -, i', hn, hi, hS⟩ := leadO_some ho
    have : i' = i := by omega
    subst this; exact hS
  have hSi := (List.getElem?_eq_some_iff.1 hSo).1
  have hSl := h.len
  obtain ⟨o', ho', hobj⟩ := may_obj hm (v := v) (by simp) (by omega)
  rw [ho] at ho'; cases ho'
  have hok : o.k = 4 := by have := (leadO_some ho).2.2.1; omega
  have hl9 : o.l.length ≤ 65536 := by have := hobj.1.2.1 hok; omega
  have hro := roomP_le (hobj.1.2.1 hok).2.1
  clear hobj hok hm
  have H_h4 : Hid _ := h4
  clear h4
  have H_h2 : Hid _ := h2
  clear h2
  have H_hvi : Hid _ := hvi
  clear hvi
  have H_hkn : Hid _ := hkn
  clear hkn
  have hB := below4' w (.cells #[.int .u8 v.k, .int .i64 v.n] 27) (.cells #[.int .u8 k.k, .int .i64 k.n] 27) (.cells #[.int .u8 x.k, .int .i64 x.n] 27) (.cells #[.int .u8 0, .int .i64 0, .string ⟨#[]⟩, .int .i64 0] 38)
  have e0 := heap4_0 w (.cells #[.int .u8 v.k, .int .i64 v.n] 27) (.cells #[.int .u8 k.k, .int .i64 k.n] 27) (.cells #[.int .u8 x.k, .int .i64 x.n] 27) (.cells #[.int .u8 0, .int .i64 0, .string ⟨#[]⟩, .int .i64 0] 38)
  have e1 := heap4_1 w (.cells #[.int .u8 v.k, .int .i64 v.n] 27) (.cells #[.int .u8 k.k, .int .i64 k.n] 27) (.cells #[.int .u8 x.k, .int .i64 x.n] 27) (.cells #[.int .u8 0, .int .i64 0, .string ⟨#[]⟩, .int .i64 0] 38)
  have e2 := heap4_2 w (.cells #[.int .u8 v.k, .int .i64 v.n] 27) (.cells #[.int .u8 k.k, .int .i64 k.n] 27) (.cells #[.int .u8 x.k, .int .i64 x.n] 27) (.cells #[.int .u8 0, .int .i64 0, .string ⟨#[]⟩, .int .i64 0] 38)
  have e3 := heap4_3 w (.cells #[.int .u8 v.k, .int .i64 v.n] 27) (.cells #[.int .u8 k.k, .int .i64 k.n] 27) (.cells #[.int .u8 x.k, .int .i64 x.n] 27) (.cells #[.int .u8 0, .int .i64 0, .string ⟨#[]⟩, .int .i64 0] 38)
  obtain ⟨x0, x1⟩ := cell_row2 e0
  obtain ⟨u0, u1⟩ := cell_row2 e1
  obtain ⟨t0, t1⟩ := cell_row2 e2
  have HDq : Hid _ := hD
  clear hD
  go_enter Tryz.func40, Tryz.ntmps40
  go_wp2_with (first
    | (go_at_call 54; refine halt_here ?_))
  unfold Halted
  have hsz : ((((w.alloc (.cells #[.int .u8 v.k, .int .i64 v.n] 27)).alloc (.cells #[.int .u8 k.k, .int .i64 k.n] 27)).alloc (.cells #[.int .u8 x.k, .int .i64 x.n] 27)).alloc (.cells #[.int .u8 0, .int .i64 0, .string ⟨#[]⟩, .int .i64 0] 38)).heap.size = w.heap.size + 1 + 1 + 1 + 1 := by simp
  generalize hW : (((w.alloc (.cells #[.int .u8 v.k, .int .i64 v.n] 27)).alloc (.cells #[.int .u8 k.k, .int .i64 k.n] 27)).alloc (.cells #[.int .u8 x.k, .int .i64 x.n] 27)).alloc (.cells #[.int .u8 0, .int .i64 0, .string ⟨#[]⟩, .int .i64 0] 38) = W at *
  clear hW
  have hnew := heap_alloc_new W (.cells #[.int .u8 v.k, .int .i64 v.n, .int .u8 k.k, .int .i64 k.n, .int .u8 x.k, .int .i64 x.n] 27)
  have hBY := below1 W (.cells #[.int .u8 v.k, .int .i64 v.n, .int .u8 k.k, .int .i64 k.n, .int .u8 x.k, .int .i64 x.n] 27)
  rw [hsz] at hnew
  clear hsz
  have hB' := hB.trans (hBY.mono hB.size)
  have HM := Fine_in (h.below hB') c (hR.at_.below hB') (l := [v, k, x]) 3 (one_vals3 hnew) (by simp) true (by simp [hf])
  refine Calls.mono HM ?_
  clear HM
  rintro e w1 ⟨rfl, hB1⟩
  have hB1' := hBY.trans (hB1.mono hBY.size)
  have hBw := hB.trans (hB1'.mono hB.size)
  have f0 := (hB1'.block _ (Array.getElem?_eq_some_iff.1 e0).1).trans e0
  have f1 := (hB1'.block _ (Array.getElem?_eq_some_iff.1 e1).1).trans e1
  have f2 := (hB1'.block _ (Array.getElem?_eq_some_iff.1 e2).1).trans e2
  have f3 := (hB1'.block _ (Array.getElem?_eq_some_iff.1 e3).1).trans e3
  clear x0 x1 u0 u1 t0 t1 e0 e1 e2 e3 hnew hB1 hB1' hBY hB'
  obtain ⟨x0, x1⟩ := cell_row2 f0
  obtain ⟨u0, u1⟩ := cell_row2 f1
  obtain ⟨t0, t1⟩ := cell_row2 f2
  have hR1 := hR.below hBw
  have hbs : base ≤ w1.heap.size := Nat.le_trans hbw hBw.size
  have h4 := H_h4.out
  clear H_h4
  have h2 := H_h2.out
  clear H_h2
  have hvi := H_hvi.out
  clear H_hvi
  have hkn := H_hkn.out
  clear H_hkn
  obtain ⟨vk, vn⟩ := v
  obtain ⟨kk, kn⟩ := k
  simp only at h4 h2 hvi hkn
  subst h4 h2 hvi hkn
  simp only [show ((4 : Nat) : Int) = 4 from rfl, show ((2 : Nat) : Int) = 2 from rfl] at x0 x1 u0 u1 f0 f1
  have HO := robj_in (h.below hBw) c hR1.at_ ⟨4, (i : Int) + 1⟩ ho
  simp only [show ((4 : Nat) : Int) = 4 from rfl] at HO
  have l3 := (Array.getElem?_eq_some_iff.1 f3).1
  clear hf
  go_wp2_with (first
    | (go_at_call 59; (with_reducible refine HO.mono ?_); clear HO; rintro e w2 ⟨qo, co, rfl, hvo, hqn, hB2⟩; refine halt_here ?_))
  unfold Halted
  have hBw2 := hBw.trans (hB2.mono hBw.size)
  have hA5 := below1 w2 (.cells #[.int .u8 o.k, .string o.s, .slice qo o.l.length co, .int .i64 o.room, .int .i64 o.fn] 96)
  have k5 := heap_alloc_new w2 (.cells #[.int .u8 o.k, .string o.s, .slice qo o.l.length co, .int .i64 o.room, .int .i64 o.fn] 96)
  have g0 := (hB2.block _ (Array.getElem?_eq_some_iff.1 f0).1).trans f0
  have g1 := (hB2.block _ (Array.getElem?_eq_some_iff.1 f1).1).trans f1
  have g2 := (hB2.block _ (Array.getElem?_eq_some_iff.1 f2).1).trans f2
  have g3 := (hB2.block _ (Array.getElem?_eq_some_iff.1 f3).1).trans f3
  have k0 := (hA5.block _ (Array.getElem?_eq_some_iff.1 g0).1).trans g0
  have k1 := (hA5.block _ (Array.getElem?_eq_some_iff.1 g1).1).trans g1
  have k2 := (hA5.block _ (Array.getElem?_eq_some_iff.1 g2).1).trans g2
  have k3 := (hA5.block _ (Array.getElem?_eq_some_iff.1 g3).1).trans g3
  have hBw6 := hBw2.trans (hA5.mono hBw2.size)
  have hR6 := hR1.below (hB2.trans (hA5.mono hB2.size))
  have hv6 := (hvo.below hB2).below hA5
  have hw1 : w.heap.size + 1 + 1 + 1 + 1 ≤ w2.heap.size := by have := hB2.size; omega
  clear x0 x1 u0 u1 t0 t1 f0 f1 f2 f3 g0 g1 g2 g3 hvo hA5 hB hB2 hBw hBw2 hR1 hbs l3
  go_upto_region 8 with fail
  generalize w2.alloc (.cells #[.int .u8 o.k, .string o.s, .slice qo o.l.length co, .int .i64 o.room, .int .i64 o.fn] 96) = w6 at *
  generalize w2.heap.size = O5 at *
  obtain ⟨⟨p0, p1, p2, p3, p4⟩, -⟩ := cell_row5 k5
  obtain ⟨y0, y1⟩ := cell_row2 k1
  obtain ⟨x0, x1⟩ := cell_row2 k0
  obtain ⟨u0, u1⟩ := cell_row2 k2
  have hbs6 : base ≤ w6.heap.size := Nat.le_trans hbw hBw6.size
  have hd : D = ⟨S.set i { o with l := o.l ++ [x], room := (grownP o ((o.l.length : Int) + 1) 4).1 }, ⟨0, 0⟩, ⟨#[]⟩, (grownP o ((o.l.length : Int) + 1) 4).2⟩ := by
    rw [HDq.out]
    unfold addedP grownP
    by_cases hrr : o.room < (o.l.length : Int) + 1
    · rw [if_pos (by simpa using hrr), if_pos hrr]
    · rw [if_neg (by simpa using hrr), if_neg hrr]
  clear HDq
  subst hd
  have hmy : ¬ ((65536 : Int) ≤ (o.l.length : Int)) := by omega
  have hl0 : ¬ ((o.l.length : Int) < 0) := by omega
  have HL9 : Hid (o.l.length < 131072) := (by omega : o.l.length < 131072)
  clear hmx hl9
  have HG := rGrown_in o qo o.l.length co ((o.l.length : Int) + 1) 4 w6 hro.1 hro.2 (by omega) (by omega)
  generalize hGP : grownP o ((o.l.length : Int) + 1) 4 = GP at *
  go_wp2_with (first
    | (go_at_call 141; (with_reducible refine HG.mono ?_); clear HG; rintro e w9 ⟨rfl, hB9⟩; refine halt_here ?_))
  unfold Halted
  have hBw9 := hBw6.trans (hB9.mono hBw6.size)
  have hR9 := hR6.below hB9
  have hv9 := hv6.below hB9
  have n5 := (hB9.block _ (Array.getElem?_eq_some_iff.1 k5).1).trans k5
  have n0 := (hB9.block _ (Array.getElem?_eq_some_iff.1 k0).1).trans k0
  have n1 := (hB9.block _ (Array.getElem?_eq_some_iff.1 k1).1).trans k1
  have n2 := (hB9.block _ (Array.getElem?_eq_some_iff.1 k2).1).trans k2
  have n3 := (hB9.block _ (Array.getElem?_eq_some_iff.1 k3).1).trans k3
  clear x0 x1 y0 y1 u0 u1 p0 p1 p2 p3 p4 k5 k0 k1 k2 k3 hR6 hv6
  obtain ⟨xp, g, hxp, hxo, rfl, hgl, hgb, hfz, hcl, hcr, cur, hcur⟩ := hR9.at_i hSo
  have lH := World.block_lt_of_cell? w9 _ hR9.at_.cell
  have F : ∀ W', Below w9.heap.size w9 W' → ((W'.cell? ⟨w.heap.size, 0, none⟩ = some (.int .u8 4) ∧ W'.cell? ⟨w.heap.size, 1, none⟩ = some (.int .i64 ((i : Int) + 1))) ∧ (W'.cell? ⟨w.heap.size + 1, 0, none⟩ = some (.int .u8 2) ∧ W'.cell? ⟨w.heap.size + 1, 1, none⟩ = some (.int .i64 (o.l.length : Int))) ∧ (W'.cell? ⟨w.heap.size + 1 + 1, 0, none⟩ = some (.int .u8 x.k) ∧ W'.cell? ⟨w.heap.size + 1 + 1, 1, none⟩ = some (.int .i64 x.n))) ∧ W'.cell? ⟨O5, 2, none⟩ = some (.slice qo o.l.length co) ∧ W'.cell? ⟨H, 0, none⟩ = some (.slice (some ⟨g, 0, none⟩) S.length c) := fun W' hb =>
    ⟨⟨cell_row2 ((hb.block _ (Array.getElem?_eq_some_iff.1 n0).1).trans n0), cell_row2 ((hb.block _ (Array.getElem?_eq_some_iff.1 n1).1).trans n1), cell_row2 ((hb.block _ (Array.getElem?_eq_some_iff.1 n2).1).trans n2)⟩, (cell_row5 ((hb.block _ (Array.getElem?_eq_some_iff.1 n5).1).trans n5)).1.2.2.1, (hR9.at_.below hb).cell⟩
  have G : ∀ W', Below w9.heap.size w9 W' → W'.cell? ⟨g, i * 5 + 2, none⟩ = some xp.lv ∧ W'.frozen? ⟨g, i * 5 + 2, none⟩ = false := fun W' hb => ⟨(hb.cell (p := ⟨g, i * 5 + 2, none⟩) hgl).trans hcl, (World.frozen?_of_block (a := ⟨g, i * 5 + 2, none⟩) (hb.block g hgl)).trans (hfz _)⟩
  have hgn : w.heap.size ≠ g ∧ w.heap.size + 1 ≠ g ∧ w.heap.size + 1 + 1 ≠ g ∧ H ≠ g := ⟨(fun e => by rw [e, hcur] at n0; cases n0), (fun e => by rw [e, hcur] at n1; cases n1), (fun e => by rw [e, hcur] at n2; cases n2), (fun e => by have := hR9.at_; unfold RhAt at this; rw [e, hcur] at this; cases this)⟩
  have hgl0 : g < w.heap.size := by obtain ⟨_, g0, _, _, e0, hg0, _⟩ := hR.at_i hSo; cases e0; exact hg0
  have hO5g : O5 ≠ g := by omega
  have FT : ∀ W' u, Below w9.heap.size w9 W' → (fun W => ((W.cell? ⟨w.heap.size, 0, none⟩ = some (.int .u8 4) ∧ W.cell? ⟨w.heap.size, 1, none⟩ = some (.int .i64 ((i : Int) + 1))) ∧ (W.cell? ⟨w.heap.size + 1, 0, none⟩ = some (.int .u8 2) ∧ W.cell? ⟨w.heap.size + 1, 1, none⟩ = some (.int .i64 (o.l.length : Int))) ∧ (W.cell? ⟨w.heap.size + 1 + 1, 0, none⟩ = some (.int .u8 x.k) ∧ W.cell? ⟨w.heap.size + 1 + 1, 1, none⟩ = some (.int .i64 x.n))) ∧ W.cell? ⟨O5, 2, none⟩ = some (.slice qo o.l.length co) ∧ W.cell? ⟨H, 0, none⟩ = some (.slice (some ⟨g, 0, none⟩) S.length c)) (W'.setCell ⟨g, i * 5 + 2, none⟩ u) := fun W' u hb => by
    have c := fun (B d : Nat) (h : B ≠ g) => World.cell?_of_block (a := ⟨B, d, none⟩) (heap_setCell_other W' ⟨g, i * 5 + 2, none⟩ B u h)
    obtain ⟨⟨⟨h0, h1⟩, ⟨h2, h3⟩, h4, h5⟩, h6, h7⟩ := F W' hb
    exact ⟨⟨⟨(c _ _ hgn.1).trans h0, (c _ _ hgn.1).trans h1⟩, ⟨(c _ _ hgn.2.1).trans h2, (c _ _ hgn.2.1).trans h3⟩, (c _ _ hgn.2.2.1).trans h4, (c _ _ hgn.2.2.1).trans h5⟩, (c _ _ hO5g).trans h6, (c _ _ hgn.2.2.2).trans h7⟩
  have hiS : (i : Int) < (S.length : Int) := by omega
  have hi9 : i ≤ 1048576 := by omega
  have hwr : IntKind.i64.wrap (i : Int) = (i : Int) := wrap_small (by omega)
  have hD9 := below_drew (Below.refl w9.heap.size w9)
  have SW := F _ (Below.refl _ _)
  have S0 := F _ hD9
  have hv9d : Vals w9.drew qo o.l := hv9.below hD9
  have hbB := below1 w9.drew (.cells #[.int .u8 x.k, .int .i64 x.n] 27)
  have hnB := heap_alloc_new w9.drew (.cells #[.int .u8 x.k, .int .i64 x.n] 27)
  have hl131 : o.l.length ≤ 131072 := Nat.le_of_lt HL9.out
  have hv9b := hv9d.below hbB
  have A1 := app1 (co := co) hv9d hl131
  have A1B := app1 (co := co) hv9b hl131
  have S1 := F _ (hD9.trans (hbB.mono hD9.size))
  have HGP : Hid _ := hGP
  clear hGP hl131 hv9b hv9d hmy hro ho
  go_wp2_with fail
  refine wp_region_held_drew (S := fun W => ((W.cell? ⟨w.heap.size, 0, none⟩ = some (.int .u8 4) ∧ W.cell? ⟨w.heap.size, 1, none⟩ = some (.int .i64 ((i : Int) + 1))) ∧ (W.cell? ⟨w.heap.size + 1, 0, none⟩ = some (.int .u8 2) ∧ W.cell? ⟨w.heap.size + 1, 1, none⟩ = some (.int .i64 (o.l.length : Int))) ∧ (W.cell? ⟨w.heap.size + 1 + 1, 0, none⟩ = some (.int .u8 x.k) ∧ W.cell? ⟨w.heap.size + 1 + 1, 1, none⟩ = some (.int .i64 x.n))) ∧ W.cell? ⟨O5, 2, none⟩ = some (.slice qo o.l.length co) ∧ W.cell? ⟨H, 0, none⟩ = some (.slice (some ⟨g, 0, none⟩) S.length c)) (by kernel_rfl) S0 (fun hHeld => ?_)
  refine Bk.take_at (i := 0) (d := 99) (v := ?v0) rfl rfl (by kernel_rfl) (by kernel_rfl) (by kernel_rfl) (fun _ _ _ h => h) (Or.inl ⟨by rfl, ?hy0⟩) (by assumption) ?rest0
  case hy0 => (intro w hSw; (try dsimp only at hSw); go_simp; try with_reducible rfl)
  try simp only [List.setIfInBounds_toArray, List.set_cons_zero, List.set_cons_succ]
  refine Bk.take_at (i := 1) (d := 100) (v := ?v1) rfl rfl (by kernel_rfl) (by kernel_rfl) (by kernel_rfl) (fun _ _ _ h => h) (Or.inl ⟨by rfl, ?hy1⟩) (by assumption) ?rest1
  case hy1 => (intro w hSw; (try dsimp only at hSw); go_simp; try with_reducible rfl)
  try simp only [List.setIfInBounds_toArray, List.set_cons_zero, List.set_cons_succ]
  refine Bk.take_at (i := 2) (d := 101) (v := ?v2) rfl rfl (by kernel_rfl) (by kernel_rfl) (by kernel_rfl) (fun _ _ _ h => h) (Or.inl ⟨by rfl, ?hy2⟩) (by assumption) ?rest2
  case hy2 => (intro w hSw; (try dsimp only at hSw); go_simp; try with_reducible rfl)
  try simp only [List.setIfInBounds_toArray, List.set_cons_zero, List.set_cons_succ]
  refine Bk.take_at (i := 3) (d := 102) (v := ?v3) rfl rfl (by kernel_rfl) (by kernel_rfl) (by kernel_rfl) (fun _ _ _ h => h) (Or.inl ⟨by rfl, ?hy3⟩) (by assumption) ?rest3
  case hy3 => (intro w hSw; (try dsimp only at hSw); go_simp; try with_reducible rfl)
  try simp only [List.setIfInBounds_toArray, List.set_cons_zero, List.set_cons_succ]
  refine Bk.take_at (i := 4) (d := 103) (v := ?v4) rfl rfl (by kernel_rfl) (by kernel_rfl) (by kernel_rfl) (fun _ _ _ h => h) (Or.inl ⟨by rfl, ?hy4⟩) (by assumption) ?rest4
  case hy4 => (intro w hSw; (try dsimp only at hSw); go_simp; try with_reducible rfl)
  try simp only [List.setIfInBounds_toArray, List.set_cons_zero, List.set_cons_succ]
  refine Bk.take_at (i := 5) (d := 104) (v := ?v5) rfl rfl (by kernel_rfl) (by kernel_rfl) (by kernel_rfl) (fun _ _ _ h => h) (Or.inl ⟨by rfl, ?hy5⟩) (by assumption) ?rest5
  case hy5 => (intro w hSw; (try dsimp only at hSw); go_simp; try with_reducible rfl)
  try simp only [List.setIfInBounds_toArray, List.set_cons_zero, List.set_cons_succ]
  refine Bk.take_at (i := 6) (d := 105) (v := ?v6) rfl rfl (by kernel_rfl) (by kernel_rfl) (by kernel_rfl) (fun _ _ _ h => h) (Or.inl ⟨by rfl, ?hy6⟩) (by assumption) ?rest6
  case hy6 => (intro w hSw; (try dsimp only at hSw); go_simp; try with_reducible rfl)
  try simp only [List.setIfInBounds_toArray, List.set_cons_zero, List.set_cons_succ]
  refine Bk.take_at (i := 7) (d := 106) (v := ?v7) rfl rfl (by kernel_rfl) (by kernel_rfl) (by kernel_rfl) (fun _ _ _ h => h) (Or.inl ⟨by rfl, ?hy7⟩) (by assumption) ?rest7
  case hy7 => (intro w hSw; (try dsimp only at hSw); go_simp; try with_reducible rfl)
  try simp only [List.setIfInBounds_toArray, List.set_cons_zero, List.set_cons_succ]
  refine Bk.take_at (i := 8) (d := 107) (v := ?v8) rfl rfl (by kernel_rfl) (by kernel_rfl) (by kernel_rfl) (fun _ _ _ h => h) (Or.inl ⟨by rfl, ?hy8⟩) (by assumption) ?rest8
  case hy8 => (intro w hSw; (try dsimp only at hSw); go_simp; try with_reducible rfl)
  try simp only [List.setIfInBounds_toArray, List.set_cons_zero, List.set_cons_succ]
  refine Bk.take_at (i := 10) (d := 109) (v := ?v10) rfl rfl (by kernel_rfl) (by kernel_rfl) (by kernel_rfl) (fun _ _ _ h => h) (Or.inl ⟨by rfl, ?hy10⟩) (by assumption) ?rest10
  case hy10 => (intro w hSw; (try dsimp only at hSw); go_simp; try with_reducible rfl)
  try simp only [List.setIfInBounds_toArray, List.set_cons_zero, List.set_cons_succ]
  refine wpAnyH_ready (rs := [9, 11]) (by kernel_rfl) (by simp) ?_
  refine AllReadyH.cons rfl (fun K hK => ?_) (AllReadyH.cons rfl (fun K hK => ?_) AllReadyH.nil)
  · obtain ⟨v4, w4, hrun4, hown4, hB4⟩ := A1
    have hB4' : Below w9.heap.size w9 w4 := hD9.trans hB4
    have hs4 := hB4'.size
    have hbN := below1 w4 (.cells #[.int .u8 x.k, .int .i64 x.n] 27)
    have hB6' := hB4'.trans (hbN.mono hs4)
    obtain ⟨g5, c5, w5, hrun5, hown5, hB5⟩ := app2 (base := w9.heap.size) (n := o.l.length) (by simp; omega) ((row_mono2 hown4 (by simp)).alloc (.cells #[.int .u8 x.k, .int .i64 x.n] 27)) (Nat.le_of_lt HL9.out) (one_val (v := x) (heap_alloc_new w4 (.cells #[.int .u8 x.k, .int .i64 x.n] 27))) (by simp) (by simp)
    simp only [List.length_cons, List.length_nil, Nat.zero_add, Nat.reduceAdd] at hrun5 hown5
    have hB5' : Below w9.heap.size w9 w5 := hB6'.trans hB5
    refine step_append_run (by rfl) _ _ _ (by rfl) _ _ v4 w4 (by rfl) (by rfl) hrun4 ?_
    refine hK.out _ _ (F _ hB4') (fun hHeld2 => ?_)
    clear hK
    try simp only [Act.put, List.setIfInBounds_toArray, List.set_cons_zero, List.set_cons_succ]
    refine wpAnyH_ready (rs := [11]) (by kernel_rfl) (by simp) ?_
    refine AllReadyH.cons rfl (fun K hK => ?_) AllReadyH.nil
    go_simp
    refine hK.out _ _ (F _ hB6') (fun hHeld3 => ?_)
    clear hK
    try simp only [Act.put, List.setIfInBounds_toArray, List.set_cons_zero, List.set_cons_succ]
    refine wpAnyH_ready (rs := [12]) (by kernel_rfl) (by simp) ?_
    refine AllReadyH.cons rfl (fun K hK => ?_) AllReadyH.nil
    have hown5' := vt_of_row hown5
    obtain ⟨l8, l9⟩ := G _ hB5'
    refine step_append_run (by rfl) _ _ _ (by rfl) _ _ (.slice (some ⟨g5, 0, none⟩) (o.l.length + 1) c5) w5 (by rfl) (by rfl) hrun5 ?_
    refine hK.out _ _ (F _ hB5') (fun hHeld4 => ?_)
    clear hK
    try simp only [Act.put, List.setIfInBounds_toArray, List.set_cons_zero, List.set_cons_succ]
    refine Bk.take_at (i := 13) (d := 112) (v := ?v13a) rfl rfl (by kernel_rfl) (by kernel_rfl) (by kernel_rfl) (fun _ _ _ h => h) (Or.inl ⟨by rfl, ?hy13a⟩) (by assumption) ?rest13a
    case hy13a => (intro w hSw; (try dsimp only at hSw); go_simp; try with_reducible rfl)
    try simp only [List.setIfInBounds_toArray, List.set_cons_zero, List.set_cons_succ]
    refine Bk.take_at (i := 14) (d := 113) (v := ?v14a) rfl rfl (by kernel_rfl) (by kernel_rfl) (by kernel_rfl) (fun _ _ _ h => h) (Or.inl ⟨by rfl, ?hy14a⟩) (by assumption) ?rest14a
    case hy14a => (intro w hSw; (try dsimp only at hSw); go_simp; try with_reducible rfl)
    try simp only [List.setIfInBounds_toArray, List.set_cons_zero, List.set_cons_succ]
    refine wpAnyH_ready (rs := [15]) (by kernel_rfl) (by simp) ?_
    refine AllReadyH.cons rfl (fun K hK => ?_) AllReadyH.nil
    go_simp
    refine hK.out _ _ (FT _ _ hB5') (fun hHeld5 => ?_)
    clear hK
    try simp only [Act.put, List.setIfInBounds_toArray, List.set_cons_zero, List.set_cons_succ]
    refine wpAnyH_done (by kernel_rfl) ?_ _
    clear hHeld hHeld2 hHeld3 hHeld4 hHeld5
    clear hrun5 hrun4 hown4 l8 l9
    have hBw5 := hBw9.trans (hB5'.mono hBw9.size)
    have m3 := (hB5'.block _ (Array.getElem?_eq_some_iff.1 n3).1).trans n3
    have m0 := (hB5'.block _ (Array.getElem?_eq_some_iff.1 n0).1).trans n0
    have hx5 : (ts.set i ⟨{ o with l := o.l ++ [x] }, .slice (some ⟨g5, 0, none⟩) (o.l.length + 1) c5⟩)[i]? = some ⟨{ o with l := o.l ++ [x] }, .slice (some ⟨g5, 0, none⟩) (o.l.length + 1) c5⟩ := by
      have := (List.getElem?_eq_some_iff.1 hxp).1
      simp [this]
    have hRa := (hR9.below hB5').set (d := 2) (by omega) hxp (y := ⟨{ o with l := o.l ++ [x] }, .slice (some ⟨g5, 0, none⟩) (o.l.length + 1) c5⟩) (.slice (some ⟨g5, 0, none⟩) (o.l.length + 1) c5) (by simp [pcell, hxo]) ⟨_, c5, by simp, (fun e => by cases e), hown5'⟩
    have hSa : (S.set i { o with l := o.l ++ [x] })[i]? = some { o with l := o.l ++ [x] } := by simp [hSi]
    have hgB : w.heap.size + 1 + 1 + 1 ≠ g := by omega
    have hgA : w.heap.size ≠ g := by omega
    have hr7 := (heap_setCell_other w5 ⟨g, i * 5 + 2, none⟩ _ (.slice (some ⟨g5, 0, none⟩) (o.l.length + 1) c5) hgB).trans m3
    have hm7 := (heap_setCell_other w5 ⟨g, i * 5 + 2, none⟩ _ (.slice (some ⟨g5, 0, none⟩) (o.l.length + 1) c5) hgA).trans m0
    have hB7 := below_set (i := i * 5 + 2) (hBw5.mono hbw) hgb (.slice (some ⟨g5, 0, none⟩) (o.l.length + 1) c5)
    have hF7 : ∀ k, k < w.heap.size → some g ≠ some k → (w5.setCell ⟨g, i * 5 + 2, none⟩ (.slice (some ⟨g5, 0, none⟩) (o.l.length + 1) c5)).heap[k]? = w.heap[k]? := fun k hk hkg => (heap_setCell_other w5 ⟨g, i * 5 + 2, none⟩ _ _ (fun e => hkg (by rw [e]))).trans (hBw5.block k hk)
    have HF7 : Hid _ := hF7
    clear hF7
    have hVa : ∃ q cq, (Value.slice (some ⟨g5, 0, none⟩) (o.l.length + 1) c5) = .slice q (o.l ++ [x]).length cq ∧ (q = none → cq = 0) ∧ VT (w5.setCell ⟨g, i * 5 + 2, none⟩ (.slice (some ⟨g5, 0, none⟩) (o.l.length + 1) c5)) q (o.l ++ [x]) := by
      have := hRa.lst _ (List.mem_of_getElem? hx5)
      exact this
    try clear A1B
    try clear A1
    clear F G FT S0 S1 SW hbB hnB hD9 n0 n1 n2 n3 n5 hv9 hB9 hB4 hB4' hB5 hB5' hown5 hown5' hBw9 hBw6 hgn hO5g hgl hcl hcr hcur hfz hR9 hBw5 m3 m0
    generalize w5.setCell ⟨g, i * 5 + 2, none⟩ (.slice (some ⟨g5, 0, none⟩) (o.l.length + 1) c5) = w7 at *
    obtain ⟨a0, a1⟩ := cell_row2 hm7
    obtain ⟨xp2, g2, hxp2, hxo2, eg, hgl2, hgb2, hfz, hcl, hcr, cur2, hcur⟩ := hRa.at_i hSa
    cases eg
    have hcH := hRa.at_.cell
    rw [List.length_set] at hcH
    have hfz3 := hfz (i * 5 + 3)
    clear hfz hcl hcur hgl2 hgb2 hm7
    go_wp2_with fail
    go_region
    have hR8 := (hRa.set (d := 3) (by omega) hx5 (y := ⟨{ o with l := o.l ++ [x], room := GP.1 }, .slice (some ⟨g5, 0, none⟩) (o.l.length + 1) c5⟩) (.int .i64 GP.1) (by simp [pcell]) hVa).below (below_drew (Below.refl _ _))
    rw [List.set_set] at hR8
    have hr := (heap_setCell_other w7 ⟨g, i * 5 + 3, none⟩ _ (.int .i64 GP.1) hgB).trans hr7
    have hB8 := below_drew (below_set (i := i * 5 + 3) hB7 hgb (.int .i64 GP.1))
    obtain ⟨⟨z0, z1, z2, z3⟩, y0, y1, y2, y3⟩ := cell_row4D hr
    go_wp2
    refine bodyPost_ret (results_cell_row (by rfl) _ _ (w.heap.size + 1 + 1 + 1) 38 _ _ _ (by rfl) (set4_rowD hr) Tryz.underlying38 (by rfl) infoRd) (by rfl) ?_
    obtain rfl := HGP.out
    exact ⟨rfl, ⟨_, _, _, hR8.set4 hr _ _ _ _⟩, below_set4 hB8 (by omega) _ _ _ _⟩
  · obtain ⟨v4, w4, hrun4, hown4, hB4⟩ := A1B
    have hB4' : Below w9.heap.size w9 w4 := (hD9.trans (hbB.mono hD9.size)).trans (hB4.mono (by simp))
    have hs4 := hB4'.size
    have hnB4 := (hB4.block _ (by simp)).trans hnB
    obtain ⟨g5, c5, w5, hrun5, hown5, hB5⟩ := app2 (base := w9.heap.size) (n := o.l.length) hs4 (row_mono2 hown4 (by simp)) (Nat.le_of_lt HL9.out) (one_val (v := x) hnB4) (by simp) (by simp)
    simp only [List.length_cons, List.length_nil, Nat.zero_add, Nat.reduceAdd] at hrun5 hown5
    have hB5' : Below w9.heap.size w9 w5 := hB4'.trans hB5
    go_simp
    refine hK.out _ _ S1 (fun hHeld2 => ?_)
    clear hK
    try simp only [Act.put, List.setIfInBounds_toArray, List.set_cons_zero, List.set_cons_succ]
    refine wpAnyH_ready (rs := [9]) (by kernel_rfl) (by simp) ?_
    refine AllReadyH.cons rfl (fun K hK => ?_) AllReadyH.nil
    refine step_append_run (by rfl) _ _ _ (by rfl) _ _ v4 w4 (by rfl) (by rfl) hrun4 ?_
    refine hK.out _ _ (F _ hB4') (fun hHeld3 => ?_)
    clear hK
    try simp only [Act.put, List.setIfInBounds_toArray, List.set_cons_zero, List.set_cons_succ]
    refine wpAnyH_ready (rs := [12]) (by kernel_rfl) (by simp) ?_
    refine AllReadyH.cons rfl (fun K hK => ?_) AllReadyH.nil
    have hown5' := vt_of_row hown5
    obtain ⟨l8, l9⟩ := G _ hB5'
    refine step_append_run (by rfl) _ _ _ (by rfl) _ _ (.slice (some ⟨g5, 0, none⟩) (o.l.length + 1) c5) w5 (by rfl) (by rfl) hrun5 ?_
    refine hK.out _ _ (F _ hB5') (fun hHeld4 => ?_)
    clear hK
    try simp only [Act.put, List.setIfInBounds_toArray, List.set_cons_zero, List.set_cons_succ]
    refine Bk.take_at (i := 13) (d := 112) (v := ?v13b) rfl rfl (by kernel_rfl) (by kernel_rfl) (by kernel_rfl) (fun _ _ _ h => h) (Or.inl ⟨by rfl, ?hy13b⟩) (by assumption) ?rest13b
    case hy13b => (intro w hSw; (try dsimp only at hSw); go_simp; try with_reducible rfl)
    try simp only [List.setIfInBounds_toArray, List.set_cons_zero, List.set_cons_succ]
    refine Bk.take_at (i := 14) (d := 113) (v := ?v14b) rfl rfl (by kernel_rfl) (by kernel_rfl) (by kernel_rfl) (fun _ _ _ h => h) (Or.inl ⟨by rfl, ?hy14b⟩) (by assumption) ?rest14b
    case hy14b => (intro w hSw; (try dsimp only at hSw); go_simp; try with_reducible rfl)
    try simp only [List.setIfInBounds_toArray, List.set_cons_zero, List.set_cons_succ]
    refine wpAnyH_ready (rs := [15]) (by kernel_rfl) (by simp) ?_
    refine AllReadyH.cons rfl (fun K hK => ?_) AllReadyH.nil
    go_simp
    refine hK.out _ _ (FT _ _ hB5') (fun hHeld5 => ?_)
    clear hK
    try simp only [Act.put, List.setIfInBounds_toArray, List.set_cons_zero, List.set_cons_succ]
    refine wpAnyH_done (by kernel_rfl) ?_ _
    clear hHeld hHeld2 hHeld3 hHeld4 hHeld5
    clear hrun5 hrun4 hown4 l8 l9
    have hBw5 := hBw9.trans (hB5'.mono hBw9.size)
    have m3 := (hB5'.block _ (Array.getElem?_eq_some_iff.1 n3).1).trans n3
    have m0 := (hB5'.block _ (Array.getElem?_eq_some_iff.1 n0).1).trans n0
    have hx5 : (ts.set i ⟨{ o with l := o.l ++ [x] }, .slice (some ⟨g5, 0, none⟩) (o.l.length + 1) c5⟩)[i]? = some ⟨{ o with l := o.l ++ [x] }, .slice (some ⟨g5, 0, none⟩) (o.l.length + 1) c5⟩ := by
      have := (List.getElem?_eq_some_iff.1 hxp).1
      simp [this]
    have hRa := (hR9.below hB5').set (d := 2) (by omega) hxp (y := ⟨{ o with l := o.l ++ [x] }, .slice (some ⟨g5, 0, none⟩) (o.l.length + 1) c5⟩) (.slice (some ⟨g5, 0, none⟩) (o.l.length + 1) c5) (by simp [pcell, hxo]) ⟨_, c5, by simp, (fun e => by cases e), hown5'⟩
    have hSa : (S.set i { o with l := o.l ++ [x] })[i]? = some { o with l := o.l ++ [x] } := by simp [hSi]
    have hgB : w.heap.size + 1 + 1 + 1 ≠ g := by omega
    have hgA : w.heap.size ≠ g := by omega
    have hr7 := (heap_setCell_other w5 ⟨g, i * 5 + 2, none⟩ _ (.slice (some ⟨g5, 0, none⟩) (o.l.length + 1) c5) hgB).trans m3
    have hm7 := (heap_setCell_other w5 ⟨g, i * 5 + 2, none⟩ _ (.slice (some ⟨g5, 0, none⟩) (o.l.length + 1) c5) hgA).trans m0
    have hB7 := below_set (i := i * 5 + 2) (hBw5.mono hbw) hgb (.slice (some ⟨g5, 0, none⟩) (o.l.length + 1) c5)
    have hF7 : ∀ k, k < w.heap.size → some g ≠ some k → (w5.setCell ⟨g, i * 5 + 2, none⟩ (.slice (some ⟨g5, 0, none⟩) (o.l.length + 1) c5)).heap[k]? = w.heap[k]? := fun k hk hkg => (heap_setCell_other w5 ⟨g, i * 5 + 2, none⟩ _ _ (fun e => hkg (by rw [e]))).trans (hBw5.block k hk)
    have HF7 : Hid _ := hF7
    clear hF7
    have hVa : ∃ q cq, (Value.slice (some ⟨g5, 0, none⟩) (o.l.length + 1) c5) = .slice q (o.l ++ [x]).length cq ∧ (q = none → cq = 0) ∧ VT (w5.setCell ⟨g, i * 5 + 2, none⟩ (.slice (some ⟨g5, 0, none⟩) (o.l.length + 1) c5)) q (o.l ++ [x]) := by
      have := hRa.lst _ (List.mem_of_getElem? hx5)
      exact this
    try clear A1B
    try clear A1
    clear F G FT S0 S1 SW hbB hnB hD9 n0 n1 n2 n3 n5 hv9 hB9 hB4 hB4' hB5 hB5' hown5 hown5' hBw9 hBw6 hgn hO5g hgl hcl hcr hcur hfz hR9 hBw5 m3 m0
    generalize w5.setCell ⟨g, i * 5 + 2, none⟩ (.slice (some ⟨g5, 0, none⟩) (o.l.length + 1) c5) = w7 at *
    obtain ⟨a0, a1⟩ := cell_row2 hm7
    obtain ⟨xp2, g2, hxp2, hxo2, eg, hgl2, hgb2, hfz, hcl, hcr, cur2, hcur⟩ := hRa.at_i hSa
    cases eg
    have hcH := hRa.at_.cell
    rw [List.length_set] at hcH
    have hfz3 := hfz (i * 5 + 3)
    clear hfz hcl hcur hgl2 hgb2 hm7
    go_wp2_with fail
    go_region
    have hR8 := (hRa.set (d := 3) (by omega) hx5 (y := ⟨{ o with l := o.l ++ [x], room := GP.1 }, .slice (some ⟨g5, 0, none⟩) (o.l.length + 1) c5⟩) (.int .i64 GP.1) (by simp [pcell]) hVa).below (below_drew (Below.refl _ _))
    rw [List.set_set] at hR8
    have hr := (heap_setCell_other w7 ⟨g, i * 5 + 3, none⟩ _ (.int .i64 GP.1) hgB).trans hr7
    have hB8 := below_drew (below_set (i := i * 5 + 3) hB7 hgb (.int .i64 GP.1))
    obtain ⟨⟨z0, z1, z2, z3⟩, y0, y1, y2, y3⟩ := cell_row4D hr
    go_wp2
    refine bodyPost_ret (results_cell_row (by rfl) _ _ (w.heap.size + 1 + 1 + 1) 38 _ _ _ (by rfl) (set4_rowD hr) Tryz.underlying38 (by rfl) infoRd) (by rfl) ?_
    obtain rfl := HGP.out
    exact ⟨rfl, ⟨_, _, _, hR8.set4 hr _ _ _ _⟩, below_set4 hB8 (by omega) _ _ _ _⟩



end Go.Proofs.YtgokofomoachaaaGreatDoor
