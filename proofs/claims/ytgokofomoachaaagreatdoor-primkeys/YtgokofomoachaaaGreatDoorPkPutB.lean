/- The document's putKey: a new key. -/
import Derived.Test.YtgokofomoachaaaGreatDoorPkPutA
import Derived.Test.YtgokofomoachaaaGreatDoorBkMem
namespace Go.Proofs.YtgokofomoachaaaGreatDoor
set_option linter.unusedVariables false
set_option linter.unusedSimpArgs false
open Go.RowKit

variable {w : World}

set_option maxRecDepth 20000 in
set_option maxHeartbeats 8000000 in
theorem rPutKey_none {base H : Nat} {S : List Om} {p : Option Addr} {c : Nat} {ts : List Po} (hR : Rh base w H S p c ts) (hbw : base ≤ w.heap.size) (h : Ask w p S) (vk : Nat) (k x : Vl) {i : Nat} {o : Om} (ho : leadO S ⟨vk, (i : Int) + 1⟩ = some o) (hSo : S[i]? = some o) (hobj : objP S o) (hl9 : o.l.length ≤ 131072) (hro : 0 ≤ o.room ∧ o.room ≤ 1099511627776) (hev : o.l.length % 2 = 0) (hsk : SameOk S k) (hka : KeyAt S o.l k none) {D : Dv} (hD : D = putPairP S i o k x none) :
    Calls Tryz.prog 140 #[.pointer (some ⟨H, 0, none⟩), .agg #[.int .u8 vk, .int .i64 ((i : Int) + 1)], .agg #[.int .u8 k.k, .int .i64 k.n], .agg #[.int .u8 x.k, .int .i64 x.n], .bool false] w fun e w' => e = .returned (.agg #[.int .u8 D.v.k, .int .i64 D.v.n, .string D.t, .int .i64 D.n]) ∧ (∃ p' c' ts', Rh base w' H D.S p' c' ts') ∧ Below base w w' ∧ ∀ (k : Nat) (cur : Array Value), k < w.heap.size → w.heap[k]? = some (.cells cur 38 (0, 0)) → w'.heap[k]? = w.heap[k]? := by
  obtain ⟨i0, hi, hz0, hz1, hz2⟩ := info_parts infoVp
  have hss := obj_same hobj
  have hSi := (List.getElem?_eq_some_iff.1 hSo).1
  have hSl := h.len
  have hB := below4' w (.cells #[.int .u8 vk, .int .i64 ((i : Int) + 1)] 27) (.cells #[.int .u8 k.k, .int .i64 k.n] 27) (.cells #[.int .u8 x.k, .int .i64 x.n] 27) (.cells #[.int .u8 0, .int .i64 0, .string ⟨#[]⟩, .int .i64 0] 38)
  have e0 := heap4_0 w (.cells #[.int .u8 vk, .int .i64 ((i : Int) + 1)] 27) (.cells #[.int .u8 k.k, .int .i64 k.n] 27) (.cells #[.int .u8 x.k, .int .i64 x.n] 27) (.cells #[.int .u8 0, .int .i64 0, .string ⟨#[]⟩, .int .i64 0] 38)
  have e1 := heap4_1 w (.cells #[.int .u8 vk, .int .i64 ((i : Int) + 1)] 27) (.cells #[.int .u8 k.k, .int .i64 k.n] 27) (.cells #[.int .u8 x.k, .int .i64 x.n] 27) (.cells #[.int .u8 0, .int .i64 0, .string ⟨#[]⟩, .int .i64 0] 38)
  have e2 := heap4_2 w (.cells #[.int .u8 vk, .int .i64 ((i : Int) + 1)] 27) (.cells #[.int .u8 k.k, .int .i64 k.n] 27) (.cells #[.int .u8 x.k, .int .i64 x.n] 27) (.cells #[.int .u8 0, .int .i64 0, .string ⟨#[]⟩, .int .i64 0] 38)
  have e3 := heap4_3 w (.cells #[.int .u8 vk, .int .i64 ((i : Int) + 1)] 27) (.cells #[.int .u8 k.k, .int .i64 k.n] 27) (.cells #[.int .u8 x.k, .int .i64 x.n] 27) (.cells #[.int .u8 0, .int .i64 0, .string ⟨#[]⟩, .int .i64 0] 38)
  obtain ⟨x0, x1⟩ := cell_row2 e0
  have HO := robj_in (h.below hB) c (hR.at_.below hB) ⟨vk, (i : Int) + 1⟩ ho
  have HDq : Hid _ := hD
  clear hD
  go_enter Tryz.func140, Tryz.ntmps140
  go_wp2_with (first
    | (go_at_call 59; (with_reducible refine HO.mono ?_); clear HO; rintro e w1 ⟨qo, co, rfl, hvo, hqn, hB1⟩; refine halt_here ?_))
  unfold Halted
  have hBw1 := hB.trans (hB1.mono hB.size)
  have f0 := (hB1.block _ (Array.getElem?_eq_some_iff.1 e0).1).trans e0
  have f1 := (hB1.block _ (Array.getElem?_eq_some_iff.1 e1).1).trans e1
  have f2 := (hB1.block _ (Array.getElem?_eq_some_iff.1 e2).1).trans e2
  have f3 := (hB1.block _ (Array.getElem?_eq_some_iff.1 e3).1).trans e3
  have hA5 := below1 w1 (.cells #[.int .u8 o.k, .string o.s, .slice qo o.l.length co, .int .i64 o.room, .int .i64 o.fn] 96)
  have g5 := heap_alloc_new w1 (.cells #[.int .u8 o.k, .string o.s, .slice qo o.l.length co, .int .i64 o.room, .int .i64 o.fn] 96)
  have g0 := (hA5.block _ (Array.getElem?_eq_some_iff.1 f0).1).trans f0
  have g1 := (hA5.block _ (Array.getElem?_eq_some_iff.1 f1).1).trans f1
  have g2 := (hA5.block _ (Array.getElem?_eq_some_iff.1 f2).1).trans f2
  have g3 := (hA5.block _ (Array.getElem?_eq_some_iff.1 f3).1).trans f3
  have hBw5 := hBw1.trans (hA5.mono hBw1.size)
  have hR5 := hR.below hBw5
  have hv5 := (hvo.below hB1).below hA5
  obtain ⟨⟨p0, p1, p2, p3, p4⟩, -⟩ := cell_row5 g5
  obtain ⟨y0, y1⟩ := cell_row2 g1
  have HA := rAt_in (h.below hBw5) c hR5.at_ co hv5 (by omega) hss k hsk none hka
  clear x0 x1 e0 e1 e2 e3 f0 f1 f2 f3 hvo hss
  go_wp2_with (first
    | (go_at_call 69; (with_reducible refine HA.mono ?_); clear HA; rintro e w6 ⟨rfl, hB6⟩; refine halt_here ?_))
  unfold Halted
  have hl5 : w1.heap.size < (w1.alloc (.cells #[.int .u8 o.k, .string o.s, .slice qo o.l.length co, .int .i64 o.room, .int .i64 o.fn] 96)).heap.size := by simp
  have k5 := (hB6.block _ hl5).trans g5
  have k0 := (hB6.block _ (Array.getElem?_eq_some_iff.1 g0).1).trans g0
  have k1 := (hB6.block _ (Array.getElem?_eq_some_iff.1 g1).1).trans g1
  have k2 := (hB6.block _ (Array.getElem?_eq_some_iff.1 g2).1).trans g2
  have k3 := (hB6.block _ (Array.getElem?_eq_some_iff.1 g3).1).trans g3
  have hBw6 := hBw5.trans (hB6.mono hBw5.size)
  have hR6 := hR5.below hB6
  have hv6 := hv5.below hB6
  have hw1 : w.heap.size + 1 + 1 + 1 + 1 ≤ w1.heap.size := by have := hB1.size; simp at this; omega
  clear p0 p1 p2 p3 p4 y0 y1 g0 g1 g2 g3 g5 hv5 hR5 hB6 hBw5 hA5 hB hB1 hBw1
  generalize hO5 : w1.heap.size = O5 at *
  clear hl5 hO5
  obtain ⟨⟨p0, p1, p2, p3, p4⟩, -⟩ := cell_row5 k5
  obtain ⟨y0, y1⟩ := cell_row2 k1
  obtain ⟨x0, x1⟩ := cell_row2 k0
  obtain ⟨u0, u1⟩ := cell_row2 k2
  have hbs6 : base ≤ w6.heap.size := Nat.le_trans hbw hBw6.size
  have hq : atI none = -1 := rfl
  rw [hq]
  clear hq
  by_cases hmx : o.l.length = 131072
  · have hd : D = ⟨S, ⟨0, 0⟩, tItems, 0⟩ := by rw [HDq.out]; unfold putPairP; rw [if_pos hmx]
    subst hd
    have H1 := thrown_in tItems w6 (d := { t := tItems }) rfl
    unfold tItems at H1
    have hmx' : (o.l.length : Int) = 131072 := by omega
    clear HDq hka
    go_wp2_with (first
      | (go_at_call 55; (with_reducible refine H1.mono ?_); clear H1; rintro e w9 ⟨rfl, hB9⟩; have hr := (hB9.block _ (Array.getElem?_eq_some_iff.1 k3).1).trans k3; obtain ⟨⟨z0, z1, z2, z3⟩, y0, y1, y2, y3⟩ := cell_row4D hr))
    refine bodyPost_ret (results_cell_row (by rfl) _ _ (w.heap.size + 1 + 1 + 1) 38 _ _ _ (by rfl) (set4_rowD hr) Tryz.underlying38 (by rfl) infoRd) (by rfl) ?_
    exact ⟨rfl, ⟨p, c, ts, (hR6.below hB9).set4 hr _ _ _ _⟩, below_set4 ((hBw6.mono hbw).trans (hB9.mono hbs6)) (by omega) _ _ _ _, did_frame none (fun b e => by cases e) (by omega) (fun k hk _ => (hB9.block k (by have := hBw6.size; omega)).trans (hBw6.block k hk))⟩
  · have hd : D = ⟨S.set i { o with l := o.l ++ [k, x], room := (grownP o ((o.l.length : Int) + 2) 8).1 }, ⟨0, 0⟩, ⟨#[]⟩, (grownP o ((o.l.length : Int) + 2) 8).2⟩ := by
      rw [HDq.out]
      unfold putPairP addedP grownP
      rw [if_neg hmx]
      by_cases hrr : o.room < (o.l.length : Int) + 2
      · rw [if_pos (by simpa using hrr), if_pos hrr]
      · rw [if_neg (by simpa using hrr), if_neg hrr]
    subst hd
    have hmx' : (o.l.length : Int) < 131072 := by omega
    have HL9 : Hid (o.l.length < 131072) := (by omega : o.l.length < 131072)
    have hmy : ¬ ((131072 : Int) ≤ (o.l.length : Int)) := by omega
    clear hmx hl9 hmx'
    have HG := rGrown_in o qo o.l.length co ((o.l.length : Int) + 2) 8 w6 hro.1 hro.2 (by omega) (by omega)
    clear HDq hka
    generalize hGP : grownP o ((o.l.length : Int) + 2) 8 = GP at *
    go_wp2_with (first
      | (go_at_call 141; (with_reducible refine HG.mono ?_); clear HG; rintro e w9 ⟨rfl, hB9⟩; refine halt_here ?_))
    unfold Halted
    have hBw9 := hBw6.trans (hB9.mono hBw6.size)
    have hR9 := hR6.below hB9
    have hv9 := hv6.below hB9
    have n5 := (hB9.block _ (Array.getElem?_eq_some_iff.1 k5).1).trans k5
    have n0 := (hB9.block _ (Array.getElem?_eq_some_iff.1 k0).1).trans k0
    have n1 := (hB9.block _ (Array.getElem?_eq_some_iff.1 k1).1).trans k1
    have n2 := (hB9.block _ (Array.getElem?_eq_some_iff.1 k2).1).trans k2
    have n3 := (hB9.block _ (Array.getElem?_eq_some_iff.1 k3).1).trans k3
    clear x0 x1 y0 y1 u0 u1 p0 p1 p2 p3 p4 k5 k0 k1 k2 k3 hR6 hv6
    obtain ⟨xp, g, hxp, hxo, rfl, hgl, hgb, hfz, hcl, hcr, cur, hcur⟩ := hR9.at_i hSo
    have lH := World.block_lt_of_cell? w9 _ hR9.at_.cell
    have F : ∀ W', Below w9.heap.size w9 W' → ((W'.cell? ⟨w.heap.size, 0, none⟩ = some (.int .u8 vk) ∧ W'.cell? ⟨w.heap.size, 1, none⟩ = some (.int .i64 ((i : Int) + 1))) ∧ (W'.cell? ⟨w.heap.size + 1, 0, none⟩ = some (.int .u8 k.k) ∧ W'.cell? ⟨w.heap.size + 1, 1, none⟩ = some (.int .i64 k.n)) ∧ (W'.cell? ⟨w.heap.size + 1 + 1, 0, none⟩ = some (.int .u8 x.k) ∧ W'.cell? ⟨w.heap.size + 1 + 1, 1, none⟩ = some (.int .i64 x.n))) ∧ W'.cell? ⟨O5, 2, none⟩ = some (.slice qo o.l.length co) ∧ W'.cell? ⟨H, 0, none⟩ = some (.slice (some ⟨g, 0, none⟩) S.length c) := fun W' hb =>
      ⟨⟨cell_row2 ((hb.block _ (Array.getElem?_eq_some_iff.1 n0).1).trans n0), cell_row2 ((hb.block _ (Array.getElem?_eq_some_iff.1 n1).1).trans n1), cell_row2 ((hb.block _ (Array.getElem?_eq_some_iff.1 n2).1).trans n2)⟩, (cell_row5 ((hb.block _ (Array.getElem?_eq_some_iff.1 n5).1).trans n5)).1.2.2.1, (hR9.at_.below hb).cell⟩
    have G : ∀ W', Below w9.heap.size w9 W' → W'.cell? ⟨g, i * 5 + 2, none⟩ = some xp.lv ∧ W'.frozen? ⟨g, i * 5 + 2, none⟩ = false := fun W' hb => ⟨(hb.cell (p := ⟨g, i * 5 + 2, none⟩) hgl).trans hcl, (World.frozen?_of_block (a := ⟨g, i * 5 + 2, none⟩) (hb.block g hgl)).trans (hfz _)⟩
    have hgn : w.heap.size ≠ g ∧ w.heap.size + 1 ≠ g ∧ w.heap.size + 1 + 1 ≠ g ∧ H ≠ g := ⟨(fun e => by rw [e, hcur] at n0; cases n0), (fun e => by rw [e, hcur] at n1; cases n1), (fun e => by rw [e, hcur] at n2; cases n2), (fun e => by have := hR9.at_; unfold RhAt at this; rw [e, hcur] at this; cases this)⟩
    have hgl0 : g < w.heap.size := by obtain ⟨_, g0, _, _, e0, hg0, _⟩ := hR.at_i hSo; cases e0; exact hg0
    have hO5g : O5 ≠ g := by omega
    have FT : ∀ W' u, Below w9.heap.size w9 W' → (fun W => ((W.cell? ⟨w.heap.size, 0, none⟩ = some (.int .u8 vk) ∧ W.cell? ⟨w.heap.size, 1, none⟩ = some (.int .i64 ((i : Int) + 1))) ∧ (W.cell? ⟨w.heap.size + 1, 0, none⟩ = some (.int .u8 k.k) ∧ W.cell? ⟨w.heap.size + 1, 1, none⟩ = some (.int .i64 k.n)) ∧ (W.cell? ⟨w.heap.size + 1 + 1, 0, none⟩ = some (.int .u8 x.k) ∧ W.cell? ⟨w.heap.size + 1 + 1, 1, none⟩ = some (.int .i64 x.n))) ∧ W.cell? ⟨O5, 2, none⟩ = some (.slice qo o.l.length co) ∧ W.cell? ⟨H, 0, none⟩ = some (.slice (some ⟨g, 0, none⟩) S.length c)) (W'.setCell ⟨g, i * 5 + 2, none⟩ u) := fun W' u hb => by
      have c := fun (B d : Nat) (h : B ≠ g) => World.cell?_of_block (a := ⟨B, d, none⟩) (heap_setCell_other W' ⟨g, i * 5 + 2, none⟩ B u h)
      obtain ⟨⟨⟨h0, h1⟩, ⟨h2, h3⟩, h4, h5⟩, h6, h7⟩ := F W' hb
      exact ⟨⟨⟨(c _ _ hgn.1).trans h0, (c _ _ hgn.1).trans h1⟩, ⟨(c _ _ hgn.2.1).trans h2, (c _ _ hgn.2.1).trans h3⟩, (c _ _ hgn.2.2.1).trans h4, (c _ _ hgn.2.2.1).trans h5⟩, (c _ _ hO5g).trans h6, (c _ _ hgn.2.2.2).trans h7⟩
    have hiS : (i : Int) < (S.length : Int) := by omega
    have hi9 : i ≤ 1048576 := by omega
    have hwr : IntKind.i64.wrap (i : Int) = (i : Int) := wrap_small (by omega)
    have hD9 := below_drew (Below.refl w9.heap.size w9)
    have SW := F _ (Below.refl _ _)
    have S0 := F _ hD9
    have hv9d : Vals w9.drew qo o.l := hv9.below hD9
    have hbB := below1 w9.drew (.cells #[.int .u8 k.k, .int .i64 k.n, .int .u8 x.k, .int .i64 x.n] 27)
    have hnB := heap_alloc_new w9.drew (.cells #[.int .u8 k.k, .int .i64 k.n, .int .u8 x.k, .int .i64 x.n] 27)
    have hl131 : o.l.length ≤ 131072 := Nat.le_of_lt HL9.out
    have hv9b := hv9d.below hbB
    have A1 := app1 (co := co) hv9d hl131
    have A1B := app1 (co := co) hv9b hl131
    have S1 := F _ (hD9.trans (hbB.mono hD9.size))
    have HGP : Hid _ := hGP
    clear hGP hl131 hv9b hv9d hmy hev hro hobj ho hsk
    go_wp2_with fail
    refine wp_region_held_drew (S := fun W => ((W.cell? ⟨w.heap.size, 0, none⟩ = some (.int .u8 vk) ∧ W.cell? ⟨w.heap.size, 1, none⟩ = some (.int .i64 ((i : Int) + 1))) ∧ (W.cell? ⟨w.heap.size + 1, 0, none⟩ = some (.int .u8 k.k) ∧ W.cell? ⟨w.heap.size + 1, 1, none⟩ = some (.int .i64 k.n)) ∧ (W.cell? ⟨w.heap.size + 1 + 1, 0, none⟩ = some (.int .u8 x.k) ∧ W.cell? ⟨w.heap.size + 1 + 1, 1, none⟩ = some (.int .i64 x.n))) ∧ W.cell? ⟨O5, 2, none⟩ = some (.slice qo o.l.length co) ∧ W.cell? ⟨H, 0, none⟩ = some (.slice (some ⟨g, 0, none⟩) S.length c)) (by kernel_rfl) S0 (fun hHeld => ?_)
    refine Bk.take_at (i := 0) (d := 63) (v := ?v0) rfl rfl (by kernel_rfl) (by kernel_rfl) (by kernel_rfl) (fun _ _ _ h => h) (Or.inl ⟨by rfl, ?hy0⟩) (by assumption) ?rest0
    case hy0 => (intro w hSw; (try dsimp only at hSw); go_simp; try with_reducible rfl)
    try simp only [List.setIfInBounds_toArray, List.set_cons_zero, List.set_cons_succ]
    refine Bk.take_at (i := 1) (d := 64) (v := ?v1) rfl rfl (by kernel_rfl) (by kernel_rfl) (by kernel_rfl) (fun _ _ _ h => h) (Or.inl ⟨by rfl, ?hy1⟩) (by assumption) ?rest1
    case hy1 => (intro w hSw; (try dsimp only at hSw); go_simp; try with_reducible rfl)
    try simp only [List.setIfInBounds_toArray, List.set_cons_zero, List.set_cons_succ]
    refine Bk.take_at (i := 2) (d := 65) (v := ?v2) rfl rfl (by kernel_rfl) (by kernel_rfl) (by kernel_rfl) (fun _ _ _ h => h) (Or.inl ⟨by rfl, ?hy2⟩) (by assumption) ?rest2
    case hy2 => (intro w hSw; (try dsimp only at hSw); go_simp; try with_reducible rfl)
    try simp only [List.setIfInBounds_toArray, List.set_cons_zero, List.set_cons_succ]
    refine Bk.take_at (i := 3) (d := 66) (v := ?v3) rfl rfl (by kernel_rfl) (by kernel_rfl) (by kernel_rfl) (fun _ _ _ h => h) (Or.inl ⟨by rfl, ?hy3⟩) (by assumption) ?rest3
    case hy3 => (intro w hSw; (try dsimp only at hSw); go_simp; try with_reducible rfl)
    try simp only [List.setIfInBounds_toArray, List.set_cons_zero, List.set_cons_succ]
    refine Bk.take_at (i := 4) (d := 67) (v := ?v4) rfl rfl (by kernel_rfl) (by kernel_rfl) (by kernel_rfl) (fun _ _ _ h => h) (Or.inl ⟨by rfl, ?hy4⟩) (by assumption) ?rest4
    case hy4 => (intro w hSw; (try dsimp only at hSw); go_simp; try with_reducible rfl)
    try simp only [List.setIfInBounds_toArray, List.set_cons_zero, List.set_cons_succ]
    refine Bk.take_at (i := 5) (d := 68) (v := ?v5) rfl rfl (by kernel_rfl) (by kernel_rfl) (by kernel_rfl) (fun _ _ _ h => h) (Or.inl ⟨by rfl, ?hy5⟩) (by assumption) ?rest5
    case hy5 => (intro w hSw; (try dsimp only at hSw); go_simp; try with_reducible rfl)
    try simp only [List.setIfInBounds_toArray, List.set_cons_zero, List.set_cons_succ]
    refine Bk.take_at (i := 6) (d := 69) (v := ?v6) rfl rfl (by kernel_rfl) (by kernel_rfl) (by kernel_rfl) (fun _ _ _ h => h) (Or.inl ⟨by rfl, ?hy6⟩) (by assumption) ?rest6
    case hy6 => (intro w hSw; (try dsimp only at hSw); go_simp; try with_reducible rfl)
    try simp only [List.setIfInBounds_toArray, List.set_cons_zero, List.set_cons_succ]
    refine Bk.take_at (i := 7) (d := 70) (v := ?v7) rfl rfl (by kernel_rfl) (by kernel_rfl) (by kernel_rfl) (fun _ _ _ h => h) (Or.inl ⟨by rfl, ?hy7⟩) (by assumption) ?rest7
    case hy7 => (intro w hSw; (try dsimp only at hSw); go_simp; try with_reducible rfl)
    try simp only [List.setIfInBounds_toArray, List.set_cons_zero, List.set_cons_succ]
    refine Bk.take_at (i := 8) (d := 71) (v := ?v8) rfl rfl (by kernel_rfl) (by kernel_rfl) (by kernel_rfl) (fun _ _ _ h => h) (Or.inl ⟨by rfl, ?hy8⟩) (by assumption) ?rest8
    case hy8 => (intro w hSw; (try dsimp only at hSw); go_simp; try with_reducible rfl)
    try simp only [List.setIfInBounds_toArray, List.set_cons_zero, List.set_cons_succ]
    refine Bk.take_at (i := 10) (d := 73) (v := ?v10) rfl rfl (by kernel_rfl) (by kernel_rfl) (by kernel_rfl) (fun _ _ _ h => h) (Or.inl ⟨by rfl, ?hy10⟩) (by assumption) ?rest10
    case hy10 => (intro w hSw; (try dsimp only at hSw); go_simp; try with_reducible rfl)
    try simp only [List.setIfInBounds_toArray, List.set_cons_zero, List.set_cons_succ]
    refine Bk.take_at (i := 11) (d := 74) (v := ?v11) rfl rfl (by kernel_rfl) (by kernel_rfl) (by kernel_rfl) (fun _ _ _ h => h) (Or.inl ⟨by rfl, ?hy11⟩) (by assumption) ?rest11
    case hy11 => (intro w hSw; (try dsimp only at hSw); go_simp; try with_reducible rfl)
    try simp only [List.setIfInBounds_toArray, List.set_cons_zero, List.set_cons_succ]
    refine wpAnyH_ready (rs := [9, 12]) (by kernel_rfl) (by simp) ?_
    refine AllReadyH.cons rfl (fun K hK => ?_) (AllReadyH.cons rfl (fun K hK => ?_) AllReadyH.nil)
    · obtain ⟨v4, w4, hrun4, hown4, hB4⟩ := A1
      have hB4' : Below w9.heap.size w9 w4 := hD9.trans hB4
      have hs4 := hB4'.size
      have hbN := below1 w4 (.cells #[.int .u8 k.k, .int .i64 k.n, .int .u8 x.k, .int .i64 x.n] 27)
      have hB6' := hB4'.trans (hbN.mono hs4)
      obtain ⟨g5, c5, w5, hrun5, hown5, hB5⟩ := app2 (base := w9.heap.size) (n := o.l.length) (by simp; omega) ((row_mono2 hown4 (by simp)).alloc (.cells #[.int .u8 k.k, .int .i64 k.n, .int .u8 x.k, .int .i64 x.n] 27)) (Nat.le_of_lt HL9.out) (one_vals2 (u := k) (v := x) (heap_alloc_new w4 (.cells #[.int .u8 k.k, .int .i64 k.n, .int .u8 x.k, .int .i64 x.n] 27))) (by simp) (by simp)
      simp only [List.length_cons, List.length_nil, Nat.zero_add, Nat.reduceAdd] at hrun5 hown5
      have hB5' : Below w9.heap.size w9 w5 := hB6'.trans hB5
      refine step_append_run (by rfl) _ _ _ (by rfl) _ _ v4 w4 (by rfl) (by rfl) hrun4 ?_
      refine hK.out _ _ (F _ hB4') (fun hHeld2 => ?_)
      clear hK
      try simp only [Act.put, List.setIfInBounds_toArray, List.set_cons_zero, List.set_cons_succ]
      refine wpAnyH_ready (rs := [12]) (by kernel_rfl) (by simp) ?_
      refine AllReadyH.cons rfl (fun K hK => ?_) AllReadyH.nil
      go_simp
      refine hK.out _ _ (F _ hB6') (fun hHeld3 => ?_)
      clear hK
      try simp only [Act.put, List.setIfInBounds_toArray, List.set_cons_zero, List.set_cons_succ]
      refine wpAnyH_ready (rs := [13]) (by kernel_rfl) (by simp) ?_
      refine AllReadyH.cons rfl (fun K hK => ?_) AllReadyH.nil
      have hown5' := vt_of_row hown5
      obtain ⟨l8, l9⟩ := G _ hB5'
      refine step_append_run (by rfl) _ _ _ (by rfl) _ _ (.slice (some ⟨g5, 0, none⟩) (o.l.length + 2) c5) w5 (by rfl) (by rfl) hrun5 ?_
      refine hK.out _ _ (F _ hB5') (fun hHeld4 => ?_)
      clear hK
      try simp only [Act.put, List.setIfInBounds_toArray, List.set_cons_zero, List.set_cons_succ]
      refine Bk.take_at (i := 14) (d := 77) (v := ?v14a) rfl rfl (by kernel_rfl) (by kernel_rfl) (by kernel_rfl) (fun _ _ _ h => h) (Or.inl ⟨by rfl, ?hy14a⟩) (by assumption) ?rest14a
      case hy14a => (intro w hSw; (try dsimp only at hSw); go_simp; try with_reducible rfl)
      try simp only [List.setIfInBounds_toArray, List.set_cons_zero, List.set_cons_succ]
      refine Bk.take_at (i := 15) (d := 78) (v := ?v15a) rfl rfl (by kernel_rfl) (by kernel_rfl) (by kernel_rfl) (fun _ _ _ h => h) (Or.inl ⟨by rfl, ?hy15a⟩) (by assumption) ?rest15a
      case hy15a => (intro w hSw; (try dsimp only at hSw); go_simp; try with_reducible rfl)
      try simp only [List.setIfInBounds_toArray, List.set_cons_zero, List.set_cons_succ]
      refine wpAnyH_ready (rs := [16]) (by kernel_rfl) (by simp) ?_
      refine AllReadyH.cons rfl (fun K hK => ?_) AllReadyH.nil
      go_simp
      refine hK.out _ _ (FT _ _ hB5') (fun hHeld5 => ?_)
      clear hK
      try simp only [Act.put, List.setIfInBounds_toArray, List.set_cons_zero, List.set_cons_succ]
      refine wpAnyH_done (by kernel_rfl) ?_ _
      clear hHeld hHeld2 hHeld3 hHeld4 hHeld5
      clear hrun5 hrun4 hown4 l8 l9
      have hBw5 := hBw9.trans (hB5'.mono hBw9.size)
      have m3 := (hB5'.block _ (Array.getElem?_eq_some_iff.1 n3).1).trans n3
      have m0 := (hB5'.block _ (Array.getElem?_eq_some_iff.1 n0).1).trans n0
      have hx5 : (ts.set i ⟨{ o with l := o.l ++ [k, x] }, .slice (some ⟨g5, 0, none⟩) (o.l.length + 2) c5⟩)[i]? = some ⟨{ o with l := o.l ++ [k, x] }, .slice (some ⟨g5, 0, none⟩) (o.l.length + 2) c5⟩ := by
        have := (List.getElem?_eq_some_iff.1 hxp).1
        simp [this]
      have hRa := (hR9.below hB5').set (d := 2) (by omega) hxp (y := ⟨{ o with l := o.l ++ [k, x] }, .slice (some ⟨g5, 0, none⟩) (o.l.length + 2) c5⟩) (.slice (some ⟨g5, 0, none⟩) (o.l.length + 2) c5) (by simp [pcell, hxo]) ⟨_, c5, by simp, (fun e => by cases e), hown5'⟩
      have hSa : (S.set i { o with l := o.l ++ [k, x] })[i]? = some { o with l := o.l ++ [k, x] } := by simp [hSi]
      have hgB : w.heap.size + 1 + 1 + 1 ≠ g := by omega
      have hgA : w.heap.size ≠ g := by omega
      have hr7 := (heap_setCell_other w5 ⟨g, i * 5 + 2, none⟩ _ (.slice (some ⟨g5, 0, none⟩) (o.l.length + 2) c5) hgB).trans m3
      have hm7 := (heap_setCell_other w5 ⟨g, i * 5 + 2, none⟩ _ (.slice (some ⟨g5, 0, none⟩) (o.l.length + 2) c5) hgA).trans m0
      have hB7 := below_set (i := i * 5 + 2) (hBw5.mono hbw) hgb (.slice (some ⟨g5, 0, none⟩) (o.l.length + 2) c5)
      have hF7 : ∀ k, k < w.heap.size → some g ≠ some k → (w5.setCell ⟨g, i * 5 + 2, none⟩ (.slice (some ⟨g5, 0, none⟩) (o.l.length + 2) c5)).heap[k]? = w.heap[k]? := fun k hk hkg => (heap_setCell_other w5 ⟨g, i * 5 + 2, none⟩ _ _ (fun e => hkg (by rw [e]))).trans (hBw5.block k hk)
      have HF7 : Hid _ := hF7
      clear hF7
      have hVa : ∃ q cq, (Value.slice (some ⟨g5, 0, none⟩) (o.l.length + 2) c5) = .slice q (o.l ++ [k, x]).length cq ∧ (q = none → cq = 0) ∧ VT (w5.setCell ⟨g, i * 5 + 2, none⟩ (.slice (some ⟨g5, 0, none⟩) (o.l.length + 2) c5)) q (o.l ++ [k, x]) := by
        have := hRa.lst _ (List.mem_of_getElem? hx5)
        exact this
      try clear A1B
      try clear A1
      clear F G FT S0 S1 SW hbB hnB hD9 n0 n1 n2 n3 n5 hv9 hB9 hB4 hB4' hB5 hB5' hown5 hown5' hBw9 hBw6 hgn hO5g hgl hcl hcr hcur hfz hR9 hBw5 m3 m0
      generalize w5.setCell ⟨g, i * 5 + 2, none⟩ (.slice (some ⟨g5, 0, none⟩) (o.l.length + 2) c5) = w7 at *
      obtain ⟨a0, a1⟩ := cell_row2 hm7
      obtain ⟨xp2, g2, hxp2, hxo2, eg, hgl2, hgb2, hfz, hcl, hcr, cur2, hcur⟩ := hRa.at_i hSa
      cases eg
      have hcH := hRa.at_.cell
      rw [List.length_set] at hcH
      have hfz3 := hfz (i * 5 + 3)
      clear hfz hcl hcur hgl2 hgb2 hm7
      go_wp2_with fail
      go_region
      have hR8 := (hRa.set (d := 3) (by omega) hx5 (y := ⟨{ o with l := o.l ++ [k, x], room := GP.1 }, .slice (some ⟨g5, 0, none⟩) (o.l.length + 2) c5⟩) (.int .i64 GP.1) (by simp [pcell]) hVa).below (below_drew (Below.refl _ _))
      rw [List.set_set] at hR8
      have hr := (heap_setCell_other w7 ⟨g, i * 5 + 3, none⟩ _ (.int .i64 GP.1) hgB).trans hr7
      have hB8 := below_drew (below_set (i := i * 5 + 3) hB7 hgb (.int .i64 GP.1))
      obtain ⟨⟨z0, z1, z2, z3⟩, y0, y1, y2, y3⟩ := cell_row4D hr
      go_wp2
      refine bodyPost_ret (results_cell_row (by rfl) _ _ (w.heap.size + 1 + 1 + 1) 38 _ _ _ (by rfl) (set4_rowD hr) Tryz.underlying38 (by rfl) infoRd) (by rfl) ?_
      obtain rfl := HGP.out
      obtain ⟨_, g0, _, _, e0, _, _, _, _, _, hgt⟩ := hR.at_i hSo
      cases e0
      exact ⟨rfl, ⟨_, _, _, hR8.set4 hr _ _ _ _⟩, below_set4 hB8 (by omega) _ _ _ _, did_frame (some g) (fun b e => by cases e; exact hgt) (by omega) (fun k hk hkg => (heap_setCell_other w7 ⟨g, i * 5 + 3, none⟩ _ _ (fun e => hkg (by rw [e]))).trans (HF7.out k hk hkg))⟩
    · obtain ⟨v4, w4, hrun4, hown4, hB4⟩ := A1B
      have hB4' : Below w9.heap.size w9 w4 := (hD9.trans (hbB.mono hD9.size)).trans (hB4.mono (by simp))
      have hs4 := hB4'.size
      have hnB4 := (hB4.block _ (by simp)).trans hnB
      obtain ⟨g5, c5, w5, hrun5, hown5, hB5⟩ := app2 (base := w9.heap.size) (n := o.l.length) hs4 (row_mono2 hown4 (by simp)) (Nat.le_of_lt HL9.out) (one_vals2 (u := k) (v := x) hnB4) (by simp) (by simp)
      simp only [List.length_cons, List.length_nil, Nat.zero_add, Nat.reduceAdd] at hrun5 hown5
      have hB5' : Below w9.heap.size w9 w5 := hB4'.trans hB5
      go_simp
      refine hK.out _ _ S1 (fun hHeld2 => ?_)
      clear hK
      try simp only [Act.put, List.setIfInBounds_toArray, List.set_cons_zero, List.set_cons_succ]
      refine wpAnyH_ready (rs := [9]) (by kernel_rfl) (by simp) ?_
      refine AllReadyH.cons rfl (fun K hK => ?_) AllReadyH.nil
      refine step_append_run (by rfl) _ _ _ (by rfl) _ _ v4 w4 (by rfl) (by rfl) hrun4 ?_
      refine hK.out _ _ (F _ hB4') (fun hHeld3 => ?_)
      clear hK
      try simp only [Act.put, List.setIfInBounds_toArray, List.set_cons_zero, List.set_cons_succ]
      refine wpAnyH_ready (rs := [13]) (by kernel_rfl) (by simp) ?_
      refine AllReadyH.cons rfl (fun K hK => ?_) AllReadyH.nil
      have hown5' := vt_of_row hown5
      obtain ⟨l8, l9⟩ := G _ hB5'
      refine step_append_run (by rfl) _ _ _ (by rfl) _ _ (.slice (some ⟨g5, 0, none⟩) (o.l.length + 2) c5) w5 (by rfl) (by rfl) hrun5 ?_
      refine hK.out _ _ (F _ hB5') (fun hHeld4 => ?_)
      clear hK
      try simp only [Act.put, List.setIfInBounds_toArray, List.set_cons_zero, List.set_cons_succ]
      refine Bk.take_at (i := 14) (d := 77) (v := ?v14b) rfl rfl (by kernel_rfl) (by kernel_rfl) (by kernel_rfl) (fun _ _ _ h => h) (Or.inl ⟨by rfl, ?hy14b⟩) (by assumption) ?rest14b
      case hy14b => (intro w hSw; (try dsimp only at hSw); go_simp; try with_reducible rfl)
      try simp only [List.setIfInBounds_toArray, List.set_cons_zero, List.set_cons_succ]
      refine Bk.take_at (i := 15) (d := 78) (v := ?v15b) rfl rfl (by kernel_rfl) (by kernel_rfl) (by kernel_rfl) (fun _ _ _ h => h) (Or.inl ⟨by rfl, ?hy15b⟩) (by assumption) ?rest15b
      case hy15b => (intro w hSw; (try dsimp only at hSw); go_simp; try with_reducible rfl)
      try simp only [List.setIfInBounds_toArray, List.set_cons_zero, List.set_cons_succ]
      refine wpAnyH_ready (rs := [16]) (by kernel_rfl) (by simp) ?_
      refine AllReadyH.cons rfl (fun K hK => ?_) AllReadyH.nil
      go_simp
      refine hK.out _ _ (FT _ _ hB5') (fun hHeld5 => ?_)
      clear hK
      try simp only [Act.put, List.setIfInBounds_toArray, List.set_cons_zero, List.set_cons_succ]
      refine wpAnyH_done (by kernel_rfl) ?_ _
      clear hHeld hHeld2 hHeld3 hHeld4 hHeld5
      clear hrun5 hrun4 hown4 l8 l9
      have hBw5 := hBw9.trans (hB5'.mono hBw9.size)
      have m3 := (hB5'.block _ (Array.getElem?_eq_some_iff.1 n3).1).trans n3
      have m0 := (hB5'.block _ (Array.getElem?_eq_some_iff.1 n0).1).trans n0
      have hx5 : (ts.set i ⟨{ o with l := o.l ++ [k, x] }, .slice (some ⟨g5, 0, none⟩) (o.l.length + 2) c5⟩)[i]? = some ⟨{ o with l := o.l ++ [k, x] }, .slice (some ⟨g5, 0, none⟩) (o.l.length + 2) c5⟩ := by
        have := (List.getElem?_eq_some_iff.1 hxp).1
        simp [this]
      have hRa := (hR9.below hB5').set (d := 2) (by omega) hxp (y := ⟨{ o with l := o.l ++ [k, x] }, .slice (some ⟨g5, 0, none⟩) (o.l.length + 2) c5⟩) (.slice (some ⟨g5, 0, none⟩) (o.l.length + 2) c5) (by simp [pcell, hxo]) ⟨_, c5, by simp, (fun e => by cases e), hown5'⟩
      have hSa : (S.set i { o with l := o.l ++ [k, x] })[i]? = some { o with l := o.l ++ [k, x] } := by simp [hSi]
      have hgB : w.heap.size + 1 + 1 + 1 ≠ g := by omega
      have hgA : w.heap.size ≠ g := by omega
      have hr7 := (heap_setCell_other w5 ⟨g, i * 5 + 2, none⟩ _ (.slice (some ⟨g5, 0, none⟩) (o.l.length + 2) c5) hgB).trans m3
      have hm7 := (heap_setCell_other w5 ⟨g, i * 5 + 2, none⟩ _ (.slice (some ⟨g5, 0, none⟩) (o.l.length + 2) c5) hgA).trans m0
      have hB7 := below_set (i := i * 5 + 2) (hBw5.mono hbw) hgb (.slice (some ⟨g5, 0, none⟩) (o.l.length + 2) c5)
      have hF7 : ∀ k, k < w.heap.size → some g ≠ some k → (w5.setCell ⟨g, i * 5 + 2, none⟩ (.slice (some ⟨g5, 0, none⟩) (o.l.length + 2) c5)).heap[k]? = w.heap[k]? := fun k hk hkg => (heap_setCell_other w5 ⟨g, i * 5 + 2, none⟩ _ _ (fun e => hkg (by rw [e]))).trans (hBw5.block k hk)
      have HF7 : Hid _ := hF7
      clear hF7
      have hVa : ∃ q cq, (Value.slice (some ⟨g5, 0, none⟩) (o.l.length + 2) c5) = .slice q (o.l ++ [k, x]).length cq ∧ (q = none → cq = 0) ∧ VT (w5.setCell ⟨g, i * 5 + 2, none⟩ (.slice (some ⟨g5, 0, none⟩) (o.l.length + 2) c5)) q (o.l ++ [k, x]) := by
        have := hRa.lst _ (List.mem_of_getElem? hx5)
        exact this
      try clear A1B
      try clear A1
      clear F G FT S0 S1 SW hbB hnB hD9 n0 n1 n2 n3 n5 hv9 hB9 hB4 hB4' hB5 hB5' hown5 hown5' hBw9 hBw6 hgn hO5g hgl hcl hcr hcur hfz hR9 hBw5 m3 m0
      generalize w5.setCell ⟨g, i * 5 + 2, none⟩ (.slice (some ⟨g5, 0, none⟩) (o.l.length + 2) c5) = w7 at *
      obtain ⟨a0, a1⟩ := cell_row2 hm7
      obtain ⟨xp2, g2, hxp2, hxo2, eg, hgl2, hgb2, hfz, hcl, hcr, cur2, hcur⟩ := hRa.at_i hSa
      cases eg
      have hcH := hRa.at_.cell
      rw [List.length_set] at hcH
      have hfz3 := hfz (i * 5 + 3)
      clear hfz hcl hcur hgl2 hgb2 hm7
      go_wp2_with fail
      go_region
      have hR8 := (hRa.set (d := 3) (by omega) hx5 (y := ⟨{ o with l := o.l ++ [k, x], room := GP.1 }, .slice (some ⟨g5, 0, none⟩) (o.l.length + 2) c5⟩) (.int .i64 GP.1) (by simp [pcell]) hVa).below (below_drew (Below.refl _ _))
      rw [List.set_set] at hR8
      have hr := (heap_setCell_other w7 ⟨g, i * 5 + 3, none⟩ _ (.int .i64 GP.1) hgB).trans hr7
      have hB8 := below_drew (below_set (i := i * 5 + 3) hB7 hgb (.int .i64 GP.1))
      obtain ⟨⟨z0, z1, z2, z3⟩, y0, y1, y2, y3⟩ := cell_row4D hr
      go_wp2
      refine bodyPost_ret (results_cell_row (by rfl) _ _ (w.heap.size + 1 + 1 + 1) 38 _ _ _ (by rfl) (set4_rowD hr) Tryz.underlying38 (by rfl) infoRd) (by rfl) ?_
      obtain rfl := HGP.out
      obtain ⟨_, g0, _, _, e0, _, _, _, _, _, hgt⟩ := hR.at_i hSo
      cases e0
      exact ⟨rfl, ⟨_, _, _, hR8.set4 hr _ _ _ _⟩, below_set4 hB8 (by omega) _ _ _ _, did_frame (some g) (fun b e => by cases e; exact hgt) (by omega) (fun k hk hkg => (heap_setCell_other w7 ⟨g, i * 5 + 3, none⟩ _ _ (fun e => hkg (by rw [e]))).trans (HF7.out k hk hkg))⟩


end Go.Proofs.YtgokofomoachaaaGreatDoor
