/- Copies of functions and programs, and that they were left as they were. -/
import Derived.Test.YtpjgdbeekmoedaaGreatDoorVfTwin
namespace Go.Proofs.YtpjgdbeekmoedaaGreatDoor
set_option linter.unusedVariables false
set_option linter.unusedSimpArgs false
open Go.RowKit

variable {w : World}

theorem infoF : (Tryz.prog.info? 68).map (·.size) = some 8 := by kernel_rfl

theorem infoFn : (Tryz.prog.info? 68).map (fun i => (i.zero, i.size, i.bytes)) = some (some (.agg #[.string ⟨#[]⟩, .int .i64 0, .int .i64 0, .slice none 0 0, .slice none 0 0, .slice none 0 0, .slice none 0 0, .slice none 0 0]), 8, 152) := by kernel_rfl

theorem set8_row {W : World} {g : Nat} {a0 a1 a2 a3 a4 a5 a6 a7 x0 x1 x2 x3 x4 x5 x6 x7 : Value} {t : TypeId} (h : W.heap[g]? = some (.cells #[a0, a1, a2, a3, a4, a5, a6, a7] t (0, 0))) : ((((((((W.setCell ⟨g, 0, none⟩ x0).setCell ⟨g, 1, none⟩ x1).setCell ⟨g, 2, none⟩ x2).setCell ⟨g, 3, none⟩ x3).setCell ⟨g, 4, none⟩ x4).setCell ⟨g, 5, none⟩ x5).setCell ⟨g, 6, none⟩ x6).setCell ⟨g, 7, none⟩ x7).heap[g]? = some (.cells #[x0, x1, x2, x3, x4, x5, x6, x7] t (0, 0)) := by
  have h1 := heap_setCell_same W g 0 _ t x0 h
  have h2 := heap_setCell_same _ g 1 _ t x1 h1
  have h3 := heap_setCell_same _ g 2 _ t x2 h2
  have h4 := heap_setCell_same _ g 3 _ t x3 h3
  have h5 := heap_setCell_same _ g 4 _ t x4 h4
  have h6 := heap_setCell_same _ g 5 _ t x5 h5
  have h7 := heap_setCell_same _ g 6 _ t x6 h6
  have h8 := heap_setCell_same _ g 7 _ t x7 h7
  simpa using h8

theorem heap_set8 {W : World} {g k : Nat} {x0 x1 x2 x3 x4 x5 x6 x7 : Value} (h : k ≠ g) : ((((((((W.setCell ⟨g, 0, none⟩ x0).setCell ⟨g, 1, none⟩ x1).setCell ⟨g, 2, none⟩ x2).setCell ⟨g, 3, none⟩ x3).setCell ⟨g, 4, none⟩ x4).setCell ⟨g, 5, none⟩ x5).setCell ⟨g, 6, none⟩ x6).setCell ⟨g, 7, none⟩ x7).heap[k]? = W.heap[k]? := by
  rw [heap_setCell_other _ ⟨g, 7, none⟩ _ _ h, heap_setCell_other _ ⟨g, 6, none⟩ _ _ h, heap_setCell_other _ ⟨g, 5, none⟩ _ _ h, heap_setCell_other _ ⟨g, 4, none⟩ _ _ h, heap_setCell_other _ ⟨g, 3, none⟩ _ _ h, heap_setCell_other _ ⟨g, 2, none⟩ _ _ h, heap_setCell_other _ ⟨g, 1, none⟩ _ _ h, heap_setCell_other _ ⟨g, 0, none⟩ _ _ h]

theorem cell_set8 {W : World} {g : Nat} {x0 x1 x2 x3 x4 x5 x6 x7 : Value} {a : Addr} (h : a.block ≠ g) : ((((((((W.setCell ⟨g, 0, none⟩ x0).setCell ⟨g, 1, none⟩ x1).setCell ⟨g, 2, none⟩ x2).setCell ⟨g, 3, none⟩ x3).setCell ⟨g, 4, none⟩ x4).setCell ⟨g, 5, none⟩ x5).setCell ⟨g, 6, none⟩ x6).setCell ⟨g, 7, none⟩ x7).cell? a = W.cell? a := World.cell?_of_block (heap_set8 h)

theorem below_set8 {n : Nat} {w W : World} (h : Below n w W) {g : Nat} (hg : n ≤ g) (x0 x1 x2 x3 x4 x5 x6 x7 : Value) : Below n w ((((((((W.setCell ⟨g, 0, none⟩ x0).setCell ⟨g, 1, none⟩ x1).setCell ⟨g, 2, none⟩ x2).setCell ⟨g, 3, none⟩ x3).setCell ⟨g, 4, none⟩ x4).setCell ⟨g, 5, none⟩ x5).setCell ⟨g, 6, none⟩ x6).setCell ⟨g, 7, none⟩ x7) :=
  below_set (below_set (below_set (below_set (below_set (below_set (below_set (below_set h hg _) hg _) hg _) hg _) hg _) hg _) hg _) hg _

/-- How great the lists of a function are. -/
structure Small (f : Fm) : Prop where
  caps : f.caps.length ≤ 1048576
  consts : f.consts.length ≤ 1048576
  code : f.code.length ≤ 1048576
  lines : f.lines.length ≤ 1048576
  hs : f.hs.length ≤ 1048576

/-- A copied function. -/
structure TwFn (base : Nat) (f : Fm) (s : Fs) (w : World) : Prop where
  caps : ∃ g, s.qc = some ⟨g, 0, none⟩ ∧ TwCaps base g s.cc f.caps w
  consts : ∃ g, s.qk = some ⟨g, 0, none⟩ ∧ TwConsts base g s.ck f.consts w
  code : ∃ g, s.qi = some ⟨g, 0, none⟩ ∧ TwInses base g s.ci f.code w
  lines : ∃ g, s.ql = some ⟨g, 0, none⟩ ∧ TwInts base g s.cl f.lines w
  hs : ∃ g, s.qh = some ⟨g, 0, none⟩ ∧ TwHandlers base g s.ch f.hs w

theorem TwFn.kept {base : Nat} {f : Fm} {s : Fs} (h : TwFn base f s w) {w' : World} (hk : ∀ g cur t, base ≤ g → w.heap[g]? = some (.cells cur t (0, 0)) → t ≠ 68 → w'.heap[g]? = w.heap[g]?) : TwFn base f s w' := by
  obtain ⟨⟨g0, e0, h0⟩, ⟨g1, e1, h1⟩, ⟨g2, e2, h2⟩, ⟨g3, e3, h3⟩, ⟨g4, e4, h4⟩⟩ := h
  refine ⟨⟨g0, e0, h0.kept ?_⟩, ⟨g1, e1, h1.kept ?_⟩, ⟨g2, e2, h2.kept ?_⟩, ⟨g3, e3, h3.kept ?_⟩, ⟨g4, e4, h4.kept ?_⟩⟩
  · obtain ⟨cur, hc⟩ := h0.obj; exact hk _ _ _ h0.lt.1 hc (by decide)
  · obtain ⟨cur, hc⟩ := h1.obj; exact hk _ _ _ h1.lt.1 hc (by decide)
  · obtain ⟨cur, hc⟩ := h2.obj; exact hk _ _ _ h2.lt.1 hc (by decide)
  · obtain ⟨cur, hc⟩ := h3.obj; exact hk _ _ _ h3.lt.1 hc (by decide)
  · obtain ⟨cur, hc⟩ := h4.obj; exact hk _ _ _ h4.lt.1 hc (by decide)

theorem TwFn.below {base : Nat} {f : Fm} {s : Fs} (h : TwFn base f s w) {w' : World} (hB : Below w.heap.size w w') : TwFn base f s w' :=
  h.kept (fun g cur t _ hc _ => hB.block g (Array.getElem?_eq_some_iff.1 hc).1)

theorem TwFn.mono {base base' : Nat} {f : Fm} {s : Fs} (h : TwFn base f s w) (hb : base' ≤ base) : TwFn base' f s w := by
  obtain ⟨⟨g0, e0, h0⟩, ⟨g1, e1, h1⟩, ⟨g2, e2, h2⟩, ⟨g3, e3, h3⟩, ⟨g4, e4, h4⟩⟩ := h
  exact ⟨⟨g0, e0, h0.mono hb⟩, ⟨g1, e1, h1.mono hb⟩, ⟨g2, e2, h2.mono hb⟩, ⟨g3, e3, h3.mono hb⟩, ⟨g4, e4, h4.mono hb⟩⟩

theorem TwFn.at {base : Nat} {f : Fm} {s : Fs} (h : TwFn base f s w) : FnAt w f s := by
  obtain ⟨⟨g0, e0, h0⟩, ⟨g1, e1, h1⟩, ⟨g2, e2, h2⟩, ⟨g3, e3, h3⟩, ⟨g4, e4, h4⟩⟩ := h
  refine ⟨?_, ?_, ?_, ?_, ?_⟩
  · rw [e0]; exact h0.rowAt capC_len
  · rw [e1]; exact h1.rowAt conC_len
  · rw [e2]; exact h2.rowAt insC_len
  · rw [e3]; exact h3.rowAt linC_len
  · rw [e4]; exact h4.rowAt hanC_len

set_option maxRecDepth 20000 in
set_option maxHeartbeats 4000000 in
theorem twinFn_in (f : Fm) (s : Fs) (hv : FnAt w f s) (hl : Small f) :
    Calls Tryz.prog 100 #[fnA f s] w fun e w' => ∃ s', e = .returned (fnA f s') ∧ TwFn w.heap.size f s' w' ∧ Below w.heap.size w w' := by
  unfold fnA
  have hB2 := below2' w (.cells #[.string f.name, .int .i64 f.params, .int .i64 f.locals, .slice s.qc f.caps.length s.cc, .slice s.qk f.consts.length s.ck, .slice s.qi f.code.length s.ci, .slice s.ql f.lines.length s.cl, .slice s.qh f.hs.length s.ch] 68) (.cells #[.string ⟨#[]⟩, .int .i64 0, .int .i64 0, .slice none 0 0, .slice none 0 0, .slice none 0 0, .slice none 0 0, .slice none 0 0] 68)
  have hb0 := (Below.heap_alloc (w.alloc (.cells #[.string f.name, .int .i64 f.params, .int .i64 f.locals, .slice s.qc f.caps.length s.cc, .slice s.qk f.consts.length s.ck, .slice s.qi f.code.length s.ci, .slice s.ql f.lines.length s.cl, .slice s.qh f.hs.length s.ch] 68)) (.cells #[.string ⟨#[]⟩, .int .i64 0, .int .i64 0, .slice none 0 0, .slice none 0 0, .slice none 0 0, .slice none 0 0, .slice none 0 0] 68) w.heap.size (by simp)).trans (heap_alloc_new w (.cells #[.string f.name, .int .i64 f.params, .int .i64 f.locals, .slice s.qc f.caps.length s.cc, .slice s.qk f.consts.length s.ck, .slice s.qi f.code.length s.ci, .slice s.ql f.lines.length s.cl, .slice s.qh f.hs.length s.ch] 68))
  have hb1 := heap_two w (.cells #[.string f.name, .int .i64 f.params, .int .i64 f.locals, .slice s.qc f.caps.length s.cc, .slice s.qk f.consts.length s.ck, .slice s.qi f.code.length s.ci, .slice s.ql f.lines.length s.cl, .slice s.qh f.hs.length s.ch] 68) (.cells #[.string ⟨#[]⟩, .int .i64 0, .int .i64 0, .slice none 0 0, .slice none 0 0, .slice none 0 0, .slice none 0 0, .slice none 0 0] 68)
  have hsz : ((w.alloc (.cells #[.string f.name, .int .i64 f.params, .int .i64 f.locals, .slice s.qc f.caps.length s.cc, .slice s.qk f.consts.length s.ck, .slice s.qi f.code.length s.ci, .slice s.ql f.lines.length s.cl, .slice s.qh f.hs.length s.ch] 68)).alloc (.cells #[.string ⟨#[]⟩, .int .i64 0, .int .i64 0, .slice none 0 0, .slice none 0 0, .slice none 0 0, .slice none 0 0, .slice none 0 0] 68)).heap.size = w.heap.size + 2 := by simp
  have H0 := fun (W : World) (h : Below w.heap.size w W) => twinCaps_in s.cc (hv.caps.below h) hl.caps
  have H1 := fun (W : World) (h : Below w.heap.size w W) => twinConsts_in s.ck (hv.consts.below h) hl.consts
  have H2 := fun (W : World) (h : Below w.heap.size w W) => twinInses_in s.ci (hv.code.below h) hl.code
  have H3 := fun (W : World) (h : Below w.heap.size w W) => twinInts_in s.cl (hv.lines.below h) hl.lines
  have H4 := fun (W : World) (h : Below w.heap.size w W) => twinHandlers_in s.ch (hv.hs.below h) hl.hs
  have FCS : ∀ W : World, W.heap[w.heap.size]? = some (.cells #[.string f.name, .int .i64 f.params, .int .i64 f.locals, .slice s.qc f.caps.length s.cc, .slice s.qk f.consts.length s.ck, .slice s.qi f.code.length s.ci, .slice s.ql f.lines.length s.cl, .slice s.qh f.hs.length s.ch] 68 (0, 0)) → W.cell? ⟨w.heap.size, 0, none⟩ = some (.string f.name) ∧ W.cell? ⟨w.heap.size, 1, none⟩ = some (.int .i64 f.params) ∧ W.cell? ⟨w.heap.size, 2, none⟩ = some (.int .i64 f.locals) ∧ W.cell? ⟨w.heap.size, 3, none⟩ = some (.slice s.qc f.caps.length s.cc) ∧ W.cell? ⟨w.heap.size, 4, none⟩ = some (.slice s.qk f.consts.length s.ck) ∧ W.cell? ⟨w.heap.size, 5, none⟩ = some (.slice s.qi f.code.length s.ci) ∧ W.cell? ⟨w.heap.size, 6, none⟩ = some (.slice s.ql f.lines.length s.cl) ∧ W.cell? ⟨w.heap.size, 7, none⟩ = some (.slice s.qh f.hs.length s.ch) := fun W h => (cell_row8 h).1
  clear hv hl
  go_enter Tryz.func100, Tryz.ntmps100
  go_wp2
  generalize hWA : (w.alloc (.cells #[.string f.name, .int .i64 f.params, .int .i64 f.locals, .slice s.qc f.caps.length s.cc, .slice s.qk f.consts.length s.ck, .slice s.qi f.code.length s.ci, .slice s.ql f.lines.length s.cl, .slice s.qh f.hs.length s.ch] 68)).alloc (.cells #[.string ⟨#[]⟩, .int .i64 0, .int .i64 0, .slice none 0 0, .slice none 0 0, .slice none 0 0, .slice none 0 0, .slice none 0 0] 68) = WA at *
  have hne : w.heap.size ≠ w.heap.size + 1 := by omega
  have S0 := FCS _ hb0
  have S0d := FCS WA.drew hb0
  go_region_held3 (fun W => W.cell? ⟨w.heap.size, 0, none⟩ = some (.string f.name) ∧ W.cell? ⟨w.heap.size, 1, none⟩ = some (.int .i64 f.params) ∧ W.cell? ⟨w.heap.size, 2, none⟩ = some (.int .i64 f.locals) ∧ W.cell? ⟨w.heap.size, 3, none⟩ = some (.slice s.qc f.caps.length s.cc) ∧ W.cell? ⟨w.heap.size, 4, none⟩ = some (.slice s.qk f.consts.length s.ck) ∧ W.cell? ⟨w.heap.size, 5, none⟩ = some (.slice s.qi f.code.length s.ci) ∧ W.cell? ⟨w.heap.size, 6, none⟩ = some (.slice s.ql f.lines.length s.cl) ∧ W.cell? ⟨w.heap.size, 7, none⟩ = some (.slice s.qh f.hs.length s.ch)) (first | with_reducible exact S0 | with_reducible exact S0d | with_reducible exact S1 | with_reducible exact S2 | with_reducible exact S3 | with_reducible exact S4 | with_reducible exact S5 | exact FCS _ ((heap_set8 hne).trans m5) | go_keep)
    ((first
      | (go_at_call 180; (with_reducible refine (H0 _ (below_drew hB2)).mono ?_); rintro e w1 ⟨g0, c0, rfl, t0_1, hB1⟩; have m1 := (hB1.block w.heap.size (by show w.heap.size < WA.heap.size; omega)).trans hb0; have n1 := (hB1.block (w.heap.size + 1) (by show w.heap.size + 1 < WA.heap.size; omega)).trans hb1; have k1 := (below_drew hB2).trans (hB1.mono (below_drew hB2).size); have S1 := FCS _ m1)
      | (go_at_call 181; (with_reducible refine (H1 _ k1).mono ?_); rintro e w2 ⟨g1, c1, rfl, t1_2, hB2⟩; have m2 := (hB2.block w.heap.size (Array.getElem?_eq_some_iff.1 m1).1).trans m1; have n2 := (hB2.block (w.heap.size + 1) (Array.getElem?_eq_some_iff.1 n1).1).trans n1; have t0_2 := t0_1.below hB2; have k2 := k1.trans (hB2.mono k1.size); have S2 := FCS _ m2)
      | (go_at_call 182; (with_reducible refine (H2 _ k2).mono ?_); rintro e w3 ⟨g2, c2, rfl, t2_3, hB3⟩; have m3 := (hB3.block w.heap.size (Array.getElem?_eq_some_iff.1 m2).1).trans m2; have n3 := (hB3.block (w.heap.size + 1) (Array.getElem?_eq_some_iff.1 n2).1).trans n2; have t0_3 := t0_2.below hB3; have t1_3 := t1_2.below hB3; have k3 := k2.trans (hB3.mono k2.size); have S3 := FCS _ m3)
      | (go_at_call 183; (with_reducible refine (H3 _ k3).mono ?_); rintro e w4 ⟨g3, c3, rfl, t3_4, hB4⟩; have m4 := (hB4.block w.heap.size (Array.getElem?_eq_some_iff.1 m3).1).trans m3; have n4 := (hB4.block (w.heap.size + 1) (Array.getElem?_eq_some_iff.1 n3).1).trans n3; have t0_4 := t0_3.below hB4; have t1_4 := t1_3.below hB4; have t2_4 := t2_3.below hB4; have k4 := k3.trans (hB4.mono k3.size); have S4 := FCS _ m4)
      | (go_at_call 184; (with_reducible refine (H4 _ k4).mono ?_); rintro e w5 ⟨g4, c4, rfl, t4_5, hB5⟩; have m5 := (hB5.block w.heap.size (Array.getElem?_eq_some_iff.1 m4).1).trans m4; have n5 := (hB5.block (w.heap.size + 1) (Array.getElem?_eq_some_iff.1 n4).1).trans n4; have t0_5 := t0_4.below hB5; have t1_5 := t1_4.below hB5; have t2_5 := t2_4.below hB5; have t3_5 := t3_4.below hB5; have k5 := k4.trans (hB5.mono k4.size); have S5 := FCS _ m5; obtain ⟨⟨r0, r1, r2, r3, r4, r5, r6, r7⟩, ⟨z0, z1, z2, z3, z4, z5, z6, z7⟩⟩ := cell_row8 n5)
    ))
  all_goals
    go_wp2
    refine bodyPost_ret (results_cell_row (by rfl) _ _ (w.heap.size + 1) 68 _ _ _ (by rfl) (set8_row n5) Tryz.underlying68 (by rfl) infoF) (by rfl) ?_
    have hs0 : w.heap.size ≤ WA.heap.size := by omega
    have TF : TwFn w.heap.size f ⟨some ⟨g0, 0, none⟩, c0, some ⟨g1, 0, none⟩, c1, some ⟨g2, 0, none⟩, c2, some ⟨g3, 0, none⟩, c3, some ⟨g4, 0, none⟩, c4⟩ w5 := ⟨⟨g0, rfl, t0_5.mono (show w.heap.size ≤ WA.drew.heap.size from hs0)⟩, ⟨g1, rfl, t1_5.mono k1.size⟩, ⟨g2, rfl, t2_5.mono k2.size⟩, ⟨g3, rfl, t3_5.mono k3.size⟩, ⟨g4, rfl, t4_5.mono k4.size⟩⟩
    exact ⟨⟨some ⟨g0, 0, none⟩, c0, some ⟨g1, 0, none⟩, c1, some ⟨g2, 0, none⟩, c2, some ⟨g3, 0, none⟩, c3, some ⟨g4, 0, none⟩, c4⟩, rfl, TF.kept (fun g cur t hg hc ht => heap_set8 (fun e => by subst e; rw [n5] at hc; cases hc; exact ht rfl)), below_set8 k5 (by omega) _ _ _ _ _ _ _ _⟩

end Go.Proofs.YtpjgdbeekmoedaaGreatDoor
