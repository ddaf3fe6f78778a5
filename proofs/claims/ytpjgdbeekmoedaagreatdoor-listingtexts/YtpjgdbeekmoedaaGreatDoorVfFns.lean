/- Copies of programs, and that they were left as they were. -/
import Derived.Test.YtpjgdbeekmoedaaGreatDoorVfFn
namespace Go.Proofs.YtpjgdbeekmoedaaGreatDoor
set_option linter.unusedVariables false
set_option linter.unusedSimpArgs false
open Go.RowKit

variable {w : World}

set_option maxRecDepth 20000 in
set_option maxHeartbeats 4000000 in
theorem leftFn_in {base : Nat} (f : Fm) (s' s : Fs) (ht : TwFn base f s' w) (hv : FnAt w f s) (hl : Small f) :
    Calls Tryz.prog 115 #[fnA f s', fnA f s] w fun e w' => e = .returned (.bool true) ∧ Below w.heap.size w w' := by
  obtain ⟨⟨g0, e0, h0⟩, ⟨g1, e1, h1⟩, ⟨g2, e2, h2⟩, ⟨g3, e3, h3⟩, ⟨g4, e4, h4⟩⟩ := ht
  obtain ⟨qc, c0, qk, c1, qi, c2, ql, c3, qh, c4⟩ := s'
  simp only at e0 h0 e1 h1 e2 h2 e3 h3 e4 h4
  subst e0 e1 e2 e3 e4
  unfold fnA
  have hB2 := below2' w (.cells #[.string f.name, .int .i64 f.params, .int .i64 f.locals, .slice (some ⟨g0, 0, none⟩) f.caps.length c0, .slice (some ⟨g1, 0, none⟩) f.consts.length c1, .slice (some ⟨g2, 0, none⟩) f.code.length c2, .slice (some ⟨g3, 0, none⟩) f.lines.length c3, .slice (some ⟨g4, 0, none⟩) f.hs.length c4] 68) (.cells #[.string f.name, .int .i64 f.params, .int .i64 f.locals, .slice s.qc f.caps.length s.cc, .slice s.qk f.consts.length s.ck, .slice s.qi f.code.length s.ci, .slice s.ql f.lines.length s.cl, .slice s.qh f.hs.length s.ch] 68)
  have hb0 := (Below.heap_alloc (w.alloc (.cells #[.string f.name, .int .i64 f.params, .int .i64 f.locals, .slice (some ⟨g0, 0, none⟩) f.caps.length c0, .slice (some ⟨g1, 0, none⟩) f.consts.length c1, .slice (some ⟨g2, 0, none⟩) f.code.length c2, .slice (some ⟨g3, 0, none⟩) f.lines.length c3, .slice (some ⟨g4, 0, none⟩) f.hs.length c4] 68)) (.cells #[.string f.name, .int .i64 f.params, .int .i64 f.locals, .slice s.qc f.caps.length s.cc, .slice s.qk f.consts.length s.ck, .slice s.qi f.code.length s.ci, .slice s.ql f.lines.length s.cl, .slice s.qh f.hs.length s.ch] 68) w.heap.size (by simp)).trans (heap_alloc_new w (.cells #[.string f.name, .int .i64 f.params, .int .i64 f.locals, .slice (some ⟨g0, 0, none⟩) f.caps.length c0, .slice (some ⟨g1, 0, none⟩) f.consts.length c1, .slice (some ⟨g2, 0, none⟩) f.code.length c2, .slice (some ⟨g3, 0, none⟩) f.lines.length c3, .slice (some ⟨g4, 0, none⟩) f.hs.length c4] 68))
  have hb1 := heap_two w (.cells #[.string f.name, .int .i64 f.params, .int .i64 f.locals, .slice (some ⟨g0, 0, none⟩) f.caps.length c0, .slice (some ⟨g1, 0, none⟩) f.consts.length c1, .slice (some ⟨g2, 0, none⟩) f.code.length c2, .slice (some ⟨g3, 0, none⟩) f.lines.length c3, .slice (some ⟨g4, 0, none⟩) f.hs.length c4] 68) (.cells #[.string f.name, .int .i64 f.params, .int .i64 f.locals, .slice s.qc f.caps.length s.cc, .slice s.qk f.consts.length s.ck, .slice s.qi f.code.length s.ci, .slice s.ql f.lines.length s.cl, .slice s.qh f.hs.length s.ch] 68)
  have hsz : ((w.alloc (.cells #[.string f.name, .int .i64 f.params, .int .i64 f.locals, .slice (some ⟨g0, 0, none⟩) f.caps.length c0, .slice (some ⟨g1, 0, none⟩) f.consts.length c1, .slice (some ⟨g2, 0, none⟩) f.code.length c2, .slice (some ⟨g3, 0, none⟩) f.lines.length c3, .slice (some ⟨g4, 0, none⟩) f.hs.length c4] 68)).alloc (.cells #[.string f.name, .int .i64 f.params, .int .i64 f.locals, .slice s.qc f.caps.length s.cc, .slice s.qk f.consts.length s.ck, .slice s.qi f.code.length s.ci, .slice s.ql f.lines.length s.cl, .slice s.qh f.hs.length s.ch] 68)).heap.size = w.heap.size + 2 := by simp
  have H0 := fun (W : World) (h : Below w.heap.size w W) => leftCaps_in s.cc (h0.below h) (hv.caps.below h) hl.caps
  have H1 := fun (W : World) (h : Below w.heap.size w W) => leftConsts_in s.ck (h1.below h) (hv.consts.below h) hl.consts
  have H2 := fun (W : World) (h : Below w.heap.size w W) => leftInses_in s.ci (h2.below h) (hv.code.below h) hl.code
  have H3 := fun (W : World) (h : Below w.heap.size w W) => leftInts_in s.cl (h3.below h) (hv.lines.below h) hl.lines
  have H4 := fun (W : World) (h : Below w.heap.size w W) => leftHandlers_in s.ch (h4.below h) (hv.hs.below h) hl.hs
  obtain ⟨⟨o0, o1, o2, o3, o4, o5, o6, o7⟩, -⟩ := cell_row8 hb0
  obtain ⟨⟨p0, p1, p2, p3, p4, p5, p6, p7⟩, -⟩ := cell_row8 hb1
  clear hv hl h0 h1 h2 h3 h4
  go_enter Tryz.func115, Tryz.ntmps115
  go_wp2_with (first
    | (go_at_call 198; (with_reducible refine (H0 _ hB2).mono ?_); rintro e w1 ⟨rfl, hB1⟩; have m1 := (hB1.block w.heap.size (by omega)).trans hb0; have n1 := (hB1.block (w.heap.size + 1) (by omega)).trans hb1; have k1 := hB2.trans (hB1.mono hB2.size); obtain ⟨⟨o1_0, o1_1, o1_2, o1_3, o1_4, o1_5, o1_6, o1_7⟩, -⟩ := cell_row8 m1; obtain ⟨⟨p1_0, p1_1, p1_2, p1_3, p1_4, p1_5, p1_6, p1_7⟩, -⟩ := cell_row8 n1)
    | (go_at_call 199; (with_reducible refine (H1 _ k1).mono ?_); rintro e w2 ⟨rfl, hB2⟩; have m2 := (hB2.block w.heap.size (Array.getElem?_eq_some_iff.1 m1).1).trans m1; have n2 := (hB2.block (w.heap.size + 1) (Array.getElem?_eq_some_iff.1 n1).1).trans n1; have k2 := k1.trans (hB2.mono k1.size); obtain ⟨⟨o2_0, o2_1, o2_2, o2_3, o2_4, o2_5, o2_6, o2_7⟩, -⟩ := cell_row8 m2; obtain ⟨⟨p2_0, p2_1, p2_2, p2_3, p2_4, p2_5, p2_6, p2_7⟩, -⟩ := cell_row8 n2)
    | (go_at_call 200; (with_reducible refine (H2 _ k2).mono ?_); rintro e w3 ⟨rfl, hB3⟩; have m3 := (hB3.block w.heap.size (Array.getElem?_eq_some_iff.1 m2).1).trans m2; have n3 := (hB3.block (w.heap.size + 1) (Array.getElem?_eq_some_iff.1 n2).1).trans n2; have k3 := k2.trans (hB3.mono k2.size); obtain ⟨⟨o3_0, o3_1, o3_2, o3_3, o3_4, o3_5, o3_6, o3_7⟩, -⟩ := cell_row8 m3; obtain ⟨⟨p3_0, p3_1, p3_2, p3_3, p3_4, p3_5, p3_6, p3_7⟩, -⟩ := cell_row8 n3)
    | (go_at_call 201; (with_reducible refine (H3 _ k3).mono ?_); rintro e w4 ⟨rfl, hB4⟩; have m4 := (hB4.block w.heap.size (Array.getElem?_eq_some_iff.1 m3).1).trans m3; have n4 := (hB4.block (w.heap.size + 1) (Array.getElem?_eq_some_iff.1 n3).1).trans n3; have k4 := k3.trans (hB4.mono k3.size); obtain ⟨⟨o4_0, o4_1, o4_2, o4_3, o4_4, o4_5, o4_6, o4_7⟩, -⟩ := cell_row8 m4; obtain ⟨⟨p4_0, p4_1, p4_2, p4_3, p4_4, p4_5, p4_6, p4_7⟩, -⟩ := cell_row8 n4)
    | (go_at_call 202; (with_reducible refine (H4 _ k4).mono ?_); rintro e w5 ⟨rfl, hB5⟩; have m5 := (hB5.block w.heap.size (Array.getElem?_eq_some_iff.1 m4).1).trans m4; have n5 := (hB5.block (w.heap.size + 1) (Array.getElem?_eq_some_iff.1 n4).1).trans n4; have k5 := k4.trans (hB5.mono k4.size); obtain ⟨⟨o5_0, o5_1, o5_2, o5_3, o5_4, o5_5, o5_6, o5_7⟩, -⟩ := cell_row8 m5; obtain ⟨⟨p5_0, p5_1, p5_2, p5_3, p5_4, p5_5, p5_6, p5_7⟩, -⟩ := cell_row8 n5)
    )
  go_ret
  exact ⟨rfl, k5⟩

/-- A function and where its copied lists lie. -/
structure Ft where
  f : Fm
  s : Fs

def ftC (x : Ft) : List Value := fnC x.f x.s

theorem ftC_len (x : Ft) : (ftC x).length = 8 := rfl

def spFn : List Value := [.string ⟨#[115, 112, 97, 114, 101]⟩, .int .i64 0, .int .i64 0, .slice none 0 0, .slice none 0 0, .slice none 0 0, .slice none 0 0, .slice none 0 0]

/-- A copied program. -/
structure TwFns (base G C : Nat) (ts : List Ft) (w : World) : Prop where
  row : Twin 68 ftC 8 spFn base G C ts w
  fns : ∀ x ∈ ts, TwFn base x.f x.s w
  dist : ts.Pairwise (fun x y => x.s.ql ≠ y.s.ql)

theorem TwFns.below {base G C : Nat} {ts : List Ft} (h : TwFns base G C ts w) {w' : World} (hB : Below w.heap.size w w') : TwFns base G C ts w' :=
  ⟨h.row.below hB, fun x hx => (h.fns x hx).below hB, h.dist⟩

theorem TwFns.isFns {base G C : Nat} {ts : List Ft} (h : TwFns base G C ts w) : IsFns w (some ⟨G, 0, none⟩) (ts.map Ft.f) := by
  intro j f hj
  rw [List.getElem?_map] at hj
  cases hx : ts[j]? with
  | none => rw [hx] at hj; simp at hj
  | some x =>
    rw [hx] at hj; simp at hj; subst hj
    obtain ⟨b0, off, e, hlt, h1⟩ := h.row.rowAt ftC_len j x hx
    exact ⟨b0, off, x.s, e, hlt, h1, (h.fns x (List.mem_of_getElem? hx)).at⟩

theorem TwFns.cells {base G C : Nat} {ts : List Ft} (h : TwFns base G C ts w) {j : Nat} {x : Ft} (hj : ts[j]? = some x) :
    w.cell? ⟨G, j * 8, none⟩ = some (.string x.f.name) ∧ w.cell? ⟨G, j * 8 + 1, none⟩ = some (.int .i64 x.f.params) ∧ w.cell? ⟨G, j * 8 + 2, none⟩ = some (.int .i64 x.f.locals) ∧ w.cell? ⟨G, j * 8 + 3, none⟩ = some (.slice x.s.qc x.f.caps.length x.s.cc) ∧ w.cell? ⟨G, j * 8 + 4, none⟩ = some (.slice x.s.qk x.f.consts.length x.s.ck) ∧ w.cell? ⟨G, j * 8 + 5, none⟩ = some (.slice x.s.qi x.f.code.length x.s.ci) ∧ w.cell? ⟨G, j * 8 + 6, none⟩ = some (.slice x.s.ql x.f.lines.length x.s.cl) ∧ w.cell? ⟨G, j * 8 + 7, none⟩ = some (.slice x.s.qh x.f.hs.length x.s.ch) := by
  obtain ⟨b0, off, e, h1⟩ := (h.row.rowAt ftC_len).look (Below.refl _ _) hj
  simp at e
  obtain ⟨rfl, rfl⟩ := e
  simp only [Nat.zero_add] at h1
  exact ⟨h1 0 _ rfl, h1 1 _ rfl, h1 2 _ rfl, h1 3 _ rfl, h1 4 _ rfl, h1 5 _ rfl, h1 6 _ rfl, h1 7 _ rfl⟩

set_option maxRecDepth 20000 in
set_option maxHeartbeats 4000000 in
theorem twinFns_in {p : Option Addr} {l : List Fm} (c : Nat) (hs : IsFns w p l) (hlen : l.length ≤ 1048576) (hls : ∀ f ∈ l, Small f) :
    Calls Tryz.prog 23 #[.slice p l.length c] w fun e w' => ∃ g c, e = .returned (.slice (some ⟨g, 0, none⟩) l.length c) ∧ ∃ ts : List Ft, ts.map Ft.f = l ∧ TwFns w.heap.size g c ts w' ∧ Below w.heap.size w w' := by
  obtain ⟨i0, hi, hz0, hz1, hz2⟩ := info_parts infoFn
  go_enter Tryz.func23, Tryz.ntmps23
  go_wp2_with (first
    | (at_make; refine wpList_make_own w rfl _ _ 22 rfl w.heap.size 68 i0 (.agg #[.string ⟨#[]⟩, .int .i64 0, .int .i64 0, .slice none 0 0, .slice none 0 0, .slice none 0 0, .slice none 0 0, .slice none 0 0]) 8 Tryz.underlying22 hi hz0 hz1 .i64 .i64 _ (l.length + 1) rfl rfl (by simp) (by rw [hz2]; omega) (by unfold maxLen; omega) (Nat.le_refl _) ?_; intro w1 hown1 hgrow1))
  have hB1 : Below w.heap.size w w1 := rbelow_grown hgrow1 (fun q e => by cases e) (Nat.le_refl _)
  go_loopw [3, 4] (fun t k wr => ∃ (ts : List Ft) (rest : List Fm), k = .int .i64 ts.length ∧ l = ts.map Ft.f ++ rest ∧ wr.ownsRow w.heap.size 68 8 t ts.length (rowC ftC ts) ∧ (∀ x ∈ ts, TwFn w.heap.size x.f x.s wr) ∧ ts.Pairwise (fun x y => x.s.ql ≠ y.s.ql) ∧ Below w.heap.size w wr) (fun _ k _ => l.length - (intOf k).toNat)
  case atStart => exact ⟨[], l, rfl, rfl, hown1, by simp, List.Pairwise.nil, hB1⟩
  case round =>
    obtain ⟨ts, rest, rfl, hR, hrow, htw, hdist, hB⟩ := hrel
    have HDI : Hid _ := hdist
    clear hdist
    have hsz := hB.size
    cases rest with
    | nil =>
      have hR' : l = ts.map Ft.f := by simpa using hR
      have hpl : ts.length = l.length := by rw [hR']; simp
      have hq : ¬ ((ts.length : Int) < (l.length : Int)) := by omega
      rw [hpl] at hrow
      have HP : Hid _ := And.intro hpl hR'
      clear hR hR' hpl
      go_wp2_with (first
        | (at_builtin; refine wpList_append_own _ rfl _ _ 22 rfl w.heap.size 68 i0 (.agg #[.string ⟨#[]⟩, .int .i64 0, .int .i64 0, .slice none 0 0, .slice none 0 0, .slice none 0 0, .slice none 0 0, .slice none 0 0]) 8 152 Tryz.underlying22 hi hz0 hz1 hz2 rfl (by decide) _ l.length _ rfl (hrow.alloc _) ⟨wr.heap.size, 0, none⟩ 1 1 spFn rfl rfl (World.news_of_block (cs := #[.string ⟨#[115, 112, 97, 114, 101]⟩, .int .i64 0, .int .i64 0, .slice none 0 0, .slice none 0 0, .slice none 0 0, .slice none 0 0, .slice none 0 0]) (t := 68) (fr := (0, 0)) (heap_alloc_new wr _)) (by simp [spFn, Value.oneCell']) (by unfold maxLen; omega) (by omega) (by simp; omega) ?_; intro v4 w4 hown4 hgrow4 _; obtain ⟨g4, c4, rfl⟩ := ownsRow_succ2 hown4; obtain ⟨hc4, hc5⟩ := ownsRow_cap2 hown4))
      go_ret
      obtain ⟨hpl, hR'⟩ := HP.out
      rw [← hpl] at hown4
      refine ⟨g4, c4, rfl, ts, hR'.symm, ⟨hown4, fun x hx => ?_, HDI.out⟩, (hB.alloc hB.size _).trans (rbelow_grown hgrow4 (fun q e => (hrow.lt q e).1) (by simp; omega))⟩
      refine (htw x hx).kept (fun g cur t hg hc ht => ?_)
      have hlt := (Array.getElem?_eq_some_iff.1 hc).1
      refine (hgrow4.block _ (by simp; omega) (fun e => ?_)).trans (Below.heap_alloc _ _ _ hlt)
      obtain ⟨cur', hc'⟩ := row_obj hrow e.symm
      rw [hc] at hc'
      cases hc'
      exact ht rfl
    | cons f rest =>
      have hlR : ts.length < l.length := by rw [hR]; simp
      have hSo : l[ts.length]? = some f := by rw [hR]; simp
      have hoS := List.mem_of_getElem? hSo
      obtain ⟨b0, off, s, rfl, hvq, c0, c1, c2, c3, c4, c5, c6, c7⟩ := hs.look hB hSo
      have H1 := twinFn_in f s hvq (hls f hoS)
      unfold fnA at H1
      have HR : Hid (l = ts.map Ft.f ++ f :: rest) := hR
      clear hR
      go_wp2_with (first
        | (go_at_call 100; refine H1.mono ?_; clear H1; rintro e w2 ⟨s', rfl, htg, hB2⟩; have hrow2 := row_below hrow hB2; have hsz2 := hB2.size)
        | (at_builtin; refine wpList_append_own _ rfl _ _ 22 rfl w.heap.size 68 i0 (.agg #[.string ⟨#[]⟩, .int .i64 0, .int .i64 0, .slice none 0 0, .slice none 0 0, .slice none 0 0, .slice none 0 0, .slice none 0 0]) 8 152 Tryz.underlying22 hi hz0 hz1 hz2 rfl (by decide) _ ts.length _ rfl (hrow2.alloc _) ⟨w2.heap.size, 0, none⟩ 1 1 (ftC ⟨f, s'⟩) rfl rfl (World.news_of_block (cs := #[.string f.name, .int .i64 f.params, .int .i64 f.locals, .slice s'.qc f.caps.length s'.cc, .slice s'.qk f.consts.length s'.ck, .slice s'.qi f.code.length s'.ci, .slice s'.ql f.lines.length s'.cl, .slice s'.qh f.hs.length s'.ch]) (t := 68) (fr := (0, 0)) (heap_alloc_new w2 _)) (by simp [ftC, fnC, Value.oneCell']) (by unfold maxLen; omega) (by omega) (by simp; omega) ?_; intro v4 w4 hown4 hgrow4 _))
      have e1 : (((ts ++ [(⟨f, s'⟩ : Ft)]).length : Nat) : Int) = ts.length + 1 := by simp
      go_roundw
      case rel =>
        have hBg : Below w.heap.size w w4 := ((hB.trans (hB2.mono hsz)).alloc (by omega) _).trans (rbelow_grown hgrow4 (fun q e => (hrow2.lt q e).1) (by simp; omega))
        refine ⟨ts ++ [⟨f, s'⟩], rest, by rw [e1], by have := HR.out; simpa using this, ?_, ?_, ?_, hBg⟩
        · rw [rowC_append, rowC_one, show (ts ++ [(⟨f, s'⟩ : Ft)]).length = ts.length + 1 from List.length_append]
          exact hown4
        · intro x hx
          have key : ∀ {y : Ft}, TwFn w.heap.size y.f y.s w2 → TwFn w.heap.size y.f y.s w4 := fun {y} h1 => by
            refine h1.kept (fun g cur t hg hc ht => ?_)
            have hlt := (Array.getElem?_eq_some_iff.1 hc).1
            refine (hgrow4.block _ (by simp; omega) (fun e => ?_)).trans (Below.heap_alloc _ _ _ hlt)
            obtain ⟨cur', hc'⟩ := row_obj hrow2 e.symm
            rw [hc] at hc'
            cases hc'
            exact ht rfl
          rcases List.mem_append.1 hx with hx | hx
          · exact key ((htw x hx).below hB2)
          · simp at hx; subst hx
            exact key (htg.mono hsz)
        · rw [List.pairwise_append]
          refine ⟨HDI.out, List.pairwise_singleton _ _, fun x hx y hy => ?_⟩
          simp at hy
          subst hy
          obtain ⟨g, hg, htg1⟩ := (htw x hx).lines
          obtain ⟨g', hg', htg2⟩ := htg.lines
          have h1 := htg1.lt.2
          have h2 := htg2.lt.1
          simp only
          rw [hg, hg']
          intro e
          simp at e <;> omega
      case measure => simp [intOf]; omega

set_option maxRecDepth 20000 in
set_option maxHeartbeats 4000000 in
theorem leftFns_in {base G C : Nat} {p : Option Addr} {ts : List Ft} (cl : Nat) (ht : TwFns base G C ts w) (hs : IsFns w p (ts.map Ft.f)) (hlen : ts.length ≤ 1048576) (hls : ∀ x ∈ ts, Small x.f) :
    Calls Tryz.prog 28 #[.slice (some ⟨G, 0, none⟩) ts.length C, .slice p ts.length cl] w fun e w' => e = .returned (.bool true) ∧ Below w.heap.size w w' := by
  obtain ⟨hc4, hc5⟩ := ownsRow_cap2 ht.row
  have hcb : ¬ ((C : Int) ≤ (ts.length : Int)) := by omega
  go_enter Tryz.func28, Tryz.ntmps28
  go_wp2
  go_loopw [5] (fun k wr => ∃ j : Nat, k = .int .i64 j ∧ j ≤ ts.length ∧ Below w.heap.size w wr) (fun k _ => ts.length - (intOf k).toNat)
  case atStart => exact ⟨0, rfl, by omega, Below.refl _ _⟩
  case round =>
    obtain ⟨j, rfl, hj, hB⟩ := hrel
    have ht' := ht.below hB
    by_cases hjn : j < ts.length
    · obtain ⟨x, hxj⟩ : ∃ x, ts[j]? = some x := ⟨ts[j], by simp [hjn]⟩
      obtain ⟨b0, off, s, rfl, hvq, c0, c1, c2, c3, c4, c5, c6, c7⟩ := hs.look hB (j := j) (f := x.f) (by rw [List.getElem?_map, hxj]; rfl)
      obtain ⟨d0, d1, d2, d3, d4, d5, d6, d7⟩ := ht'.cells hxj
      have H1 := leftFn_in x.f x.s s ((ht'.fns x (List.mem_of_getElem? hxj)).below (below_drew (Below.refl _ _))) (hvq.below (below_drew (Below.refl _ _))) (hls x (List.mem_of_getElem? hxj))
      unfold fnA at H1
      have hjn' : (j : Int) < (ts.length : Int) := by omega
      clear hxj
      go_wp2
      go_region_with
        ((go_at_call 115; refine H1.mono ?_; rintro e w2 ⟨rfl, hB2⟩))
      all_goals
        go_wp2
        go_roundw
        case rel => exact ⟨j + 1, by simp, by omega, (below_drew hB).trans (hB2.mono hB.size)⟩
        case measure => simp [intOf]; omega
    · have hjn' : ¬ ((j : Int) < (ts.length : Int)) := by omega
      have d0 : wr.cell? ⟨G, ts.length * 8, none⟩ = some (.string ⟨#[115, 112, 97, 114, 101]⟩) := by have := ht'.row.last ftC_len (i := 0) (by omega) rfl; simpa using this
      have d1 : wr.cell? ⟨G, ts.length * 8 + 1, none⟩ = some (.int .i64 0) := by have := ht'.row.last ftC_len (i := 1) (by omega) rfl; simpa using this
      have d2 : wr.cell? ⟨G, ts.length * 8 + 2, none⟩ = some (.int .i64 0) := by have := ht'.row.last ftC_len (i := 2) (by omega) rfl; simpa using this
      have d3 : wr.cell? ⟨G, ts.length * 8 + 3, none⟩ = some (.slice none 0 0) := by have := ht'.row.last ftC_len (i := 3) (by omega) rfl; simpa using this
      have d4 : wr.cell? ⟨G, ts.length * 8 + 4, none⟩ = some (.slice none 0 0) := by have := ht'.row.last ftC_len (i := 4) (by omega) rfl; simpa using this
      have d5 : wr.cell? ⟨G, ts.length * 8 + 5, none⟩ = some (.slice none 0 0) := by have := ht'.row.last ftC_len (i := 5) (by omega) rfl; simpa using this
      have d6 : wr.cell? ⟨G, ts.length * 8 + 6, none⟩ = some (.slice none 0 0) := by have := ht'.row.last ftC_len (i := 6) (by omega) rfl; simpa using this
      have d7 : wr.cell? ⟨G, ts.length * 8 + 7, none⟩ = some (.slice none 0 0) := by have := ht'.row.last ftC_len (i := 7) (by omega) rfl; simpa using this
      go_wp2
      go_ret
      exact ⟨rfl, hB.alloc hB.size _⟩

theorem twinProgram_in {p : Option Addr} {l : List Fm} (c : Nat) (hs : IsFns w p l) (hlen : l.length ≤ 1048576) (hls : ∀ f ∈ l, Small f) :
    Calls Tryz.prog 7 #[.slice p l.length c] w fun e w' => ∃ g c, e = .returned (.slice (some ⟨g, 0, none⟩) l.length c) ∧ ∃ ts : List Ft, ts.map Ft.f = l ∧ TwFns w.heap.size g c ts w' ∧ Below w.heap.size w w' := by
  have H := twinFns_in c hs hlen hls
  go_enter Tryz.func7, Tryz.ntmps7
  go_wp2_with (first
    | (go_at_call 23; refine H.mono ?_; clear H; rintro e w2 ⟨g, c', rfl, ts, h1, h2, h3⟩))
  go_ret
  exact ⟨g, c', rfl, ts, h1, h2, h3⟩

theorem leftProgram_in {base G C : Nat} {p : Option Addr} {ts : List Ft} (cl : Nat) (ht : TwFns base G C ts w) (hs : IsFns w p (ts.map Ft.f)) (hlen : ts.length ≤ 1048576) (hls : ∀ x ∈ ts, Small x.f) :
    Calls Tryz.prog 11 #[.slice (some ⟨G, 0, none⟩) ts.length C, .slice p ts.length cl] w fun e w' => e = .returned (.bool true) ∧ Below w.heap.size w w' := by
  have H := leftFns_in cl ht hs hlen hls
  go_enter Tryz.func11, Tryz.ntmps11
  go_wp2_with (first
    | (go_at_call 28; refine H.mono ?_; clear H; rintro e w2 ⟨rfl, h3⟩))
  go_ret
  exact ⟨rfl, h3⟩

end Go.Proofs.YtpjgdbeekmoedaaGreatDoor
