/- PrimOnes: the walk. -/
import Derived.Test.YtgokofomoachaaaGreatDoorPoSame2
import Derived.Test.YtgokofomoachaaaGreatDoorPoShow
import Derived.Test.YtgokofomoachaaaGreatDoorPmLives2
namespace Go.Proofs.YtgokofomoachaaaGreatDoor
set_option linter.unusedVariables false
set_option linter.unusedSimpArgs false
open Go.RowKit

variable {w : World}

theorem fine_one {S : List Om} {v : Vl} : fineP S [v] ↔ mayL S [v] ∧ v.k ≠ 7 := by
  constructor
  · intro h
    exact ⟨fun x hx => (h x hx).2, (h v (by simp)).1⟩
  · rintro ⟨h1, h2⟩ x hx
    have hx' := hx
    simp at hx
    subst hx
    exact ⟨h2, h1 _ hx'⟩

theorem asks_none {v : Vl} {n : Int} : Rd.asks { v := v, n := n } n := .inl ⟨rfl, rfl⟩

theorem asks_kind : Rd.asks { t := tKind } 0 := .inr ⟨by decide, rfl⟩

theorem asks_great : Rd.asks { t := tGreat } 0 := .inr ⟨by decide, rfl⟩

theorem notB (S : List Om) (v : Vl) : ∃ (d : Rd) (n : Int), notR S v d ∧ d.asks n ∧ ∀ (w : World) (p : Option Addr) (c : Nat), Ask w p S → Calls Tryz.prog 16 #[.slice p S.length c, .agg #[.int .u8 v.k, .int .i64 v.n]] w (DidR w S d.v d.t n) := by
  by_cases hk : fineP S [v] ∧ v.k = 1
  · refine ⟨{ v := tru (v.n == 0) }, 0, .inl ⟨hk.1, hk.2, rfl⟩, asks_none, fun w p c h => ?_⟩
    have := pNot_in h c v (D := ⟨S, tru (v.n == 0), ⟨#[]⟩, 0⟩) (.inr ⟨(fine_one.1 hk.1).1, truthD (v.n == 0), DoneR.old (d := truthD (v.n == 0)) rfl rfl, fun W hB => ?_⟩)
    · exact this
    · obtain ⟨vk, vn⟩ := v
      have h1 := hk.2
      simp only at h1
      subst h1
      exact (Not_ok vn W rfl).mono (fun _ _ hh => hh.V)
  · refine ⟨{ t := tKind }, 0, .inr ⟨hk, rfl⟩, asks_kind, fun w p c h => ?_⟩
    have := pNot_in h c v (D := refD S) ?_
    · exact this
    · by_cases hm : mayL S [v]
      · refine .inr ⟨hm, thrD tKind, DoneR.old (d := thrD tKind) rfl rfl, fun W hB => (Not_bad v W (fun h1 => hk ⟨fine_one.2 ⟨hm, by omega⟩, h1⟩) rfl).mono (fun _ _ hh => hh.V)⟩
      · exact .inl ⟨hm, rfl⟩

theorem negB (S : List Om) (v : Vl) : ∃ (d : Rd) (n : Int), (d = if v.k = 2 then { v := ⟨2, wrap64 (-v.n)⟩ } else { t := tKind }) ∧ d.asks n ∧ ∀ (w : World) (p : Option Addr) (c : Nat), Ask w p S → Calls Tryz.prog 18 #[.slice p S.length c, .agg #[.int .u8 v.k, .int .i64 v.n]] w (DidR w S d.v d.t n) := by
  by_cases hk : v.k = 2
  · refine ⟨{ v := ⟨2, wrap64 (-v.n)⟩ }, 0, by rw [if_pos hk], asks_none, fun w p c h => ?_⟩
    have := pNeg_in h c v (D := ⟨S, ⟨2, wrap64 (-v.n)⟩, ⟨#[]⟩, 0⟩) (.inr ⟨?_, wholeD (wrap64 (-v.n)), DoneR.old (d := wholeD (wrap64 (-v.n))) rfl rfl, fun W hB => ?_⟩)
    · exact this
    · obtain ⟨vk, vn⟩ := v
      simp only at hk
      subst hk
      intro x hx
      exact may_ints S vn vn x (by simp at hx ⊢; exact hx)
    · obtain ⟨vk, vn⟩ := v
      simp only at hk
      subst hk
      exact (Neg_ok vn W rfl).mono (fun _ _ hh => hh.V)
  · refine ⟨{ t := tKind }, 0, by rw [if_neg hk], asks_kind, fun w p c h => ?_⟩
    have := pNeg_in h c v (D := refD S) ?_
    · exact this
    · by_cases hm : mayL S [v]
      · exact .inr ⟨hm, thrD tKind, DoneR.old (d := thrD tKind) rfl rfl, fun W hB => (Neg_bad v W hk rfl).mono (fun _ _ hh => hh.V)⟩
      · exact .inl ⟨hm, rfl⟩

theorem lenB (S : List Om) (v : Vl) : ∃ (d : Rd) (n : Int), lenR S v d ∧ d.asks n ∧ ∀ (w : World) (p : Option Addr) (c : Nat), Ask w p S → Calls Tryz.prog 20 #[.slice p S.length c, .agg #[.int .u8 v.k, .int .i64 v.n]] w (DidR w S d.v d.t n) := by
  by_cases hk : fineP S [v] ∧ (v.k = 3 ∨ v.k = 4 ∨ v.k = 5)
  · obtain ⟨hf, h345⟩ := hk
    have hm := (fine_one.1 hf).1
    obtain ⟨o, ho, -⟩ := may_obj hm (v := v) (by simp) (by omega)
    obtain ⟨x, hx, HL⟩ : ∃ x : Int, ((v.k = 3 ∧ x = (o.s.size : Int)) ∨ (v.k = 4 ∧ x = (o.l.length : Int)) ∨ (v.k = 5 ∧ x = (o.l.length : Int) / 2)) ∧ ∀ (w : World) (p : Option Addr) (c : Nat), Ask w p S → Calls Tryz.prog 65 #[.slice p S.length c, .agg #[.int .u8 v.k, .int .i64 v.n]] w (DeedR w (wholeD x)) := by
      obtain ⟨vk, vn⟩ := v
      simp only at h345
      rcases h345 with rfl | rfl | rfl
      · exact ⟨_, .inl ⟨rfl, rfl⟩, fun w p c h => Len_3 h c vn ho rfl⟩
      · exact ⟨_, .inr (.inl ⟨rfl, rfl⟩), fun w p c h => Len_4 h c vn ho rfl⟩
      · exact ⟨_, .inr (.inr ⟨rfl, rfl⟩), fun w p c h => Len_5 h c vn ho rfl⟩
    refine ⟨{ v := ⟨2, x⟩ }, 0, .inl ⟨hf, o, ho, ?_⟩, asks_none, fun w p c h => ?_⟩
    · rcases hx with ⟨h1, rfl⟩ | ⟨h1, rfl⟩ | ⟨h1, rfl⟩
      · exact .inl ⟨h1, rfl⟩
      · exact .inr (.inl ⟨h1, rfl⟩)
      · exact .inr (.inr ⟨h1, rfl⟩)
    · exact pLen_in h c v (D := ⟨S, ⟨2, x⟩, ⟨#[]⟩, 0⟩) (.inr ⟨hm, wholeD x, DoneR.old (d := wholeD x) rfl rfl, fun W hB => (HL W p c (h.below hB)).mono (fun _ _ hh => hh.V)⟩)
  · refine ⟨{ t := tKind }, 0, .inr ⟨hk, rfl⟩, asks_kind, fun w p c h => ?_⟩
    have := pLen_in h c v (D := refD S) ?_
    · exact this
    · by_cases hm : mayL S [v]
      · have hn : ¬ (v.k = 3 ∨ v.k = 4 ∨ v.k = 5) := fun h1 => hk ⟨fine_one.2 ⟨hm, by omega⟩, h1⟩
        exact .inr ⟨hm, thrD tKind, DoneR.old (d := thrD tKind) rfl rfl, fun W hB => (Len_bad (h.below hB) c v (by omega) (by omega) (by omega) rfl).mono (fun _ _ hh => hh.V)⟩
      · exact .inl ⟨hm, rfl⟩

theorem showB (S : List Om) (v : Vl) (hfv : v.fits) (hl : S.length ≤ 1048576) (hw : ∀ o ∈ S, o.l.length ≤ 1000000) : ∃ (d : Rd) (n : Int) (S' : List Om), showR S v d S' ∧ d.asks n ∧ (S'.length ≤ 1048577 ∧ ∀ o ∈ S', o.l.length ≤ 1000000) ∧ ∀ (w : World) (p : Option Addr) (c : Nat), Ask w p S → Tab w → Calls Tryz.prog 23 #[.slice p S.length c, .agg #[.int .u8 v.k, .int .i64 v.n]] w (DidR w S' d.v d.t n) := by
  by_cases hf : fineP S [v]
  · have h7 := (fine_one.1 hf).2
    have HP : ∀ (w : World) (p : Option Addr) (c : Nat), Ask w p S → Tab w → Calls Tryz.prog 23 #[.slice p S.length c, .agg #[.int .u8 v.k, .int .i64 v.n]] w (DidR w (showP S v).S (showP S v).v (showP S v).t (showP S v).n) := fun w p c h ht =>
      pShow_in h c v (D := showP S v) (.inr ⟨(fine_one.1 hf).1, showD S v, showD_done S v, fun W hB => (Show_pl (h.below hB) (ht.below hB) c v hfv rfl).mono (fun _ _ hh => hh.V)⟩)
    by_cases hl4 : 4096 < (textB S v).length
    · have e : showP S v = ⟨S, ⟨0, 0⟩, tGreat, 0⟩ := by unfold showP; rw [if_neg h7, if_pos hl4]
      rw [e] at HP
      exact ⟨{ t := tGreat }, 0, S, .inr (.inl ⟨hf, hl4, rfl, rfl⟩), asks_great, ⟨by omega, hw⟩, HP⟩
    · have e : showP S v = ⟨S ++ [txtO (txV S v)], ⟨3, (S.length : Int) + 1⟩, ⟨#[]⟩, (wordsO (txtO (txV S v)) : Nat)⟩ := by unfold showP; rw [if_neg h7, if_neg hl4]
      rw [e] at HP
      refine ⟨{ v := ⟨3, (S.length : Int) + 1⟩, n := (wordsO (txtO (txV S v)) : Nat) }, (wordsO (txtO (txV S v)) : Nat), _, .inr (.inr ⟨hf, by omega, rfl, rfl⟩), asks_none, ⟨by simp; omega, ?_⟩, HP⟩
      intro o ho
      rcases List.mem_append.1 ho with ho | ho
      · exact hw o ho
      · simp at ho; subst ho
        simp [txtO]
  · refine ⟨{ t := tKind }, 0, S, .inl ⟨hf, rfl, rfl⟩, asks_kind, ⟨by omega, hw⟩, fun w p c h ht => ?_⟩
    have := pShow_in h c v (D := refD S) ?_
    · exact this
    · by_cases hm : mayL S [v]
      · have h7 : v.k = 7 := by
          by_cases h7 : v.k = 7
          · exact h7
          · exact (hf (fine_one.2 ⟨hm, h7⟩)).elim
        have e : showD S v = thrD tKind := by unfold showD; rw [if_pos h7]
        exact .inr ⟨hm, showD S v, by rw [e]; exact DoneR.old (d := thrD tKind) rfl rfl, fun W hB => (Show_pl (h.below hB) (ht.below hB) c v hfv rfl).mono (fun _ _ hh => hh.V)⟩
      · exact .inl ⟨hm, rfl⟩

set_option maxRecDepth 20000 in
set_option maxHeartbeats 8000000 in
theorem primOnes_walk (p : Option Addr) (S : List Om) (c : Nat) (v : Vl) (w : World) (hs : IsSt w p S) (hb : Came S) (hfit : ∀ o ∈ S, o.fits) (hfv : v.fits) (htab : Tab w) :
    Calls Tryz.prog 4 #[.slice p S.length c, .agg #[.int .u8 v.k, .int .i64 v.n]] w fun e w' => e = .returned (.bool true) ∧ Below w.heap.size w w' := by
  have hv0 := heap_alloc_new w (.cells #[.int .u8 v.k, .int .i64 v.n] 27)
  have hA := below1 w (.cells #[.int .u8 v.k, .int .i64 v.n] 27)
  have HL := fun (W : World) => lives_in W
  have H1 := beyond11_in c (hs.below hA) hb
  go_enter Tryz.func4, Tryz.ntmps4
  go_wp2_with (first
    | (go_at_call 8; (with_reducible refine H1.mono ?_); clear H1; rintro e w1 ⟨b, rfl, hsm0, hB0⟩; refine halt_here ?_))
  unfold Halted
  have hB1 : Below w.heap.size w w1 := hA.trans (hB0.mono hA.size)
  cases b with
  | true =>
    clear hsm0
    go_wp2_with (first
      | (go_at_call 9; (with_reducible refine (HL _).mono ?_); rintro e w2 ⟨rfl, hB2⟩))
    go_ret
    exact ⟨rfl, hB1.trans (hB2.mono hB1.size)⟩
  | false =>
    obtain ⟨hsum, hsm⟩ := hsm0 rfl
    clear hsm0
    have hl : S.length ≤ 1048576 := by omega
    have hw : ∀ o ∈ S, o.l.length ≤ 1000000 := fun o ho => by have := hsm o ho; omega
    have mkA : ∀ (W : World) (q : Option Addr), IsSt W q S → Ask W q S := fun W q h => ⟨h, hl, fun o ho => by have := hsm o ho; omega, fun o ho => by have := hsm o ho; omega, hfit⟩
    have hv1 := (hB0.block w.heap.size (by simp)).trans hv0
    have H2 := twinStore_in c (hs.below hB1) hl hw
    have H3 := fun (W : World) (h : Below w.heap.size w W) => heap_in c (hs.below h) hl hw
    go_wp2_with (first
      | (go_at_call 10; (with_reducible refine H2.mono ?_); clear H2; rintro e w2 ⟨G, C, rfl, ts, hm, htw, hB2⟩; have hB2' := hB1.trans (hB2.mono hB1.size); have H3' := H3 w2 hB2')
      | (go_at_call 12; (with_reducible refine H3'.mono ?_); clear H3 H3'; rintro e w3 ⟨H, ph, ch, th, rfl, hR, hB3⟩; refine halt_here ?_))
    unfold Halted
    obtain ⟨dn, nn, hdn, hnn, HNp⟩ := notB S v
    obtain ⟨dg, ng, hdg, hng, HGp⟩ := negB S v
    obtain ⟨dl, nl, hdl, hnl, HLp⟩ := lenB S v
    obtain ⟨ds, ns, S', hds, hns, ⟨hl', hw'⟩, HSp⟩ := showB S v hfv hl hw
    have hB3' := hB2'.trans (hB3.mono hB2'.size)
    have hv2 := (hB2.block _ (Array.getElem?_eq_some_iff.1 hv1).1).trans hv1
    have hv3 := (hB3.block _ (Array.getElem?_eq_some_iff.1 hv2).1).trans hv2
    have lv3 := (Array.getElem?_eq_some_iff.1 hv3).1
    have tst : ∀ W, Below w2.heap.size w2 W → IsSt W (some ⟨G, 0, none⟩) S := fun W hb => by rw [← hm]; exact htw.isSt.below hb
    have HPNot : ∀ W, Below w3.heap.size w3 W → Calls Tryz.prog 16 #[.slice (some ⟨G, 0, none⟩) S.length C, .agg #[.int .u8 v.k, .int .i64 v.n]] W (DidR W S dn.v dn.t nn) := fun W hb => HNp W _ _ (mkA W _ (tst W (hB3.trans (hb.mono hB3.size))))
    have HPNeg : ∀ W, Below w3.heap.size w3 W → Calls Tryz.prog 18 #[.slice (some ⟨G, 0, none⟩) S.length C, .agg #[.int .u8 v.k, .int .i64 v.n]] W (DidR W S dg.v dg.t ng) := fun W hb => HGp W _ _ (mkA W _ (tst W (hB3.trans (hb.mono hB3.size))))
    have HPLen : ∀ W, Below w3.heap.size w3 W → Calls Tryz.prog 20 #[.slice (some ⟨G, 0, none⟩) S.length C, .agg #[.int .u8 v.k, .int .i64 v.n]] W (DidR W S dl.v dl.t nl) := fun W hb => HLp W _ _ (mkA W _ (tst W (hB3.trans (hb.mono hB3.size))))
    have HRNot : ∀ W, Below w3.heap.size w3 W → Calls Tryz.prog 17 #[.pointer (some ⟨H, 0, none⟩), .agg #[.int .u8 v.k, .int .i64 v.n]] W (RdR W dn) := fun W hb => rNot_in (mkA W _ ((hR.below hb).isSt)) _ (hR.below hb).at_ v hdn
    have HRNeg : ∀ W, Below w3.heap.size w3 W → Calls Tryz.prog 19 #[.pointer (some ⟨H, 0, none⟩), .agg #[.int .u8 v.k, .int .i64 v.n]] W (RdR W dg) := fun W hb => rNeg_in H v W hdg
    have HRLen : ∀ W, Below w3.heap.size w3 W → Calls Tryz.prog 21 #[.pointer (some ⟨H, 0, none⟩), .agg #[.int .u8 v.k, .int .i64 v.n]] W (RdR W dl) := fun W hb => rLen_in (mkA W _ ((hR.below hb).isSt)) _ (hR.below hb).at_ v hdl
    have HSNot : ∀ (W : World) (pa : Option Addr) (ca : Nat), Below w3.heap.size w3 W → IsSt W pa S → Calls Tryz.prog 14 #[.agg #[.slice pa S.length ca, .int .u8 dn.v.k, .int .i64 dn.v.n, .string dn.t, .int .i64 nn], .pointer (some ⟨H, 0, none⟩), .agg #[.int .u8 dn.v.k, .int .i64 dn.v.n, .string dn.t, .int .i64 dn.n], .slice (some ⟨G, 0, none⟩) S.length C, .slice p S.length c] W fun e w' => e = .returned (.bool true) ∧ Below W.heap.size W w' := fun W pa ca hb hst => same11_in dn nn hnn hst (hR.below hb).at_ (hR.below hb).isSt (by omega) hw (htw.below (hB3.trans (hb.mono hB3.size))) hm (hs.below (hB3'.trans (hb.mono hB3'.size))) hl hw
    have HSNeg : ∀ (W : World) (pa : Option Addr) (ca : Nat), Below w3.heap.size w3 W → IsSt W pa S → Calls Tryz.prog 14 #[.agg #[.slice pa S.length ca, .int .u8 dg.v.k, .int .i64 dg.v.n, .string dg.t, .int .i64 ng], .pointer (some ⟨H, 0, none⟩), .agg #[.int .u8 dg.v.k, .int .i64 dg.v.n, .string dg.t, .int .i64 dg.n], .slice (some ⟨G, 0, none⟩) S.length C, .slice p S.length c] W fun e w' => e = .returned (.bool true) ∧ Below W.heap.size W w' := fun W pa ca hb hst => same11_in dg ng hng hst (hR.below hb).at_ (hR.below hb).isSt (by omega) hw (htw.below (hB3.trans (hb.mono hB3.size))) hm (hs.below (hB3'.trans (hb.mono hB3'.size))) hl hw
    have HSLen : ∀ (W : World) (pa : Option Addr) (ca : Nat), Below w3.heap.size w3 W → IsSt W pa S → Calls Tryz.prog 14 #[.agg #[.slice pa S.length ca, .int .u8 dl.v.k, .int .i64 dl.v.n, .string dl.t, .int .i64 nl], .pointer (some ⟨H, 0, none⟩), .agg #[.int .u8 dl.v.k, .int .i64 dl.v.n, .string dl.t, .int .i64 dl.n], .slice (some ⟨G, 0, none⟩) S.length C, .slice p S.length c] W fun e w' => e = .returned (.bool true) ∧ Below W.heap.size W w' := fun W pa ca hb hst => same11_in dl nl hnl hst (hR.below hb).at_ (hR.below hb).isSt (by omega) hw (htw.below (hB3.trans (hb.mono hB3.size))) hm (hs.below (hB3'.trans (hb.mono hB3'.size))) hl hw
    have HSHOW : ∀ W, Below w3.heap.size w3 W → Calls Tryz.prog 22 #[.pointer (some ⟨H, 0, none⟩), .agg #[.int .u8 v.k, .int .i64 v.n], .bool false] W fun e w' => e = .returned (.agg #[.int .u8 ds.v.k, .int .i64 ds.v.n, .string ds.t, .int .i64 ds.n]) ∧ (∃ p' c' ts', Rh w2.heap.size w' H S' p' c' ts') ∧ Below w2.heap.size W w' := fun W hb => rShow_in (hR.below hb) (Nat.le_trans hB3.size hb.size) (mkA W _ ((hR.below hb).isSt)) v hfv hds
    have HPSHOW : ∀ W, Below w2.heap.size w2 W → Calls Tryz.prog 23 #[.slice (some ⟨G, 0, none⟩) S.length C, .agg #[.int .u8 v.k, .int .i64 v.n]] W (DidR W S' ds.v ds.t ns) := fun W hb => HSp W _ _ (mkA W _ (tst W hb)) (htab.below (hB2'.trans (hb.mono hB2'.size)))
    have HSSHOW : ∀ (W : World) (pa ph' : Option Addr) (ca ch' : Nat), Below w2.heap.size w2 W → IsSt W pa S' → RhAt W H ph' S'.length ch' → IsSt W ph' S' → Calls Tryz.prog 14 #[.agg #[.slice pa S'.length ca, .int .u8 ds.v.k, .int .i64 ds.v.n, .string ds.t, .int .i64 ns], .pointer (some ⟨H, 0, none⟩), .agg #[.int .u8 ds.v.k, .int .i64 ds.v.n, .string ds.t, .int .i64 ds.n], .slice (some ⟨G, 0, none⟩) S.length C, .slice p S.length c] W fun e w' => e = .returned (.bool true) ∧ Below W.heap.size W w' := fun W pa ph' ca ch' hb hst hh hhst => same11_in ds ns hns hst hh hhst hl' hw' (htw.below hb) hm (hs.below (hB2'.trans (hb.mono hB2'.size))) hl hw
    have FCS : ∀ W', Below w3.heap.size w3 W' → W'.cell? ⟨w.heap.size, 0, none⟩ = some (.int .u8 v.k) ∧ W'.cell? ⟨w.heap.size, 1, none⟩ = some (.int .i64 v.n) := fun W' hb => cell_row2 ((hb.block _ lv3).trans hv3)
    have hlv2 := (Array.getElem?_eq_some_iff.1 hv2).1
    have hD := below_drew (Below.refl w3.heap.size w3)
    have S0 := FCS _ hD
    have SW := FCS _ (Below.refl _ _)
    have HB : Hid _ := And.intro hB2' (And.intro hB3 hv2)
    clear hs hb hfit hfv htab HNp HGp HLp HSp hdn hdg hdl hds hnn hng hnl hns mkA tst htw hm hR hsm hw hw' hsum
    go_wp2_with fail
    go_region_held3 (fun W => W.cell? ⟨w.heap.size, 0, none⟩ = some (.int .u8 v.k) ∧ W.cell? ⟨w.heap.size, 1, none⟩ = some (.int .i64 v.n)) (first | with_reducible exact S0 | with_reducible exact SW  | with_reducible exact T1 | with_reducible exact T2 | with_reducible exact T3 | with_reducible exact T4 | with_reducible exact T5 | with_reducible exact T6 | with_reducible exact T7 | with_reducible exact T8 | with_reducible exact T9 | go_keep)
      (first
          | (go_at_call 16; (with_reducible refine (HPNot w3.drew hD).mono ?_); rintro e y1 ⟨pa1, ca1, rfl, ⟨to, hmo, hoo⟩, hY1⟩; obtain ⟨pz, cz, hvz, hst1, -⟩ := hoo.isSt; rw [hmo] at hst1 hvz; cases hvz; clear hoo hmo; have hC1 := hD.trans (hY1.mono hD.size); have T1 := FCS _ hC1)
          | (go_at_call 17; (with_reducible refine (HRNot y1 hC1).mono ?_); rintro e y2 ⟨rfl, hY2⟩; have hC2 := hC1.trans (hY2.mono hC1.size); have T2 := FCS _ hC2; have hsm2 := HSNot y2 pa1 ca1 hC2 (hst1.below hY2))
          | (go_at_call 14; (with_reducible refine hsm2.mono ?_); rintro e y3 ⟨rfl, hY3⟩; have hC3 := hC2.trans (hY3.mono hC2.size); have T3 := FCS _ hC3)
          | (go_at_call 18; (with_reducible refine (HPNeg y3 hC3).mono ?_); rintro e y4 ⟨pa4, ca4, rfl, ⟨to, hmo, hoo⟩, hY4⟩; obtain ⟨pz, cz, hvz, hst4, -⟩ := hoo.isSt; rw [hmo] at hst4 hvz; cases hvz; clear hoo hmo; have hC4 := hC3.trans (hY4.mono hC3.size); have T4 := FCS _ hC4)
          | (go_at_call 19; (with_reducible refine (HRNeg y4 hC4).mono ?_); rintro e y5 ⟨rfl, hY5⟩; have hC5 := hC4.trans (hY5.mono hC4.size); have T5 := FCS _ hC5; have hsm5 := HSNeg y5 pa4 ca4 hC5 (hst4.below hY5))
          | (go_at_call 14; (with_reducible refine hsm5.mono ?_); rintro e y6 ⟨rfl, hY6⟩; have hC6 := hC5.trans (hY6.mono hC5.size); have T6 := FCS _ hC6)
          | (go_at_call 20; (with_reducible refine (HPLen y6 hC6).mono ?_); rintro e y7 ⟨pa7, ca7, rfl, ⟨to, hmo, hoo⟩, hY7⟩; obtain ⟨pz, cz, hvz, hst7, -⟩ := hoo.isSt; rw [hmo] at hst7 hvz; cases hvz; clear hoo hmo; have hC7 := hC6.trans (hY7.mono hC6.size); have T7 := FCS _ hC7)
          | (go_at_call 21; (with_reducible refine (HRLen y7 hC7).mono ?_); rintro e y8 ⟨rfl, hY8⟩; have hC8 := hC7.trans (hY8.mono hC7.size); have T8 := FCS _ hC8; have hsm8 := HSLen y8 pa7 ca7 hC8 (hst7.below hY8))
          | (go_at_call 14; (with_reducible refine hsm8.mono ?_); rintro e y9 ⟨rfl, hY9⟩; have hC9 := hC8.trans (hY9.mono hC8.size); have T9 := FCS _ hC9))
    have hBy := hC9
    have HSH := HSHOW y9 hBy
    obtain ⟨x0, x1⟩ := FCS y9 hBy
    clear HSHOW HPNot HPNeg HPLen HRNot HRNeg HRLen HSNot HSNeg HSLen S0 SW FCS
    go_wp2_with (first
      | (go_at_call 22; (with_reducible refine HSH.mono ?_); clear HSH; rintro e y10 ⟨rfl, hR10, hB10⟩; refine halt_here ?_))
    unfold Halted
    obtain ⟨ph', ch', th', hR10⟩ := hR10
    obtain ⟨hB2', hB3, hv2⟩ := HB.out
    have hBA : Below w2.heap.size w2 y10 := (hB3.trans (hBy.mono hB3.size)).trans hB10
    have hBD := below1 y10 (.cells #[.int .u8 ds.v.k, .int .i64 ds.v.n, .string ds.t, .int .i64 ds.n] 38)
    have hBA2 := hBA.trans (hBD.mono hBA.size)
    have hv8 := (hBA2.block _ hlv2).trans hv2
    have hd8 := heap_alloc_new y10 (.cells #[.int .u8 ds.v.k, .int .i64 ds.v.n, .string ds.t, .int .i64 ds.n] 38)
    have hR8 := hR10.below hBD
    clear x0 x1
    go_wp2_with fail
    generalize hWW : y10.alloc (.cells #[.int .u8 ds.v.k, .int .i64 ds.v.n, .string ds.t, .int .i64 ds.n] 38) = W8 at *
    generalize y10.heap.size = D8 at *
    clear hWW hR10 hB10 hBA hBD
    have l8 := (Array.getElem?_eq_some_iff.1 hv8).1
    have ld8 := (Array.getElem?_eq_some_iff.1 hd8).1
    have FCS : ∀ W', Below W8.heap.size W8 W' → (W'.cell? ⟨w.heap.size, 0, none⟩ = some (.int .u8 v.k) ∧ W'.cell? ⟨w.heap.size, 1, none⟩ = some (.int .i64 v.n)) ∧ W'.cell? ⟨D8, 0, none⟩ = some (.int .u8 ds.v.k) ∧ W'.cell? ⟨D8, 1, none⟩ = some (.int .i64 ds.v.n) ∧ W'.cell? ⟨D8, 2, none⟩ = some (.string ds.t) ∧ W'.cell? ⟨D8, 3, none⟩ = some (.int .i64 ds.n) := fun W' hb => ⟨cell_row2 ((hb.block _ l8).trans hv8), (cell_row4D ((hb.block _ ld8).trans hd8)).1⟩
    have hD8 := below_drew (Below.refl W8.heap.size W8)
    have S0 := FCS _ hD8
    have SW := FCS _ (Below.refl _ _)
    have HP8 := HPSHOW W8.drew (hBA2.trans (hD8.mono hBA2.size))
    clear HPSHOW
    go_region_held3 (fun W => (W.cell? ⟨w.heap.size, 0, none⟩ = some (.int .u8 v.k) ∧ W.cell? ⟨w.heap.size, 1, none⟩ = some (.int .i64 v.n)) ∧ W.cell? ⟨D8, 0, none⟩ = some (.int .u8 ds.v.k) ∧ W.cell? ⟨D8, 1, none⟩ = some (.int .i64 ds.v.n) ∧ W.cell? ⟨D8, 2, none⟩ = some (.string ds.t) ∧ W.cell? ⟨D8, 3, none⟩ = some (.int .i64 ds.n)) (first | with_reducible exact S0 | with_reducible exact SW | with_reducible exact T1 | with_reducible exact T2 | with_reducible exact T3 | go_keep)
      (first
        | (go_at_call 23; (with_reducible refine HP8.mono ?_); clear HP8; rintro e z1 ⟨pa, ca, rfl, ⟨to, hmo, hoo⟩, hY1⟩; obtain ⟨pz, cz, hvz, hst, -⟩ := hoo.isSt; rw [hmo] at hst hvz; cases hvz; clear hoo hmo; have hC1 := hD8.trans (hY1.mono hD8.size); have T1 := FCS _ hC1; have hR9 := hR8.below hC1; have hsm := HSSHOW z1 pa ph' ca ch' (hBA2.trans (hC1.mono hBA2.size)) hst hR9.at_ hR9.isSt)
        | (go_at_call 14; (with_reducible refine hsm.mono ?_); clear hsm; rintro e z2 ⟨rfl, hY2⟩; have hC2 := hC1.trans (hY2.mono hC1.size); have T2 := FCS _ hC2; have HL2 := HL z2)
        | (go_at_call 9; (with_reducible refine HL2.mono ?_); clear HL2; rintro e z3 ⟨rfl, hY3⟩; have hC3 := hC2.trans (hY3.mono hC2.size); have T3 := FCS _ hC3))
    all_goals
      go_wp2
      go_ret
      exact ⟨rfl, hB2'.trans ((hBA2.trans (hC3.mono hBA2.size)).mono hB2'.size)⟩


end Go.Proofs.YtgokofomoachaaaGreatDoor
