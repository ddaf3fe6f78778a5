/- plain and prim: List. -/
import Derived.Test.YtgokofomoachaaaGreatDoorPnPut2
import Derived.Test.YtgokofomoachaaaGreatDoorPmAll
namespace Go.Proofs.YtgokofomoachaaaGreatDoor
set_option linter.unusedVariables false
set_option linter.unusedSimpArgs false
open Go.RowKit

variable {w : World}

/-- What List comes to. -/
def ListR (S : List Om) (l : List Vl) (d : Dv) : Prop := (¬ fineP S l ∧ d = refD S) ∨ (fineP S l ∧ d = ⟨S ++ [lstO l], ⟨4, (S.length : Int) + 1⟩, ⟨#[]⟩, (wordsO (lstO l) : Nat)⟩)

set_option maxRecDepth 20000 in
set_option maxHeartbeats 2000000 in
theorem List_pl {l : List Vl} {q : Option Addr} (cq : Nat) (hv : Vals w q l) (hq : q = none → cq = 0) (hl : l.length ≤ 65536) (h7 : ∀ v ∈ l, v.k ≠ 7) {d : Dd} (hd : d = makesD (lstO l)) :
    Calls Tryz.prog 72 #[.slice q l.length cq] w (DeedV w d) := by
  have hB := below1 w (.cells #[.string ⟨#[]⟩, .int .i64 0, .int .u8 0, .int .i64 0, .int .u8 0, .string ⟨#[]⟩, .slice none 0 0, .int .i64 0, .int .i64 0, .int .i64 0, .int .i64 0, .slice none 0 0, .int .i64 0] 100)
  have hb := heap_alloc_new w (.cells #[.string ⟨#[]⟩, .int .i64 0, .int .u8 0, .int .i64 0, .int .u8 0, .string ⟨#[]⟩, .slice none 0 0, .int .i64 0, .int .i64 0, .int .i64 0, .int .i64 0, .slice none 0 0, .int .i64 0] 100)
  have HA := anyCell_in cq (hv.below hB) (by omega) false ⟨(fun e => by cases e), (fun ⟨v, hv, h⟩ => (h7 v hv h).elim)⟩
  have HK := fun (W : World) (hBw : Below w.heap.size w W) => mk_in (w := W) (lstO l) (q := q) cq (hv.below hBw) hq (by show l.length ≤ 100000; omega) (by show (0 : Nat) ≤ 1048576; omega) (by show (l.length : Int) ≤ 1099511627776; omega) (by simp [lstO]) (by simp [lstO])
  simp only [show (lstO l).k = 4 from rfl, show (lstO l).s = ⟨#[]⟩ from rfl, show (lstO l).l = l from rfl, show (lstO l).room = (l.length : Int) from rfl, show (lstO l).fn = 0 from rfl, show ((4 : Nat) : Int) = 4 from rfl] at HK
  have hl' : ¬ ((65536 : Int) < (l.length : Int)) := by omega
  have HD : Hid _ := And.intro hd hv
  clear hd h7 hv
  go_enter Tryz.func72, Tryz.ntmps72
  go_wp2_with (first
    | (go_at_call 174; (with_reducible refine HA.mono ?_); clear HA; rintro e w0 ⟨rfl, hB0⟩; have hBw := hB.trans (hB0.mono hB.size); have hb' := (hB0.block _ (Array.getElem?_eq_some_iff.1 hb).1).trans hb; have HK1 := HK w0 hBw)
    | (go_at_call 180; (with_reducible refine HK1.mono ?_); clear HK1; rintro e w1 ⟨rfl, hB1⟩; have hr := (hB1.block _ (Array.getElem?_eq_some_iff.1 hb').1).trans hb'; obtain ⟨⟨z0, z1, z2, z3, z4, z5, z6, z7, z8, z9, z10, z11, z12⟩, y0, y1, y2, y3, y4, y5, y6, y7, y8, y9, y10, y11, y12⟩ := cell_row13 hr))
  refine bodyPost_ret (results_cell_row (by rfl) _ _ w.heap.size 100 _ _ _ (by rfl) (set13_row hr) Tryz.underlying100 (by rfl) infoDeed) (by rfl) ?_
  have hBB : Below w.heap.size w w1 := hBw.trans (hB1.mono hBw.size)
  have hBF := below_set13 hBB (g := w.heap.size) (Nat.le_refl _) (.string ⟨#[]⟩) (.int .i64 (wordsO (lstO l) : Nat)) (.int .u8 0) (.int .i64 0) (.int .u8 4) (.string ⟨#[]⟩) (.slice q l.length cq) (.int .i64 (l.length : Int)) (.int .i64 0) (.int .i64 0) (.int .i64 0) (.slice none 0 0) (.int .i64 0)
  rw [HD.out.1]
  exact ⟨q, cq, none, rfl, HD.out.2.below hBF, (fun j v hj => by simp [makesD] at hj), hBF⟩

set_option maxRecDepth 20000 in
set_option maxHeartbeats 2000000 in
theorem pList_in {p : Option Addr} {S : List Om} (h : Ask w p S) (c : Nat) {l : List Vl} {q : Option Addr} (cq : Nat) (hv : Vals w q l) (hq : q = none → cq = 0) (hfit : ∀ v ∈ l, v.fits) (hl : l.length ≤ 65536) (hc : l.length ≤ cq) (hcm : cq ≤ maxLen) (hsum : S.length + 1 + sumL S + l.length ≤ 1048576) {D : Dv}
    (hD : (¬ fineP S l ∧ D = refD S) ∨ (fineP S l ∧ ∃ d, DoneR S d D ∧ ∀ W, Below w.heap.size w W → Calls Tryz.prog 72 #[.slice q l.length cq] W (DeedV W d))) :
    Calls Tryz.prog 29 #[.slice p S.length c, .slice q l.length cq] w (DidR w D.S D.v D.t D.n) := by
  have hB := below1 w (.cells #[.slice none 0 0, .int .u8 0, .int .i64 0, .string ⟨#[]⟩, .int .i64 0] 33)
  have hb := heap_alloc_new w (.cells #[.slice none 0 0, .int .u8 0, .int .i64 0, .string ⟨#[]⟩, .int .i64 0] 33)
  obtain ⟨bf, hbf⟩ := b_of (fineP S l)
  have HM := mayAllBe_in (h.below hB) c cq (hv.below hB) hq hfit hl hc hcm hsum bf hbf
  have HD : Hid _ := hD
  clear hD
  go_enter Tryz.func29, Tryz.ntmps29
  go_wp2_with (first
    | (go_at_call 71; (with_reducible refine HM.mono ?_); clear HM; rintro e w1 ⟨rfl, hB1⟩; refine halt_here ?_))
  unfold Halted
  have hBw := hB.trans (hB1.mono hB.size)
  have e0 := (hB1.block _ (Array.getElem?_eq_some_iff.1 hb).1).trans hb
  have l0 := (Array.getElem?_eq_some_iff.1 e0).1
  cases bf with
  | false =>
    have hde : D = refD S := by
      rcases HD.out with ⟨-, hh⟩ | ⟨hf, -⟩
      · exact hh
      · have := hbf.2 hf; cases this
    clear HD hbf
    have HT := refused_in (h.below hBw) c hde
    clear hde
    go_wp2_with (first
      | (go_at_call 50; (with_reducible refine HT.mono ?_); clear HT; rintro e w2 ⟨p1, c1, rfl, hts, hB2⟩; have hr := (hB2.block _ l0).trans e0; obtain ⟨⟨z0, z1, z2, z3, z4⟩, s0, s1, s2, s3, s4⟩ := cell_row5 hr))
    refine bodyPost_ret (results_cell_row (by rfl) _ _ w.heap.size 33 _ _ _ (by rfl) (set5_row hr) Tryz.underlying33 (by rfl) infoDid) (by rfl) ?_
    exact did_fin hr (by omega) (hts_mono hts hBw.size) (hBw.trans (hB2.mono hBw.size)) D.v D.t D.n
  | true =>
    obtain ⟨d, hdone, HP⟩ : ∃ d, DoneR S d D ∧ ∀ W, Below w.heap.size w W → Calls Tryz.prog 72 #[.slice q l.length cq] W (DeedV W d) := by
      rcases HD.out with ⟨hn, -⟩ | ⟨-, hh⟩
      · exact (hn (hbf.1 rfl)).elim
      · exact hh
    clear HD hbf
    have HP1 := HP w1 hBw
    clear HP
    have HDN : Hid _ := hdone
    clear hdone
    go_wp2_with (first
      | (go_at_call 72; (with_reducible refine HP1.mono ?_); clear HP1; rintro e w2 ⟨q9, c_, q2, rfl, hv1, hv2, hB2⟩; refine halt_here ?_))
    unfold Halted
    have hBw2 := hBw.trans (hB2.mono hBw.size)
    have HE := did_in (h.below hBw2) c d HDN.out (cq := c_) hv1 hv2
    have f0 := (hB2.block _ l0).trans e0
    clear hv1 hv2
    go_wp2_with (first
      | (go_at_call 51; (with_reducible refine HE.mono ?_); clear HE; rintro e w3 ⟨p1, c1, rfl, hts, hB3⟩; have hr := (hB3.block _ (Array.getElem?_eq_some_iff.1 f0).1).trans f0; obtain ⟨⟨z0, z1, z2, z3, z4⟩, s0, s1, s2, s3, s4⟩ := cell_row5 hr))
    refine bodyPost_ret (results_cell_row (by rfl) _ _ w.heap.size 33 _ _ _ (by rfl) (set5_row hr) Tryz.underlying33 (by rfl) infoDid) (by rfl) ?_
    exact did_fin hr (by omega) (hts_mono hts hBw2.size) (hBw2.trans (hB3.mono hBw2.size)) D.v D.t D.n

set_option maxRecDepth 20000 in
set_option maxHeartbeats 2000000 in
theorem pMap_in {p : Option Addr} {S : List Om} (h : Ask w p S) (c : Nat) {l : List Vl} {q : Option Addr} (cq : Nat) (hv : Vals w q l) (hq : q = none → cq = 0) (hfit : ∀ v ∈ l, v.fits) (hl : l.length ≤ 65536) (hc : l.length ≤ cq) (hcm : cq ≤ maxLen) (hsum : S.length + 1 + sumL S + l.length ≤ 1048576) {D : Dv}
    (hD : (¬ fineP S l ∧ D = refD S) ∨ (fineP S l ∧ ∃ d, DoneR S d D ∧ ∀ W, Below w.heap.size w W → Calls Tryz.prog 73 #[.slice p S.length c, .slice q l.length cq] W (DeedV W d))) :
    Calls Tryz.prog 30 #[.slice p S.length c, .slice q l.length cq] w (DidR w D.S D.v D.t D.n) := by
  have hB := below1 w (.cells #[.slice none 0 0, .int .u8 0, .int .i64 0, .string ⟨#[]⟩, .int .i64 0] 33)
  have hb := heap_alloc_new w (.cells #[.slice none 0 0, .int .u8 0, .int .i64 0, .string ⟨#[]⟩, .int .i64 0] 33)
  obtain ⟨bf, hbf⟩ := b_of (fineP S l)
  have HM := mayAllBe_in (h.below hB) c cq (hv.below hB) hq hfit hl hc hcm hsum bf hbf
  have HD : Hid _ := hD
  clear hD
  go_enter Tryz.func30, Tryz.ntmps30
  go_wp2_with (first
    | (go_at_call 71; (with_reducible refine HM.mono ?_); clear HM; rintro e w1 ⟨rfl, hB1⟩; refine halt_here ?_))
  unfold Halted
  have hBw := hB.trans (hB1.mono hB.size)
  have e0 := (hB1.block _ (Array.getElem?_eq_some_iff.1 hb).1).trans hb
  have l0 := (Array.getElem?_eq_some_iff.1 e0).1
  cases bf with
  | false =>
    have hde : D = refD S := by
      rcases HD.out with ⟨-, hh⟩ | ⟨hf, -⟩
      · exact hh
      · have := hbf.2 hf; cases this
    clear HD hbf
    have HT := refused_in (h.below hBw) c hde
    clear hde
    go_wp2_with (first
      | (go_at_call 50; (with_reducible refine HT.mono ?_); clear HT; rintro e w2 ⟨p1, c1, rfl, hts, hB2⟩; have hr := (hB2.block _ l0).trans e0; obtain ⟨⟨z0, z1, z2, z3, z4⟩, s0, s1, s2, s3, s4⟩ := cell_row5 hr))
    refine bodyPost_ret (results_cell_row (by rfl) _ _ w.heap.size 33 _ _ _ (by rfl) (set5_row hr) Tryz.underlying33 (by rfl) infoDid) (by rfl) ?_
    exact did_fin hr (by omega) (hts_mono hts hBw.size) (hBw.trans (hB2.mono hBw.size)) D.v D.t D.n
  | true =>
    obtain ⟨d, hdone, HP⟩ : ∃ d, DoneR S d D ∧ ∀ W, Below w.heap.size w W → Calls Tryz.prog 73 #[.slice p S.length c, .slice q l.length cq] W (DeedV W d) := by
      rcases HD.out with ⟨hn, -⟩ | ⟨-, hh⟩
      · exact (hn (hbf.1 rfl)).elim
      · exact hh
    clear HD hbf
    have HP1 := HP w1 hBw
    clear HP
    have HDN : Hid _ := hdone
    clear hdone
    go_wp2_with (first
      | (go_at_call 73; (with_reducible refine HP1.mono ?_); clear HP1; rintro e w2 ⟨q9, c_, q2, rfl, hv1, hv2, hB2⟩; refine halt_here ?_))
    unfold Halted
    have hBw2 := hBw.trans (hB2.mono hBw.size)
    have HE := did_in (h.below hBw2) c d HDN.out (cq := c_) hv1 hv2
    have f0 := (hB2.block _ l0).trans e0
    clear hv1 hv2
    go_wp2_with (first
      | (go_at_call 51; (with_reducible refine HE.mono ?_); clear HE; rintro e w3 ⟨p1, c1, rfl, hts, hB3⟩; have hr := (hB3.block _ (Array.getElem?_eq_some_iff.1 f0).1).trans f0; obtain ⟨⟨z0, z1, z2, z3, z4⟩, s0, s1, s2, s3, s4⟩ := cell_row5 hr))
    refine bodyPost_ret (results_cell_row (by rfl) _ _ w.heap.size 33 _ _ _ (by rfl) (set5_row hr) Tryz.underlying33 (by rfl) infoDid) (by rfl) ?_
    exact did_fin hr (by omega) (hts_mono hts hBw2.size) (hBw2.trans (hB3.mono hBw2.size)) D.v D.t D.n

theorem List_in {p : Option Addr} {S : List Om} (h : Ask w p S) (c : Nat) {l : List Vl} {q : Option Addr} (cq : Nat) (hv : Vals w q l) (hq : q = none → cq = 0) (hfit : ∀ v ∈ l, v.fits) (hl : l.length ≤ 65536) (hc : l.length ≤ cq) (hcm : cq ≤ maxLen) (hsum : S.length + 1 + sumL S + l.length ≤ 1048576) (d : Dv) (hd : ListR S l d) :
    Calls Tryz.prog 29 #[.slice p S.length c, .slice q l.length cq] w (DidR w d.S d.v d.t d.n) := by
  refine pList_in h c cq hv hq hfit hl hc hcm hsum ?_
  rcases hd with hd | ⟨hf, hd⟩
  · exact .inl hd
  · exact .inr ⟨hf, makesD (lstO l), by rw [hd]; exact DoneR.new (d := makesD (lstO l)) (by simp [makesD, lstO]) rfl (by show l.length ≤ 1000000; omega) (by show (0 : Nat) ≤ 1048576; omega), fun W hB => List_pl cq (hv.below hB) hq hl (fun v hv => (hf v hv).1) rfl⟩


end Go.Proofs.YtgokofomoachaaaGreatDoor
