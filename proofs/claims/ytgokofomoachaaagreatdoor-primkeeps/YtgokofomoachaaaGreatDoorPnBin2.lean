/- prim: Bin. -/
import Derived.Test.YtgokofomoachaaaGreatDoorPnBin
namespace Go.Proofs.YtgokofomoachaaaGreatDoor
set_option linter.unusedVariables false
set_option linter.unusedSimpArgs false
open Go.RowKit

variable {w : World}

set_option maxRecDepth 20000 in
set_option maxHeartbeats 4000000 in
theorem pBin_in {p : Option Addr} {S : List Om} (h : Ask w p S) (c : Nat) (op : Nat) (v k : Vl) {D : Dv}
    (hD : (¬ mayL S [v, k] ∧ D = refD S) ∨ (mayL S [v, k] ∧ ∃ d, DoneR S d D ∧ ∀ W g, Below w.heap.size w W → Sgn W g → Calls Tryz.prog 53 #[.slice (some ⟨g, 0, none⟩) 10 10, .slice p S.length c, .int .u8 op, .agg #[.int .u8 v.k, .int .i64 v.n], .agg #[.int .u8 k.k, .int .i64 k.n]] W (DeedV W d))) :
    Calls Tryz.prog 11 #[.slice p S.length c, .int .u8 op, .agg #[.int .u8 v.k, .int .i64 v.n], .agg #[.int .u8 k.k, .int .i64 k.n]] w (DidR w D.S D.v D.t D.n) := by
  have hB := below3' w (.cells #[.int .u8 v.k, .int .i64 v.n] 27) (.cells #[.int .u8 k.k, .int .i64 k.n] 27) (.cells #[.slice none 0 0, .int .u8 0, .int .i64 0, .string ⟨#[]⟩, .int .i64 0] 33)
  have hb0 := heap3_0 w (.cells #[.int .u8 v.k, .int .i64 v.n] 27) (.cells #[.int .u8 k.k, .int .i64 k.n] 27) (.cells #[.slice none 0 0, .int .u8 0, .int .i64 0, .string ⟨#[]⟩, .int .i64 0] 33)
  have hb1 := heap3_1 w (.cells #[.int .u8 v.k, .int .i64 v.n] 27) (.cells #[.int .u8 k.k, .int .i64 k.n] 27) (.cells #[.slice none 0 0, .int .u8 0, .int .i64 0, .string ⟨#[]⟩, .int .i64 0] 33)
  have hb2 := heap3_2 w (.cells #[.int .u8 v.k, .int .i64 v.n] 27) (.cells #[.int .u8 k.k, .int .i64 k.n] 27) (.cells #[.slice none 0 0, .int .u8 0, .int .i64 0, .string ⟨#[]⟩, .int .i64 0] 33)
  obtain ⟨x0, x0'⟩ := cell_row2 hb0
  obtain ⟨x1, x1'⟩ := cell_row2 hb1
  have HD : Hid _ := hD
  clear hD
  go_enter Tryz.func11, Tryz.ntmps11
  go_wp2_with (first
    | (go_at_call 49; refine halt_here ?_))
  unfold Halted
  have hsz : (((w.alloc (.cells #[.int .u8 v.k, .int .i64 v.n] 27)).alloc (.cells #[.int .u8 k.k, .int .i64 k.n] 27)).alloc (.cells #[.slice none 0 0, .int .u8 0, .int .i64 0, .string ⟨#[]⟩, .int .i64 0] 33)).heap.size = w.heap.size + 1 + 1 + 1 := by simp
  generalize hW : ((w.alloc (.cells #[.int .u8 v.k, .int .i64 v.n] 27)).alloc (.cells #[.int .u8 k.k, .int .i64 k.n] 27)).alloc (.cells #[.slice none 0 0, .int .u8 0, .int .i64 0, .string ⟨#[]⟩, .int .i64 0] 33) = W at *
  clear hW
  have hnew := heap_alloc_new W (.cells #[.int .u8 v.k, .int .i64 v.n, .int .u8 k.k, .int .i64 k.n] 27)
  have hBY := below1 W (.cells #[.int .u8 v.k, .int .i64 v.n, .int .u8 k.k, .int .i64 k.n] 27)
  rw [hsz] at hnew
  clear hsz
  have hB' := hB.trans (hBY.mono hB.size)
  obtain ⟨bf, hbf⟩ := b_of (mayL S [v, k])
  have HM := pmayBe_in (h.below hB') c (l := [v, k]) 2 (one_vals2 hnew) (by simp) bf hbf
  refine Calls.mono HM ?_
  clear HM
  rintro e w1 ⟨rfl, hB1⟩
  have hB1' := hBY.trans (hB1.mono hBY.size)
  have hBw := hB.trans (hB1'.mono hB.size)
  have e0 := (hB1'.block _ (Array.getElem?_eq_some_iff.1 hb0).1).trans hb0
  have e1 := (hB1'.block _ (Array.getElem?_eq_some_iff.1 hb1).1).trans hb1
  have e2 := (hB1'.block _ (Array.getElem?_eq_some_iff.1 hb2).1).trans hb2
  clear x0 x0' x1 x1' hb0 hb1 hb2 hnew hB1 hB1' hBY hB'
  have l0 := (Array.getElem?_eq_some_iff.1 e0).1
  have l1 := (Array.getElem?_eq_some_iff.1 e1).1
  have l2 := (Array.getElem?_eq_some_iff.1 e2).1
  cases bf with
  | false =>
    have hde : D = refD S := by
      rcases HD.out with ⟨-, hh⟩ | ⟨hf, -⟩
      · exact hh
      · have := hbf.2 hf; cases this
    clear HD hbf
    have HT := refused_in (h.below hBw) c hde
    clear hde
    go_wp2_with (first
      | (go_at_call 50; (with_reducible refine HT.mono ?_); clear HT; rintro e w2 ⟨p1, c1, rfl, hts, hB2⟩; have hr := (hB2.block _ l2).trans e2; obtain ⟨⟨z0, z1, z2, z3, z4⟩, s0, s1, s2, s3, s4⟩ := cell_row5 hr))
    refine bodyPost_ret (results_cell_row (by rfl) _ _ (w.heap.size + 1 + 1) 33 _ _ _ (by rfl) (set5_row hr) Tryz.underlying33 (by rfl) infoDid) (by rfl) ?_
    exact did_fin hr (by omega) (hts_mono hts hBw.size) (hBw.trans (hB2.mono hBw.size)) D.v D.t D.n
  | true =>
    obtain ⟨d, hdone, HP⟩ : ∃ d, DoneR S d D ∧ ∀ W g, Below w.heap.size w W → Sgn W g → Calls Tryz.prog 53 #[.slice (some ⟨g, 0, none⟩) 10 10, .slice p S.length c, .int .u8 op, .agg #[.int .u8 v.k, .int .i64 v.n], .agg #[.int .u8 k.k, .int .i64 k.n]] W (DeedV W d) := by
      rcases HD.out with ⟨hn, -⟩ | ⟨-, hh⟩
      · exact (hn (hbf.1 rfl)).elim
      · exact hh
    clear HD hbf
    have FCS : ∀ W', Below w1.heap.size w1 W' → (W'.cell? ⟨w.heap.size, 0, none⟩ = some (.int .u8 v.k) ∧ W'.cell? ⟨w.heap.size, 1, none⟩ = some (.int .i64 v.n)) ∧ W'.cell? ⟨w.heap.size + 1, 0, none⟩ = some (.int .u8 k.k) ∧ W'.cell? ⟨w.heap.size + 1, 1, none⟩ = some (.int .i64 k.n) := fun W' hb => ⟨cell_row2 ((hb.block _ l0).trans e0), cell_row2 ((hb.block _ l1).trans e1)⟩
    have hD := below_drew (Below.refl w1.heap.size w1)
    have S0 := FCS _ hD
    have SW := FCS _ (Below.refl _ _)
    have HN := NewSigns_in w1.drew
    have HE := fun (W : World) (hb : Below w.heap.size w W) (q : Option Addr) (cq : Nat) (q2 : Option Addr) (hv : Vals W q d.o.l) (hv2 : Vals W q2 d.l2) => did_in (h.below hb) c d hdone (cq := cq) hv hv2
    have hn02 : w.heap.size ≠ w.heap.size + 1 + 1 := by omega
    have hn12 : w.heap.size + 1 ≠ w.heap.size + 1 + 1 := by omega
    clear hdone
    go_wp2_with fail
    go_region_held3 (fun W => (W.cell? ⟨w.heap.size, 0, none⟩ = some (.int .u8 v.k) ∧ W.cell? ⟨w.heap.size, 1, none⟩ = some (.int .i64 v.n)) ∧ W.cell? ⟨w.heap.size + 1, 0, none⟩ = some (.int .u8 k.k) ∧ W.cell? ⟨w.heap.size + 1, 1, none⟩ = some (.int .i64 k.n)) (first | with_reducible exact S0 | with_reducible exact SW | with_reducible exact S2 | with_reducible exact S3 | with_reducible exact ⟨⟨s0, s1⟩, s2, s3⟩ | with_reducible exact ⟨⟨(cell_set5 hn02).trans s0, (cell_set5 hn02).trans s1⟩, (cell_set5 hn12).trans s2, (cell_set5 hn12).trans s3⟩ | go_keep)
      (first
        | (go_at_call 52; (with_reducible refine HN.mono ?_); clear HN; rintro e w2 ⟨g, rfl, hsg, hB2⟩; have hD2 := hD.trans (hB2.mono hD.size); have S2 := FCS _ hD2; have hBw2 := hBw.trans (hD2.mono hBw.size); have HP2 := HP w2 g hBw2 hsg)
        | (go_at_call 53; (with_reducible refine HP2.mono ?_); clear HP2; rintro e w3 ⟨q9, c_, q2, rfl, hv1, hv2, hB3⟩; have hD3 := hD2.trans (hB3.mono hD2.size); have S3 := FCS _ hD3; have hBw3 := hBw.trans (hD3.mono hBw.size); have HE3 := HE w3 hBw3 q9 c_ q2 hv1 hv2)
        | (go_at_call 51; (with_reducible refine HE3.mono ?_); clear HE3; rintro e w4 ⟨p1, c1, rfl, hts, hB4⟩; have hD4 := hD3.trans (hB4.mono hD3.size); obtain ⟨⟨s0, s1⟩, s2, s3⟩ := FCS _ hD4; have hr := (hD4.block _ l2).trans e2; obtain ⟨⟨z0, z1, z2, z3, z4⟩, t0, t1, t2, t3, t4⟩ := cell_row5 hr))
    all_goals
      go_wp2
      refine bodyPost_ret (results_cell_row (by rfl) _ _ (w.heap.size + 1 + 1) 33 _ _ _ (by rfl) (set5_row hr) Tryz.underlying33 (by rfl) infoDid) (by rfl) ?_
      exact did_fin hr (by omega) (hts_mono hts hBw3.size) (hBw3.trans (hB4.mono hBw3.size)) D.v D.t D.n

theorem may_ints (S : List Om) (a b : Int) : mayL S [⟨2, a⟩, ⟨2, b⟩] := by
  have key : ∀ n : Int, checkP S ⟨2, n⟩ := fun n => by
    have hl : leadO S ⟨2, n⟩ = none := by unfold leadO; rw [if_neg (fun hh => by have := hh.1; simp at this)]
    refine ⟨⟨fun e => by simp at e, fun e => by simp at e, fun e => by simp at e⟩, fun x o hx ho => ?_⟩
    exact (hx (fun _ => False) (fun v hv h => by simp at hv; subst hv; exact h hl) (fun _ _ h => h.elim)).elim
  intro v hv
  simp at hv
  rcases hv with rfl | rfl
  · exact key a
  · exact key b

theorem Bin_Div {p : Option Addr} {S : List Om} (h : Ask w p S) (c : Nat) (a b : Int) (D : Dv) (hD : D = if b = 0 then ⟨S, ⟨0, 0⟩, tZero, 0⟩ else ⟨S, ⟨2, wrap64 (Int.tdiv a b)⟩, ⟨#[]⟩, 0⟩) :
    Calls Tryz.prog 11 #[.slice p S.length c, .int .u8 4, .agg #[.int .u8 2, .int .i64 a], .agg #[.int .u8 2, .int .i64 b]] w (DidR w D.S D.v D.t D.n) := by
  refine pBin_in h c 4 ⟨2, a⟩ ⟨2, b⟩ (.inr ⟨may_ints S a b, if b = 0 then thrD tZero else wholeD (wrap64 (Int.tdiv a b)), ?_, fun W g _ hg => (sBin_Div c hg a b rfl).mono (fun _ _ hh => hh.V)⟩)
  rw [hD]
  by_cases hb : b = 0
  · rw [if_pos hb, if_pos hb]; exact DoneR.old (d := thrD tZero) rfl rfl
  · rw [if_neg hb, if_neg hb]; exact DoneR.old (d := wholeD (wrap64 (Int.tdiv a b))) rfl rfl

end Go.Proofs.YtgokofomoachaaaGreatDoor
