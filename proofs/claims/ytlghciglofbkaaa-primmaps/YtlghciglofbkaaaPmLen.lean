/- prim: Len. -/
import Derived.Test.YtlghciglofbkaaaPmPuts
namespace Go.Proofs.Ytlghciglofbkaaa
set_option linter.unusedVariables false
set_option linter.unusedSimpArgs false
open Go.RowKit

variable {w : World}

/-- How long a value is. -/
def lenP (a : Vl) (o : Om) : Int := if a.k = 3 then o.s.size else if a.k = 4 then o.l.length else (o.l.length / 2 : Nat)

/-- What Len comes to. -/
def LenR (S : List Om) (a : Vl) (d : Dv) : Prop := (¬ (fineP S [a] ∧ (a.k = 3 ∨ a.k = 4 ∨ a.k = 5)) ∧ d = ⟨S, ⟨0, 0⟩, tKind, 0⟩) ∨ (fineP S [a] ∧ (a.k = 3 ∨ a.k = 4 ∨ a.k = 5) ∧ ∃ o, leadO S a = some o ∧ d = ⟨S, ⟨2, lenP a o⟩, ⟨#[]⟩, 0⟩)

set_option maxRecDepth 20000 in
set_option maxHeartbeats 4000000 in
theorem Len_in {p : Option Addr} {S : List Om} (h : Ask w p S) (c : Nat) (a : Vl) (d : Dv) (hd : LenR S a d) :
    Calls Try.prog 10 #[.slice p S.length c, .agg #[.int .u8 a.k, .int .i64 a.n]] w (DidR w d.S d.v d.t d.n) := by
  have hB := below2' w (.cells #[.int .u8 a.k, .int .i64 a.n] 26) noD
  have hb0 := (Below.heap_alloc _ noD w.heap.size (by simp)).trans (heap_alloc_new w (.cells #[.int .u8 a.k, .int .i64 a.n] 26))
  have hb1 := heap_two w (.cells #[.int .u8 a.k, .int .i64 a.n] 26) noD
  unfold noD at hB hb0 hb1
  obtain ⟨x0, x1⟩ := cell_row2 hb0
  have HD : Hid _ := hd
  clear hd
  go_enter Try.func10, Try.ntmps10
  go_wp2_with (first
    | (go_at_call 13; refine halt_here ?_))
  unfold Halted
  have hWs : ((w.alloc (.cells #[.int .u8 a.k, .int .i64 a.n] 26)).alloc (.cells #[.slice none 0 0, .int .u8 0, .int .i64 0, .string ⟨#[]⟩, .int .i64 0] 28)).heap.size = w.heap.size + 1 + 1 := by simp
  generalize hW : (w.alloc (.cells #[.int .u8 a.k, .int .i64 a.n] 26)).alloc (.cells #[.slice none 0 0, .int .u8 0, .int .i64 0, .string ⟨#[]⟩, .int .i64 0] 28) = W at *
  have HZ : Hid _ := hWs
  clear hW hWs
  have hnew := heap_alloc_new W (.cells #[.int .u8 a.k, .int .i64 a.n] 26)
  rw [HZ.out] at hnew
  have hBY := below1 W (.cells #[.int .u8 a.k, .int .i64 a.n] 26)
  have hB' := hB.trans (hBY.mono hB.size)
  obtain ⟨bf, hbf⟩ := b_of (fineP S [a])
  have HM := pmayBe_in (h.below hB') c (l := [a]) 1 (one_val hnew) (by simp) bf hbf
  refine Calls.mono HM ?_
  clear HM
  rintro e w1 ⟨rfl, hB1⟩
  have hB1' := hBY.trans (hB1.mono hBY.size)
  have hBw := hB.trans (hB1'.mono hB.size)
  have e0 := (hB1'.block _ (Array.getElem?_eq_some_iff.1 hb0).1).trans hb0
  have e1 := (hB1'.block _ (Array.getElem?_eq_some_iff.1 hb1).1).trans hb1
  clear x0 x1 hb0 hb1 hnew hB1 hB1' hBY hB'
  obtain ⟨x0, x1⟩ := cell_row2 e0
  have l1 := (Array.getElem?_eq_some_iff.1 e1).1
  have HT := throws_in (h.below hBw) c ⟨#[107, 105, 110, 100]⟩
  have kindEnd : d = ⟨S, ⟨0, 0⟩, tKind, 0⟩ → ∀ (p1 : Option Addr) (c1 : Nat) (w2 : World), (∃ ts, ts.map Po.o = S ∧ OwnSt w1.heap.size (.slice p1 S.length c1) ts w2) → Below w1.heap.size w1 w2 → ∀ hr : w2.heap[w.heap.size + 1]? = some (.cells #[.slice none 0 0, .int .u8 0, .int .i64 0, .string ⟨#[]⟩, .int .i64 0] 28 (0, 0)), DidR w d.S d.v d.t d.n (.returned (.agg #[.slice p1 S.length c1, .int .u8 0, .int .i64 0, .string ⟨#[107, 105, 110, 100]⟩, .int .i64 0])) (((((w2.setCell ⟨w.heap.size + 1, 0, none⟩ (.slice p1 S.length c1)).setCell ⟨w.heap.size + 1, 1, none⟩ (.int .u8 0)).setCell ⟨w.heap.size + 1, 2, none⟩ (.int .i64 0)).setCell ⟨w.heap.size + 1, 3, none⟩ (.string ⟨#[107, 105, 110, 100]⟩)).setCell ⟨w.heap.size + 1, 4, none⟩ (.int .i64 0)) := fun hde p1 c1 w2 hts hB2 hr => by
    subst hde
    exact did_fin hr (by omega) (hts_mono hts hBw.size) (hBw.trans (hB2.mono hBw.size)) ⟨0, 0⟩ _ 0
  cases bf with
  | false =>
    have hde : d = ⟨S, ⟨0, 0⟩, tKind, 0⟩ := by
      rcases HD.out with ⟨-, hh⟩ | ⟨hf, -⟩
      · exact hh
      · have := hbf.2 hf; cases this
    clear HD hbf
    go_wp2_with (first
      | (go_at_call 14; (with_reducible refine HT.mono ?_); clear HT; rintro e w2 ⟨p1, c1, rfl, hts, hB2⟩; have hr := (hB2.block _ l1).trans e1; obtain ⟨⟨z0, z1, z2, z3, z4⟩, s0, s1, s2, s3, s4⟩ := cell_row5 hr))
    refine bodyPost_ret (results_cell_row (by rfl) _ _ (w.heap.size + 1) 28 _ _ _ (by rfl) (set5_row hr) Try.underlying28 (by rfl) infoDid) (by rfl) ?_
    exact kindEnd hde _ _ _ hts hB2 hr
  | true =>
    have hf := hbf.1 rfl
    clear hbf
    by_cases hk : a.k = 3 ∨ a.k = 4 ∨ a.k = 5
    · obtain ⟨o, hle, hde⟩ : ∃ o, leadO S a = some o ∧ d = ⟨S, ⟨2, lenP a o⟩, ⟨#[]⟩, 0⟩ := by
        rcases HD.out with ⟨hn, -⟩ | ⟨-, -, hh⟩
        · exact (hn ⟨hf, hk⟩).elim
        · exact hh
      have HO := object_in (h.below hBw) c a hle
      have HW := fun (n : Int) (W : World) => pwhole_in n W
      have HC := fun (n : Int) (W : World) (hb : Below w.heap.size w W) => comesTo_in (h.below hb) c ⟨2, n⟩
      simp only [show ((2 : Nat) : Int) = 2 from rfl] at HC
      have HF1 := fldO1
      have HF2 := fldO2
      have hlo := h.vals o (List.mem_of_getElem? (leadO_some hle).2.2.2.choose_spec.2.2)
      have hso := h.str o (List.mem_of_getElem? (leadO_some hle).2.2.2.choose_spec.2.2)
      subst hde
      obtain ⟨ak, an⟩ := a
      simp only at hk
      clear HD hf hle kindEnd HT
      have hq2 : ((o.l.length : Int)).tdiv 2 = ((o.l.length / 2 : Nat) : Int) := by
        rw [Int.tdiv_eq_ediv_of_nonneg (by omega)]; omega
      rcases hk with rfl | rfl | rfl
      all_goals
        simp only [show ((3 : Nat) : Int) = 3 from rfl, show ((4 : Nat) : Int) = 4 from rfl, show ((5 : Nat) : Int) = 5 from rfl] at x0 HO
        unfold lenP
        go_wp2_with (first
          | (go_at_call 24; (with_reducible refine HO.mono ?_); clear HO; rintro e w2 ⟨q, co, rfl, -, -, hB2⟩; have hC2 := hBw.trans (hB2.mono hBw.size); have f1 := (hB2.block _ l1).trans e1)
          | (go_at_call 23; (with_reducible refine (HW _ w2).mono ?_); clear HW; rintro e w3 ⟨rfl, hB3⟩; have hC3 := hC2.trans (hB3.mono hC2.size); have g1 := (hB3.block _ (Array.getElem?_eq_some_iff.1 f1).1).trans f1)
          | (go_at_call 22; (with_reducible refine (HC _ w3 hC3).mono ?_); clear HC; rintro e w4 ⟨p1, c1, rfl, hts, hB4⟩; have hr := (hB4.block _ (Array.getElem?_eq_some_iff.1 g1).1).trans g1; obtain ⟨⟨z0, z1, z2, z3, z4⟩, s0, s1, s2, s3, s4⟩ := cell_row5 hr))
        refine bodyPost_ret (results_cell_row (by rfl) _ _ (w.heap.size + 1) 28 _ _ _ (by rfl) (set5_row hr) Try.underlying28 (by rfl) infoDid) (by rfl) ?_
        exact did_fin hr (by omega) (hts_mono hts hC3.size) (hC3.trans (hB4.mono hC3.size)) ⟨2, _⟩ ⟨#[]⟩ 0
    · have hde : d = ⟨S, ⟨0, 0⟩, tKind, 0⟩ := by
        rcases HD.out with ⟨-, hh⟩ | ⟨-, hk', -⟩
        · exact hh
        · exact (hk hk').elim
      have h3 : ((a.k : Int) == 3) = false := by simp; omega
      have h4 : ((a.k : Int) == 4) = false := by simp; omega
      have h5 : ((a.k : Int) == 5) = false := by simp; omega
      have h3n : ¬ ((a.k : Int) = 3) := by omega
      have h4n : ¬ ((a.k : Int) = 4) := by omega
      have h5n : ¬ ((a.k : Int) = 5) := by omega
      clear HD hf hk
      go_wp2_with (first
        | (go_at_call 14; (with_reducible refine HT.mono ?_); clear HT; rintro e w2 ⟨p1, c1, rfl, hts, hB2⟩; have hr := (hB2.block _ l1).trans e1; obtain ⟨⟨z0, z1, z2, z3, z4⟩, s0, s1, s2, s3, s4⟩ := cell_row5 hr))
      refine bodyPost_ret (results_cell_row (by rfl) _ _ (w.heap.size + 1) 28 _ _ _ (by rfl) (set5_row hr) Try.underlying28 (by rfl) infoDid) (by rfl) ?_
      exact kindEnd hde _ _ _ hts hB2 hr

end Go.Proofs.Ytlghciglofbkaaa
