/- prim: List. -/
import Derived.Test.YtlghciglofbkaaaPmAll
namespace Go.Proofs.Ytlghciglofbkaaa
set_option linter.unusedVariables false
set_option linter.unusedSimpArgs false
open Go.RowKit

variable {w : World}

/-- What List comes to. -/
def ListR (S : List Om) (l : List Vl) (d : Dv) : Prop := (¬ fineP S l ∧ d = ⟨S, ⟨0, 0⟩, tKind, 0⟩) ∨ (fineP S l ∧ d = ⟨S ++ [lstO l], ⟨4, (S.length : Int) + 1⟩, ⟨#[]⟩, (wordsO (lstO l) : Nat)⟩)

set_option maxRecDepth 20000 in
set_option maxHeartbeats 2000000 in
theorem List_in {p : Option Addr} {S : List Om} (h : Ask w p S) (c : Nat) {l : List Vl} {q : Option Addr} (cq : Nat) (hv : Vals w q l) (hq : q = none → cq = 0) (hfit : ∀ v ∈ l, v.fits) (hl : l.length ≤ 65536) (hc : l.length ≤ cq) (hcm : cq ≤ maxLen) (hsum : S.length + 1 + sumL S + l.length ≤ 1048576) (d : Dv) (hd : ListR S l d) :
    Calls Try.prog 16 #[.slice p S.length c, .slice q l.length cq] w (DidR w d.S d.v d.t d.n) := by
  have hB := below1 w noD
  have hb := heap_alloc_new w noD
  obtain ⟨b, hbb⟩ := b_of (fineP S l)
  have HM := mayAllBe_in (h.below hB) c cq (hv.below hB) hq hfit hl hc hcm hsum b hbb
  unfold noD at hB hb HM
  have l0 := (Array.getElem?_eq_some_iff.1 hb).1
  cases b with
  | false =>
    have hde : d = ⟨S, ⟨0, 0⟩, tKind, 0⟩ := by
      rcases hd with ⟨-, hh⟩ | ⟨hf, -⟩
      · exact hh
      · have := hbb.2 hf; cases this
    subst hde
    clear hd hbb
    go_enter Try.func16, Try.ntmps16
    go_wp2_with (first
      | (go_at_call 17; (with_reducible refine HM.mono ?_); clear HM; rintro e w1 ⟨rfl, hB1⟩; have hBw := hB.trans (hB1.mono hB.size); have hb1 := (hB1.block _ l0).trans hb; have HT := throws_in (h.below hBw) c ⟨#[107, 105, 110, 100]⟩)
      | (go_at_call 14; (with_reducible refine HT.mono ?_); clear HT; rintro e w2 ⟨p1, c1, rfl, hts, hB2⟩; have hr := (hB2.block _ (Array.getElem?_eq_some_iff.1 hb1).1).trans hb1; obtain ⟨⟨z0, z1, z2, z3, z4⟩, s0, s1, s2, s3, s4⟩ := cell_row5 hr))
    refine bodyPost_ret (results_cell_row (by rfl) _ _ w.heap.size 28 _ _ _ (by rfl) (set5_row hr) Try.underlying28 (by rfl) infoDid) (by rfl) ?_
    exact did_fin hr (Nat.le_refl _) (hts_mono hts hBw.size) (hBw.trans (hB2.mono hBw.size)) ⟨0, 0⟩ _ 0
  | true =>
    have hde : d = ⟨S ++ [lstO l], ⟨4, (S.length : Int) + 1⟩, ⟨#[]⟩, (wordsO (lstO l) : Nat)⟩ := by
      rcases hd with ⟨hn, -⟩ | ⟨-, hh⟩
      · exact (hn (hbb.1 rfl)).elim
      · exact hh
    subst hde
    clear hd hbb
    have hl' : ¬ ((65536 : Int) < (l.length : Int)) := by omega
    have HK := fun (W : World) (hBw : Below w.heap.size w W) => makes_in (h.below hBw) c (lstO l) (q := q) cq (hv.below hBw) hq (by show l.length ≤ 100000; omega) (by show (0 : Nat) ≤ 1048576; omega) (by show (l.length : Int) ≤ 1099511627776; omega) (by simp [lstO]) (by simp [lstO])
    unfold objV at HK
    simp only [show (lstO l).k = 4 from rfl, show (lstO l).s = ⟨#[]⟩ from rfl, show (lstO l).l = l from rfl, show (lstO l).room = (l.length : Int) from rfl, show (lstO l).fn = 0 from rfl, show ((4 : Nat) : Int) = 4 from rfl] at HK
    generalize hwo : (wordsO (lstO l) : Nat) = wo at *
    clear hwo
    go_enter Try.func16, Try.ntmps16
    go_wp2_with (first
      | (go_at_call 17; (with_reducible refine HM.mono ?_); clear HM; rintro e w1 ⟨rfl, hB1⟩; have hBw := hB.trans (hB1.mono hB.size); have hb1 := (hB1.block _ l0).trans hb; have HK1 := HK w1 hBw)
      | (go_at_call 18; (with_reducible refine HK1.mono ?_); clear HK1; rintro e w2 ⟨p1, c1, rfl, hts, hB2⟩; have hr := (hB2.block _ (Array.getElem?_eq_some_iff.1 hb1).1).trans hb1; obtain ⟨⟨z0, z1, z2, z3, z4⟩, s0, s1, s2, s3, s4⟩ := cell_row5 hr))
    refine bodyPost_ret (results_cell_row (by rfl) _ _ w.heap.size 28 _ _ _ (by rfl) (set5_row hr) Try.underlying28 (by rfl) infoDid) (by rfl) ?_
    exact did_finN hr (Nat.le_refl _) (n := S.length + 1) (by simp) (hts_mono hts hBw.size) (hBw.trans (hB2.mono hBw.size)) ⟨4, (S.length : Int) + 1⟩ ⟨#[]⟩ (wo : Nat)

end Go.Proofs.Ytlghciglofbkaaa
