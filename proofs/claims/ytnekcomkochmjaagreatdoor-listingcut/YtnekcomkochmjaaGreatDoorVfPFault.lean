/- The program's fault of a function. -/
import Derived.Test.YtnekcomkochmjaaGreatDoorVfPHeadY
import Derived.Test.YtnekcomkochmjaaGreatDoorVfPMakes
import Derived.Test.YtnekcomkochmjaaGreatDoorVfPMay2
import Derived.Test.YtnekcomkochmjaaGreatDoorVbDepths
namespace Go.Proofs.YtnekcomkochmjaaGreatDoor
set_option linter.unusedVariables false
set_option linter.unusedSimpArgs false
open Go.RowKit Go.Maps

variable {w : World}

/-- The place of a function's first fault, -1: none; the makers. -/
def faultV (fs : List Fm) (n : Nat) (f : Fm) (mk : List Int) : Int × List Int :=
  if headP f (decide (n = 0)) = true then
    match codeP fs n f f.code 0 mk with
    | (some pc, mk') => ((pc : Int), mk')
    | (none, mk') => match depthsP f with
      | .error pc => ((pc : Int), mk')
      | .ok _ => (-1, mk')
  else (0, mk)

/-- What fault answers. -/
def FaultR (w0 : World) (bc bm b0 off c : Nat) (fs : List Fm) (nm n : Nat) (f : Fm) (mk : List Int) (e : Ending) (w' : World) : Prop :=
  e = .returned (.int .i64 (faultV fs n f mk).1) ∧ Below w0.heap.size w0 w' ∧ ((faultV fs n f mk).1 = -1 → ∃ nm', nm' ≤ nm + 16384 ∧ Cr w0 w' bc bm b0 off c fs nm' (faultV fs n f mk).2 ∧ MkOk fs (faultV fs n f mk).2 ∧ (faultV fs n f mk).2.length = mk.length ∧ ∀ k, -1 ≤ (faultV fs n f mk).2.getD k (-1) ∧ (faultV fs n f mk).2.getD k (-1) ≤ 256)

theorem headP_of {n : Nat} {f : Fm} : headP f (decide (n = 0)) = (headP f false && (decide (n ≠ 0) || (decide (f.params = 0) && decide (f.caps.length = 0)))) := by
  by_cases h : n = 0
  · subst h
    rw [show decide ((0 : Nat) = 0) = true from rfl, headP_main]
    simp
  · rw [decide_eq_false h]
    simp [h]

theorem codeP_cons {fs : List Fm} {n : Nat} {f : Fm} {i : In} {r : List In} {pc : Nat} {mk : List Int} : codeP fs n f (i :: r) pc mk = if insP fs n f mk pc i then codeP fs n f r (pc + 1) (mkP n mk i) else (some pc, mk) := rfl

theorem mkP_len {n : Nat} {mk : List Int} {i : In} : (mkP n mk i).length = mk.length := by unfold mkP; split <;> simp

theorem mkP_lo {n : Nat} {mk : List Int} {i : In} (hn : n ≤ 256) (h : ∀ k, -1 ≤ mk.getD k (-1) ∧ mk.getD k (-1) ≤ 256) : ∀ k, -1 ≤ (mkP n mk i).getD k (-1) ∧ (mkP n mk i).getD k (-1) ≤ 256 := by
  intro k
  unfold mkP
  split
  · by_cases hl : i.a.toNat < mk.length
    · rw [getD_set_if' _ _ _ _ hl]
      split
      · omega
      · exact h k
    · rw [List.set_eq_of_length_le (by omega)]
      exact h k
  · exact h k

set_option maxRecDepth 20000 in
set_option maxHeartbeats 8000000 in
theorem fault_in {w0 : World} {bc bm b0 off c nm n : Nat} {fs : List Fm} {mk : List Int} {f : Fm} (h : Cr w0 w bc bm b0 off c fs nm mk) (hp : PrgP w0 b0 off fs) (hok : MkOk fs mk) (hml : mk.length = fs.length) (hl : fs.length ≤ 256) (hn : fs[n]? = some f) (hfit : FitF f) (hlo : ∀ k, -1 ≤ mk.getD k (-1) ∧ mk.getD k (-1) ≤ 256) (hnm : nm ≤ 16777216) (hcl : ∀ g ∈ fs, g.caps.length ≤ 1099511627776) (ht : RowsT w0) :
    Calls Tryz.prog 17 #[.pointer (some ⟨bc, 0, none⟩), .int .i64 n] w fun e w' => FaultR w0 bc bm b0 off c fs nm n f mk e w' := by
  have hnl := (List.getElem?_eq_some_iff.1 hn).1
  obtain ⟨s, fp0⟩ := hp n f hn
  have hnl' : (n : Int) < (fs.length : Int) := by omega
  have HW : Hid (∀ W, Below w.heap.size w W → Below w0.heap.size w0 W) := fun W hB => h.bel.trans (hB.mono h.bel.size)
  have ac := (cell_row2 h.cb).1.1
  have H1 := mainMayBe_in (fp0.below h.bel)
  have H2 := headMayBe_in (fp0.below h.bel) hfit
  have hhp := headP_of (n := n) (f := f)
  have HH : Hid _ := And.intro h (And.intro hp (And.intro hok (And.intro hml (And.intro hlo (And.intro hcl (And.intro hn fp0))))))
  have HT : Hid _ := ht
  have HFI : Hid _ := hfit
  by_cases hhd : headP f (decide (n = 0)) = true
  · have hh2 : headP f false = true := by rw [hhp] at hhd; simp at hhd; exact hhd.1
    have hmn : n = 0 → (decide (f.params = 0) && decide (f.caps.length = 0)) = true := fun e => by rw [hhp] at hhd; simp [e] at hhd; simp [hhd]
    obtain ⟨h1, h2, h3, h4, h6, h7, hk, h9, h10, h11, hls, h8, hhs⟩ := (headP_iff f).1 hh2
    rw [hh2] at H2
    have c5 := fun (W : World) (hB : Below w.heap.size w W) => (fp0.below (HW.out _ hB)).cell 5 _ rfl
    have HHD : Hid _ := hhd
    have fin : Hid (∀ (e : Ending) (W : World), FaultR w0 bc bm b0 off c fs nm n f mk e W → FaultR w0 bc bm b0 off c fs nm n f mk e W) := fun _ _ q => q
    have main : ∀ (W : World), Below w.heap.size w W → True := fun _ _ => trivial
    clear h hp hok hml hlo hcl hn fp0 hhp hhd hh2 hk hls hhs hfit ht main fin
    by_cases q0 : n = 0
    · have e0 : ((n : Int) == 0) = true := by simp; omega
      rw [hmn q0] at H1
      clear q0 hmn
      go_enter Tryz.func17, Tryz.ntmps17
      go_wp2_with (first
        | (go_at_call 24; (with_reducible refine H1.mono ?_); clear H1; rintro e w1 ⟨rfl, rfl⟩)
        | (go_at_call 25; (with_reducible refine H2.mono ?_); clear H2; rintro e w2 ⟨rfl, hB2⟩; have d5 := c5 _ hB2))
      clear c5 d5
      go_loopw [32] (fun k wr => ∃ (j nm' : Nat) (mk' : List Int), k = .int .i64 j ∧ j ≤ f.code.length ∧ nm' ≤ nm + j ∧ Cr w0 wr bc bm b0 off c fs nm' mk' ∧ MkOk fs mk' ∧ mk'.length = mk.length ∧ (∀ k, -1 ≤ mk'.getD k (-1) ∧ mk'.getD k (-1) ≤ 256) ∧ codeP fs n f f.code 0 mk = codeP fs n f (f.code.drop j) j mk') (fun k _ => f.code.length - (intOf k).toNat)
      case atStart =>
        obtain ⟨h, hp, hok, hml, hlo, hcl, hn, fp0⟩ := HH.out
        exact ⟨0, nm, mk, rfl, by omega, by omega, h.kept hB2, hok, rfl, hlo, by simp⟩
      case round =>
        obtain ⟨j, nm', mk', rfl, hj, hnm', cr, mok, mkl, mlo, hcode⟩ := hrel
        obtain ⟨-, hp, -, hml, -, hcl, hn, fp0⟩ := HH.out
        have CR : Hid _ := cr
        by_cases hjl : j < f.code.length
        · have hjl' : (j : Int) < (f.code.length : Int) := by omega
          obtain ⟨i, hi⟩ : ∃ i, f.code[j]? = some i := ⟨f.code[j], by simp⟩
          have HMb := mayBe_in cr hp mok (mkl.trans hml) hl hn hi (HFI.out.code i (List.mem_of_getElem? hi)) mlo (by omega) hcl HT.out (by omega) h4 h10 h7 h6
          have hdrop : f.code.drop j = i :: f.code.drop (j + 1) := by
            rw [List.drop_eq_getElem_cons hjl]
            congr 1
            have := (List.getElem?_eq_some_iff.1 hi).2
            exact this
          cases hq : insP fs n f mk' j i with
          | true =>
            have hcode' : codeP fs n f f.code 0 mk = codeP fs n f (f.code.drop (j + 1)) (j + 1) (mkP n mk' i) := by
              rw [hcode, hdrop, codeP_cons, if_pos hq]
            unfold MayR at HMb
            rw [hq] at HMb
            have HC : Hid _ := And.intro hcode' (And.intro mkl mlo)
            clear cr mok hcode hcode' hdrop hp hml hcl hn fp0 hi hq mlo mkl
            go_wp2_with (first
              | (go_at_call 26; (with_reducible refine HMb.mono ?_); clear HMb; rintro e w3 ⟨rfl, hb3, hc3⟩))
            go_roundw
            case rel =>
              obtain ⟨nm2, hnm2, cr2, mok2⟩ := hc3 trivial
              obtain ⟨hcode', mkl, mlo⟩ := HC.out
              exact ⟨j + 1, nm2, mkP n mk' i, by simp, by omega, by omega, cr2, mok2, mkP_len.trans mkl, mkP_lo (by omega) mlo, hcode'⟩
            case measure => simp [intOf]; omega
          | false =>
            have hv : (faultV fs n f mk).1 = (j : Int) := by
              unfold faultV
              rw [if_pos HHD.out, hcode, hdrop, codeP_cons, if_neg (by rw [hq]; simp)]
            unfold MayR at HMb
            rw [hq] at HMb
            have HV : Hid _ := hv
            clear cr mok hcode hdrop hp hml hcl hn fp0 hi hq mlo mkl hv
            go_wp2_with (first
              | (go_at_call 26; (with_reducible refine HMb.mono ?_); clear HMb; rintro e w3 ⟨rfl, hb3, -⟩))
            go_ret
            refine ⟨by rw [HV.out]; rfl, hb3, fun q => ?_⟩
            rw [HV.out] at q
            omega
        · have hjl' : ¬ ((j : Int) < (f.code.length : Int)) := by omega
          have hcode2 : codeP fs n f f.code 0 mk = (none, mk') := by
            rw [hcode, List.drop_eq_nil_of_le (by omega)]
            rfl
          have hcok : CodeOk f := ok_of HHD.out (by rw [hcode2]) HFI.out.code
          have HD := pdep_in (fp0.below cr.bel) hcok (HT.out.below cr.bel)
          have HD2 : Calls Tryz.prog 27 #[.pointer (some ⟨b0, off + n * 8, none⟩)] wr fun e w' => ∃ v, e = .returned (.tuple #[v, .int .i64 (faultV fs n f mk).1]) ∧ Below wr.heap.size wr w' := HD.mono (fun e w' q => by
            obtain ⟨q1, q2⟩ := q
            have hv : (faultV fs n f mk).1 = (match depthsP f with | .error pc => ((pc : Nat) : Int) | .ok _ => -1) := by
              unfold faultV
              rw [if_pos HHD.out, hcode2]
              simp only
              cases depthsP f <;> rfl
            rw [hv]
            unfold DepP at q1
            cases hd : depthsP f with
            | error pc => rw [hd] at q1; obtain ⟨v, e1⟩ := q1; exact ⟨v, e1, q2⟩
            | ok told => rw [hd] at q1; obtain ⟨g, cc, e1, _⟩ := q1; exact ⟨_, e1, q2⟩)
          have hv2 : (faultV fs n f mk).1 = -1 → (faultV fs n f mk).2 = mk' := fun _ => by
            unfold faultV
            rw [if_pos HHD.out, hcode2]
            simp only
            cases depthsP f <;> rfl
          obtain ⟨F, hF⟩ : ∃ F, (faultV fs n f mk).1 = F := ⟨_, rfl⟩
          rw [hF] at HD2
          have HV : Hid _ := And.intro hF (And.intro hv2 (And.intro mok (And.intro mkl mlo)))
          clear cr mok hcode hp hml hcl hn fp0 mlo mkl HD hF hv2 hcode2 hcok
          go_wp2_with (first
            | (go_at_call 27; (with_reducible refine HD2.mono ?_); clear HD2; rintro e w3 ⟨v3, rfl, hb3⟩))
          go_ret
          obtain ⟨hF, hv2, mok, mkl, mlo⟩ := HV.out
          refine ⟨by rw [hF]; rfl, CR.out.bel.trans (hb3.mono CR.out.bel.size), fun q => ?_⟩
          rw [hv2 q]
          exact ⟨nm', by omega, CR.out.kept hb3, mok, mkl, mlo⟩
    · have e0 : ((n : Int) == 0) = false := by simp; omega
      clear q0 hmn H1
      go_enter Tryz.func17, Tryz.ntmps17
      go_wp2_with (first
        | (go_at_call 25; (with_reducible refine H2.mono ?_); clear H2; rintro e w2 ⟨rfl, hB2⟩; have d5 := c5 _ hB2))
      clear c5 d5
      go_loopw [32] (fun k wr => ∃ (j nm' : Nat) (mk' : List Int), k = .int .i64 j ∧ j ≤ f.code.length ∧ nm' ≤ nm + j ∧ Cr w0 wr bc bm b0 off c fs nm' mk' ∧ MkOk fs mk' ∧ mk'.length = mk.length ∧ (∀ k, -1 ≤ mk'.getD k (-1) ∧ mk'.getD k (-1) ≤ 256) ∧ codeP fs n f f.code 0 mk = codeP fs n f (f.code.drop j) j mk') (fun k _ => f.code.length - (intOf k).toNat)
      case atStart =>
        obtain ⟨h, hp, hok, hml, hlo, hcl, hn, fp0⟩ := HH.out
        exact ⟨0, nm, mk, rfl, by omega, by omega, h.kept hB2, hok, rfl, hlo, by simp⟩
      case round =>
        obtain ⟨j, nm', mk', rfl, hj, hnm', cr, mok, mkl, mlo, hcode⟩ := hrel
        obtain ⟨-, hp, -, hml, -, hcl, hn, fp0⟩ := HH.out
        have CR : Hid _ := cr
        by_cases hjl : j < f.code.length
        · have hjl' : (j : Int) < (f.code.length : Int) := by omega
          obtain ⟨i, hi⟩ : ∃ i, f.code[j]? = some i := ⟨f.code[j], by simp⟩
          have HMb := mayBe_in cr hp mok (mkl.trans hml) hl hn hi (HFI.out.code i (List.mem_of_getElem? hi)) mlo (by omega) hcl HT.out (by omega) h4 h10 h7 h6
          have hdrop : f.code.drop j = i :: f.code.drop (j + 1) := by
            rw [List.drop_eq_getElem_cons hjl]
            congr 1
            have := (List.getElem?_eq_some_iff.1 hi).2
            exact this
          cases hq : insP fs n f mk' j i with
          | true =>
            have hcode' : codeP fs n f f.code 0 mk = codeP fs n f (f.code.drop (j + 1)) (j + 1) (mkP n mk' i) := by
              rw [hcode, hdrop, codeP_cons, if_pos hq]
            unfold MayR at HMb
            rw [hq] at HMb
            have HC : Hid _ := And.intro hcode' (And.intro mkl mlo)
            clear cr mok hcode hcode' hdrop hp hml hcl hn fp0 hi hq mlo mkl
            go_wp2_with (first
              | (go_at_call 26; (with_reducible refine HMb.mono ?_); clear HMb; rintro e w3 ⟨rfl, hb3, hc3⟩))
            go_roundw
            case rel =>
              obtain ⟨nm2, hnm2, cr2, mok2⟩ := hc3 trivial
              obtain ⟨hcode', mkl, mlo⟩ := HC.out
              exact ⟨j + 1, nm2, mkP n mk' i, by simp, by omega, by omega, cr2, mok2, mkP_len.trans mkl, mkP_lo (by omega) mlo, hcode'⟩
            case measure => simp [intOf]; omega
          | false =>
            have hv : (faultV fs n f mk).1 = (j : Int) := by
              unfold faultV
              rw [if_pos HHD.out, hcode, hdrop, codeP_cons, if_neg (by rw [hq]; simp)]
            unfold MayR at HMb
            rw [hq] at HMb
            have HV : Hid _ := hv
            clear cr mok hcode hdrop hp hml hcl hn fp0 hi hq mlo mkl hv
            go_wp2_with (first
              | (go_at_call 26; (with_reducible refine HMb.mono ?_); clear HMb; rintro e w3 ⟨rfl, hb3, -⟩))
            go_ret
            refine ⟨by rw [HV.out]; rfl, hb3, fun q => ?_⟩
            rw [HV.out] at q
            omega
        · have hjl' : ¬ ((j : Int) < (f.code.length : Int)) := by omega
          have hcode2 : codeP fs n f f.code 0 mk = (none, mk') := by
            rw [hcode, List.drop_eq_nil_of_le (by omega)]
            rfl
          have hcok : CodeOk f := ok_of HHD.out (by rw [hcode2]) HFI.out.code
          have HD := pdep_in (fp0.below cr.bel) hcok (HT.out.below cr.bel)
          have HD2 : Calls Tryz.prog 27 #[.pointer (some ⟨b0, off + n * 8, none⟩)] wr fun e w' => ∃ v, e = .returned (.tuple #[v, .int .i64 (faultV fs n f mk).1]) ∧ Below wr.heap.size wr w' := HD.mono (fun e w' q => by
            obtain ⟨q1, q2⟩ := q
            have hv : (faultV fs n f mk).1 = (match depthsP f with | .error pc => ((pc : Nat) : Int) | .ok _ => -1) := by
              unfold faultV
              rw [if_pos HHD.out, hcode2]
              simp only
              cases depthsP f <;> rfl
            rw [hv]
            unfold DepP at q1
            cases hd : depthsP f with
            | error pc => rw [hd] at q1; obtain ⟨v, e1⟩ := q1; exact ⟨v, e1, q2⟩
            | ok told => rw [hd] at q1; obtain ⟨g, cc, e1, _⟩ := q1; exact ⟨_, e1, q2⟩)
          have hv2 : (faultV fs n f mk).1 = -1 → (faultV fs n f mk).2 = mk' := fun _ => by
            unfold faultV
            rw [if_pos HHD.out, hcode2]
            simp only
            cases depthsP f <;> rfl
          obtain ⟨F, hF⟩ : ∃ F, (faultV fs n f mk).1 = F := ⟨_, rfl⟩
          rw [hF] at HD2
          have HV : Hid _ := And.intro hF (And.intro hv2 (And.intro mok (And.intro mkl mlo)))
          clear cr mok hcode hp hml hcl hn fp0 mlo mkl HD hF hv2 hcode2 hcok
          go_wp2_with (first
            | (go_at_call 27; (with_reducible refine HD2.mono ?_); clear HD2; rintro e w3 ⟨v3, rfl, hb3⟩))
          go_ret
          obtain ⟨hF, hv2, mok, mkl, mlo⟩ := HV.out
          refine ⟨by rw [hF]; rfl, CR.out.bel.trans (hb3.mono CR.out.bel.size), fun q => ?_⟩
          rw [hv2 q]
          exact ⟨nm', by omega, CR.out.kept hb3, mok, mkl, mlo⟩
  · have hv : (faultV fs n f mk).1 = 0 := by unfold faultV; rw [if_neg hhd]
    have hbel := h.bel
    have HV : Hid _ := hv
    by_cases q0 : n = 0
    · have e0 : ((n : Int) == 0) = true := by simp; omega
      cases hm : (decide (f.params = 0) && decide (f.caps.length = 0)) with
      | false =>
        rw [hm] at H1
        clear h hp hok hml hlo hcl hn fp0 hhp hhd hfit ht hv q0 hm
        go_enter Tryz.func17, Tryz.ntmps17
        go_wp2_with (first
          | (go_at_call 24; (with_reducible refine H1.mono ?_); clear H1; rintro e w1 ⟨rfl, rfl⟩))
        go_ret
        exact ⟨by rw [HV.out]; rfl, hbel, fun q => by rw [HV.out] at q; omega⟩
      | true =>
        have hh2 : headP f false = false := by rw [hhp] at hhd; cases hh : headP f false with | false => rfl | true => rw [hh, hm] at hhd; simp at hhd
        rw [hm] at H1
        rw [hh2] at H2
        clear h hp hok hml hlo hcl hn fp0 hhp hhd hfit ht hv q0 hm hh2
        go_enter Tryz.func17, Tryz.ntmps17
        go_wp2_with (first
          | (go_at_call 24; (with_reducible refine H1.mono ?_); clear H1; rintro e w1 ⟨rfl, rfl⟩)
          | (go_at_call 25; (with_reducible refine H2.mono ?_); clear H2; rintro e w2 ⟨rfl, hB2⟩))
        go_ret
        exact ⟨by rw [HV.out]; rfl, HW.out _ hB2, fun q => by rw [HV.out] at q; omega⟩
    · have e0 : ((n : Int) == 0) = false := by simp; omega
      have hh2 : headP f false = false := by rw [hhp] at hhd; cases hh : headP f false with | false => rfl | true => rw [hh] at hhd; simp [q0] at hhd
      rw [hh2] at H2
      clear h hp hok hml hlo hcl hn fp0 hhp hhd hfit ht hv q0 hh2 H1
      go_enter Tryz.func17, Tryz.ntmps17
      go_wp2_with (first
        | (go_at_call 25; (with_reducible refine H2.mono ?_); clear H2; rintro e w2 ⟨rfl, hB2⟩))
      go_ret
      exact ⟨by rw [HV.out]; rfl, HW.out _ hB2, fun q => by rw [HV.out] at q; omega⟩

end Go.Proofs.YtnekcomkochmjaaGreatDoor
