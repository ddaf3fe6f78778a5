/- The program's Check and Depths (package verify). -/
import Derived.Test.YtnekcomkochmjaaGreatDoorVfPFault
import Derived.Test.YtnekcomkochmjaaGreatDoorVfRDepths
namespace Go.Proofs.YtnekcomkochmjaaGreatDoor
set_option linter.unusedVariables false
set_option linter.unusedSimpArgs false
open Go.RowKit Go.Maps

variable {w : World}

theorem fnsP_cons {fs : List Fm} {f : Fm} {r : List Fm} {n : Nat} {mk : List Int} : fnsP fs (f :: r) n mk = if (faultV fs n f mk).1 = -1 then fnsP fs r (n + 1) (faultV fs n f mk).2 else (some (n, (faultV fs n f mk).1.toNat), (faultV fs n f mk).2) := by
  unfold faultV
  show (if headP f (decide (n = 0)) then _ else _) = _
  by_cases hh : headP f (decide (n = 0)) = true
  · rw [if_pos hh, if_pos hh]
    cases hc : codeP fs n f f.code 0 mk with
    | mk a b =>
      cases a with
      | some pc => simp only; rw [if_neg (by omega)]; simp
      | none =>
        simp only
        cases hd : depthsP f with
        | error pc => simp only; rw [if_neg (by omega)]; simp
        | ok t => simp
  · rw [if_neg hh, if_neg hh]
    rfl

theorem faultV_pos {fs : List Fm} {n : Nat} {f : Fm} {mk : List Int} (h : (faultV fs n f mk).1 ≠ -1) : ∃ pc : Nat, (faultV fs n f mk).1 = (pc : Int) := by
  unfold faultV at *
  split at h
  · rename_i hh
    rw [if_pos hh]
    split at h
    · exact ⟨_, rfl⟩
    · split at h
      · exact ⟨_, rfl⟩
      · exact absurd rfl h
  · rename_i hh
    rw [if_neg hh]
    exact ⟨0, rfl⟩

theorem loneP_cons {f : Fm} {r : List Fm} {n : Nat} {mk : List Int} : loneP (f :: r) n mk = if 0 < f.caps.length ∧ mk.getD n (-1) < 0 then some n else loneP r (n + 1) mk := rfl

theorem drop_cons {α : Type} {l : List α} {j : Nat} {x : α} (h : l[j]? = some x) : l.drop j = x :: l.drop (j + 1) := by
  rw [List.drop_eq_getElem_cons (List.getElem?_eq_some_iff.1 h).1]
  congr 1
  exact (List.getElem?_eq_some_iff.1 h).2

theorem mk_begin {n : Nat} : IsMk (w.alloc (.map #[] 0)) w.heap.size 0 (List.replicate n (-1)) := by
  have hr : ∀ p, (List.replicate n (-1 : Int)).getD p (-1) = -1 := by
    intro p
    rw [List.getD_eq_getElem?_getD, List.getElem?_replicate]
    split <;> rfl
  refine ⟨.map [], World.ownsMap_made _ _ _ _, fun p => ⟨?_, fun h => ?_⟩⟩
  · rw [hr]
    simp [has_eq]
  · rw [hr] at h
    omega

/-- While functions are looked at. -/
structure Fw (w0 W : World) (bc bm b0 off c : Nat) (fs : List Fm) (j nm : Nat) (mk : List Int) : Prop where
  cr : Cr w0 W bc bm b0 off c fs nm mk
  ok : MkOk fs mk
  ml : mk.length = fs.length
  lo : ∀ k, -1 ≤ mk.getD k (-1) ∧ mk.getD k (-1) ≤ 256
  nm : nm ≤ j * 16384
  run : fnsP fs fs 0 (List.replicate fs.length (-1)) = fnsP fs (fs.drop j) j mk

set_option maxRecDepth 20000 in
set_option maxHeartbeats 8000000 in
theorem pcheck_in {p : Option Addr} {fs : List Fm} (c : Nat) (hs : IsFns w p fs) (hsm : SmallP fs) (hfit : ∀ f ∈ fs, FitF f) (ht : RowsT w) :
    Calls Tryz.prog 10 #[.slice p fs.length c] w fun e w' => e = .returned (.tuple #[.int .i64 ((checkV fs).1 : Nat), .int .i64 ((checkV fs).2.1 : Nat), .int .i64 ((checkV fs).2.2 : Nat)]) ∧ Below w.heap.size w w' := by
  by_cases h0 : fs.length = 0
  · have e : checkV fs = (0, 0, 8) := by unfold checkV; rw [if_pos (.inl h0)]
    have e0 : (((fs.length : Nat) : Int) == 0) = true := by rw [h0]; rfl
    rw [e]
    clear hs hsm hfit ht h0 e
    go_enter Tryz.func10, Tryz.ntmps10
    go_wp2
    go_ret3
    exact ⟨rfl, Below.refl _ _⟩
  by_cases h256 : 256 < fs.length
  · have e : checkV fs = (0, 0, 8) := by unfold checkV; rw [if_pos (.inr h256)]
    have e0 : (((fs.length : Nat) : Int) == 0) = false := by rw [beq_eq_false_iff_ne]; omega
    have e1 : (256 : Int) < (fs.length : Int) := by omega
    rw [e]
    clear hs hsm hfit ht h0 h256 e
    go_enter Tryz.func10, Tryz.ntmps10
    go_wp2
    go_ret3
    exact ⟨rfl, Below.refl _ _⟩
  have e0 : (((fs.length : Nat) : Int) == 0) = false := by rw [beq_eq_false_iff_ne]; omega
  have e1 : ¬ ((256 : Int) < (fs.length : Int)) := by omega
  obtain ⟨b0, off, rfl⟩ : ∃ b0 off, p = some ⟨b0, off, none⟩ := by
    obtain ⟨b0, off, _, e, _⟩ := hs 0 (fs[0]'(by omega)) (by simp)
    exact ⟨b0, off, e⟩
  have hp := hs.prg
  have hcl : ∀ g ∈ fs, g.caps.length ≤ 1099511627776 := fun g hg => by have := (hsm.fns g hg).caps; omega
  have hcv : checkV fs = match fnsP fs fs 0 (List.replicate fs.length (-1)) with
    | (some (fn, pc), _) => (fn, pc, 8)
    | (none, mk) => match loneP fs 0 mk with
      | some fn => (fn, 0, 8)
      | none => (0, 0, 0) := by unfold checkV; rw [if_neg (by omega)]; rfl
  have hmm := @run_makeMap Tryz.prog
  have HH : Hid _ := And.intro hp (And.intro hcl (And.intro hfit (And.intro ht hcv)))
  obtain ⟨r1, r2, r3, hr⟩ : ∃ r1 r2 r3, checkV fs = (r1, r2, r3) := ⟨_, _, _, rfl⟩
  have HR : Hid _ := hr
  rw [hr]
  clear hs hsm hfit ht hp hcl hcv hr
  have hl : fs.length ≤ 256 := by omega
  go_enter Tryz.func10, Tryz.ntmps10
  go_wp2
  have hBm : Below w.heap.size w ((w.alloc (.map #[] 0)).alloc (.cells #[.slice (some ⟨b0, off, none⟩) fs.length c, .map (some w.heap.size)] 58)) := below2' w _ _
  have fw0 : Fw w ((w.alloc (.map #[] 0)).alloc (.cells #[.slice (some ⟨b0, off, none⟩) fs.length c, .map (some w.heap.size)] 58)) (w.heap.size + 1) w.heap.size b0 off c fs 0 0 (List.replicate fs.length (-1)) := by
    have hr : ∀ p, (List.replicate fs.length (-1 : Int)).getD p (-1) = -1 := by
      intro p
      rw [List.getD_eq_getElem?_getD, List.getElem?_replicate]
      split <;> rfl
    refine ⟨⟨heap_two w _ _, mk_begin.kept (Below.heap_alloc _ _ _ (by simp)), hBm, by omega, Nat.le_refl _⟩, fun m k e => ?_, by simp, fun k => ?_, by omega, by simp⟩
    · rw [hr] at e; omega
    · rw [hr]; omega
  generalize ((w.alloc (.map #[] 0)).alloc (.cells #[.slice (some ⟨b0, off, none⟩) fs.length c, .map (some w.heap.size)] 58)) = W0 at *
  go_loopw [24] (fun k wr => ∃ (j nm : Nat) (mk : List Int), k = .int .i64 j ∧ j ≤ fs.length ∧ Fw w wr (w.heap.size + 1) w.heap.size b0 off c fs j nm mk) (fun k _ => fs.length - (intOf k).toNat)
  case atStart => exact ⟨0, 0, _, rfl, by omega, fw0⟩
  case round =>
    clear fw0 hBm
    obtain ⟨j, nm, mk, rfl, hj, fw⟩ := hrel
    have FW : Hid _ := fw
    obtain ⟨hp, hcl, hfit, ht, hcv⟩ := HH.out
    by_cases hjl : j < fs.length
    · have hjl' : (j : Int) < (fs.length : Int) := by omega
      obtain ⟨f, hf⟩ : ∃ f, fs[j]? = some f := ⟨fs[j], by simp⟩
      have hfn := fw.nm
      have HF := fault_in fw.cr hp fw.ok fw.ml hl hf (hfit f (List.mem_of_getElem? hf)) fw.lo (by omega) hcl ht
      have hrun := fw.run
      rw [drop_cons hf, fnsP_cons] at hrun
      unfold FaultR at HF
      by_cases hv : (faultV fs j f mk).1 = -1
      · rw [if_pos hv] at hrun
        rw [hv] at HF
        have HRUN : Hid _ := hrun
        clear fw hp hcl hfit ht hcv hf hv hrun
        go_wp2_with (first
          | (go_at_call 17; (with_reducible refine HF.mono ?_); clear HF; rintro e w1 ⟨rfl, hb1, hc1⟩))
        go_roundw
        case rel =>
          obtain ⟨nm', hn', cr, mok, ml, lo⟩ := hc1 trivial
          have hfw := FW.out
          exact ⟨j + 1, nm', _, by simp, by omega, cr, mok, ml.trans hfw.ml, lo, by have := hfw.nm; omega, HRUN.out⟩
        case measure => simp [intOf]; omega
      · obtain ⟨pc, hpc⟩ := faultV_pos hv
        rw [if_neg hv, hpc] at hrun
        rw [hpc] at HF
        have hne : ((pc : Int) != -1) = true := by rw [bne_iff_ne]; omega
        have hr1 : checkV fs = (j, pc, 8) := by rw [hcv, hrun]; simp
        have hr2 := HR.out
        rw [hr1] at hr2
        cases hr2
        clear fw hp hcl hfit ht hcv hf hv hrun hr1 hpc
        go_wp2_with (first
          | (go_at_call 17; (with_reducible refine HF.mono ?_); clear HF; rintro e w1 ⟨rfl, hb1, -⟩))
        go_ret3
        exact ⟨rfl, hb1⟩
    · have hjl' : ¬ ((j : Int) < (fs.length : Int)) := by omega
      have hrun := fw.run
      rw [List.drop_eq_nil_of_le (by omega)] at hrun
      have hrun2 : fnsP fs fs 0 (List.replicate fs.length (-1)) = (none, mk) := hrun
      have hcv2 : checkV fs = match loneP fs 0 mk with
        | some fn => (fn, 0, 8)
        | none => (0, 0, 0) := by rw [hcv, hrun2]
      have HC2 : Hid _ := hcv2
      clear fw hp hcl hfit ht hcv hrun hrun2 hcv2
      go_wp2
      clear hjl' hjl
      rename_i wl _
      go_loopw [36] (fun k wr => ∃ i : Nat, k = .int .i64 i ∧ i ≤ fs.length ∧ Cr w wr (w.heap.size + 1) w.heap.size b0 off c fs nm mk ∧ loneP fs 0 mk = loneP (fs.drop i) i mk) (fun k _ => fs.length - (intOf k).toNat)
      case atStart => exact ⟨0, rfl, by omega, FW.out.cr, by simp⟩
      case round =>
        obtain ⟨i, rfl, hi, cr, hlone⟩ := hrel
        have CR : Hid _ := cr
        by_cases hil : i < fs.length
        · have hil' : (i : Int) < (fs.length : Int) := by omega
          obtain ⟨f, hf⟩ : ∃ f, fs[i]? = some f := ⟨fs[i], by simp⟩
          obtain ⟨-, c1⟩ := (cell_row2 cr.cb).1
          obtain ⟨cv, hrun, -⟩ := cr.mm.look i (by omega) (by have := (FW.out.lo i).2; omega)
          obtain ⟨hp, -⟩ := HH.out
          obtain ⟨s, fp⟩ := (hp.below cr.bel) i f hf
          have c3 := fp.cell 3 _ rfl
          rw [drop_cons hf, loneP_cons] at hlone
          by_cases hm : 0 ≤ mk.getD i (-1)
          · rw [decide_eq_true hm] at hrun
            rw [if_neg (by omega)] at hlone
            have HL : Hid _ := hlone
            clear cr hp fp hlone hm hf
            go_wp2
            go_roundw
            case rel => exact ⟨i + 1, by simp, by omega, CR.out, HL.out⟩
            case measure => simp [intOf]; omega
          · rw [decide_eq_false hm] at hrun
            by_cases hcp : 0 < f.caps.length
            · have hcp' : (0 : Int) < (f.caps.length : Int) := by omega
              rw [if_pos ⟨hcp, by omega⟩] at hlone
              have hr1 : checkV fs = (i, 0, 8) := by rw [HC2.out, hlone]
              have hr2 := HR.out
              rw [hr1] at hr2
              cases hr2
              clear cr hp fp hlone hm hf hr1 hcp
              go_wp2
              go_ret3
              exact ⟨rfl, CR.out.bel⟩
            · have hcp' : ¬ ((0 : Int) < (f.caps.length : Int)) := by omega
              rw [if_neg (by omega)] at hlone
              have HL : Hid _ := hlone
              clear cr hp fp hlone hm hf hcp
              go_wp2
              go_roundw
              case rel => exact ⟨i + 1, by simp, by omega, CR.out, HL.out⟩
              case measure => simp [intOf]; omega
        · have hil' : ¬ ((i : Int) < (fs.length : Int)) := by omega
          rw [List.drop_eq_nil_of_le (by omega)] at hlone
          have hr1 : checkV fs = (0, 0, 0) := by rw [HC2.out, hlone]; rfl
          have hr2 := HR.out
          rw [hr1] at hr2
          cases hr2
          clear cr hlone hr1
          go_wp2
          go_ret3
          exact ⟨rfl, CR.out.bel⟩

end Go.Proofs.YtnekcomkochmjaaGreatDoor
