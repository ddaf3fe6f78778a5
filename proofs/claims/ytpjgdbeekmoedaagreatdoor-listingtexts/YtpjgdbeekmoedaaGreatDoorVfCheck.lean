/- The document's Check (gearboxref09). -/
import Derived.Test.YtpjgdbeekmoedaaGreatDoorVfDepths
import Derived.Test.YtpjgdbeekmoedaaGreatDoorVfHead
import Derived.Test.YtpjgdbeekmoedaaGreatDoorVfCode
import Derived.Test.YtpjgdbeekmoedaaGreatDoorVfGreat
import Derived.Test.YtpjgdbeekmoedaaGreatDoorVfFit
namespace Go.Proofs.YtpjgdbeekmoedaaGreatDoor
set_option linter.unusedVariables false
set_option linter.unusedSimpArgs false
open Go.RowKit

variable {w : World}

theorem fnsP_head {fs r : List Fm} {f : Fm} {fn : Nat} {mk : List Int} (h : headP f (decide (fn = 0)) = false) : fnsP fs (f :: r) fn mk = (some (fn, 0), mk) := by
  unfold fnsP; rw [h]; rfl

theorem fnsP_code {fs r : List Fm} {f : Fm} {fn pc : Nat} {mk : List Int} (h : headP f (decide (fn = 0)) = true) (hc : (codeP fs fn f f.code 0 mk).1 = some pc) : (fnsP fs (f :: r) fn mk).1 = some (fn, pc) := by
  unfold fnsP
  rw [h]
  cases he : codeP fs fn f f.code 0 mk with
  | mk a b => rw [he] at hc; simp only at hc; subst hc; rfl

theorem fnsP_depth {fs r : List Fm} {f : Fm} {fn pc : Nat} {mk : List Int} (h : headP f (decide (fn = 0)) = true) (hc : (codeP fs fn f f.code 0 mk).1 = none) (hd : depthsP f = .error pc) : (fnsP fs (f :: r) fn mk).1 = some (fn, pc) := by
  unfold fnsP
  rw [h]
  cases he : codeP fs fn f f.code 0 mk with
  | mk a b => rw [he] at hc; simp only at hc; subst hc; simp only [if_true]; rw [hd]

theorem fnsP_next {fs r : List Fm} {f : Fm} {fn : Nat} {mk told : List Int} (h : headP f (decide (fn = 0)) = true) (hc : (codeP fs fn f f.code 0 mk).1 = none) (hd : depthsP f = .ok told) : fnsP fs (f :: r) fn mk = fnsP fs r (fn + 1) (codeP fs fn f f.code 0 mk).2 := by
  conv => lhs; unfold fnsP
  rw [h]
  cases he : codeP fs fn f f.code 0 mk with
  | mk a b => rw [he] at hc; simp only at hc; subst hc; simp only [if_true]; rw [hd]

theorem check_some {fs : List Fm} {fn pc : Nat} (h0 : ¬ (fs.length = 0 ∨ 256 < fs.length)) (h : (fnsP fs fs 0 (List.replicate fs.length (-1))).1 = some (fn, pc)) : checkV fs = (fn, pc, 8) := by
  unfold checkV
  rw [if_neg h0]
  cases he : fnsP fs fs 0 (List.replicate fs.length (-1)) with
  | mk a b => rw [he] at h; simp only at h; subst h; rfl

theorem check_none {fs : List Fm} {mk : List Int} (h0 : ¬ (fs.length = 0 ∨ 256 < fs.length)) (h : fnsP fs fs 0 (List.replicate fs.length (-1)) = (none, mk)) : checkV fs = match loneP fs 0 mk with | some fn => (fn, 0, 8) | none => (0, 0, 0) := by
  unfold checkV
  rw [if_neg h0, h]
  cases hl : loneP fs 0 mk <;> simp [hl]

theorem codeP_rng {fs : List Fm} {fn : Nat} {f : Fm} : ∀ {r : List In} {pc : Nat} {mk : List Int}, (∀ x ∈ mk, -1 ≤ x) → ∀ x ∈ (codeP fs fn f r pc mk).2, -1 ≤ x
  | [], pc, mk, h => h
  | i :: r, pc, mk, h => by
    unfold codeP
    split
    · refine codeP_rng (fun x hx => ?_)
      unfold mkP at hx
      split at hx
      · rcases List.mem_or_eq_of_mem_set hx with h1 | h1
        · exact h x h1
        · omega
      · exact h x hx
    · exact h

set_option maxRecDepth 20000 in
set_option maxHeartbeats 16000000 in
theorem rcheck_in {p : Option Addr} {fs : List Fm} (c : Nat) (hs : IsFns w p fs) (hsm : SmallP fs) (hfit : ∀ f ∈ fs, FitF f) :
    Calls Tryz.prog 26 #[.slice p fs.length c] w fun e w' => e = .returned (.tuple #[.int .i64 ((checkV fs).1 : Nat), .int .i64 ((checkV fs).2.1 : Nat), .int .i64 ((checkV fs).2.2 : Nat)]) ∧ Below w.heap.size w w' := by
  obtain ⟨i1, hj0, hy0, hy1, hy2⟩ := info_parts infoInts
  by_cases h0 : fs.length = 0
  · have e : checkV fs = (0, 0, 8) := by unfold checkV; rw [if_pos (.inl h0)]
    rw [e, h0]
    clear e hs hsm hfit
    go_enter Tryz.func26, Tryz.ntmps26
    go_wp2
    go_ret3
    exact ⟨rfl, Below.refl _ _⟩
  have h0' : ((fs.length : Int) == 0) = false := by rw [beq_eq_false_iff_ne]; omega
  by_cases h256 : 256 < fs.length
  · have e : checkV fs = (0, 0, 8) := by unfold checkV; rw [if_pos (.inr h256)]
    rw [e]
    have h256' : (256 : Int) < (fs.length : Int) := by omega
    clear e hs hsm hfit
    go_enter Tryz.func26, Tryz.ntmps26
    go_wp2
    go_ret3
    exact ⟨rfl, Below.refl _ _⟩
  have h256' : ¬ ((256 : Int) < (fs.length : Int)) := by omega
  have HO : Hid (¬ (fs.length = 0 ∨ 256 < fs.length)) := fun h => by omega
  have HS : Hid _ := hs
  have HSM : Hid _ := hsm
  have HFIT : Hid _ := hfit
  clear hs hsm hfit
  go_enter Tryz.func26, Tryz.ntmps26
  go_wp2
  clear h0' h256'
  go_loopw [5, 6] (fun v k wr => ∃ j : Nat, k = .int .i64 j ∧ j ≤ fs.length ∧ wr.ownsRow w.heap.size 3 1 v j (List.replicate j (iv (-1))) ∧ Below w.heap.size w wr) (fun _ k _ => fs.length - (intOf k).toNat)
  case atStart => exact ⟨0, rfl, by omega, World.ownsRow_nil _ _ _ _, Below.refl _ _⟩
  case round =>
    obtain ⟨j, rfl, hjn, hro, hB⟩ := hrel
    have hws := hB.size
    by_cases hj : j < fs.length
    · have hj' : (j : Int) < (fs.length : Int) := by omega
      go_wp2_with (first
        | (at_builtin; refine wpList_append_own _ rfl _ _ 26 rfl w.heap.size 3 i1 (.int .i64 0) 1 8 Tryz.underlying26 hj0 hy0 hy1 hy2 rfl (by decide) _ j _ rfl (hro.alloc _) ⟨wr.heap.size, 0, none⟩ 1 1 [.int .i64 (-1)] rfl rfl (World.news_of_block (cs := #[.int .i64 (-1)]) (t := 3) (fr := (0, 0)) (heap_alloc_new wr _)) (by simp [Value.oneCell']) (by unfold maxLen; omega) (by omega) (by simp; omega) ?_; intro v4 w4 hown4 hgrow4 _))
      go_roundw
      case rel =>
        refine ⟨j + 1, by simp, by omega, ?_, (hB.alloc hB.size _).trans (rbelow_grown hgrow4 (fun q e => (hro.lt q e).1) (by simp; omega))⟩
        rw [show List.replicate (j + 1) (iv (-1)) = List.replicate j (iv (-1)) ++ [.int .i64 (-1)] from List.replicate_succ']
        exact hown4
      case measure => simp [intOf]; omega
    · have hj' : ¬ ((j : Int) < (fs.length : Int)) := by omega
      obtain ⟨gm, cm, hv5, hm0⟩ : ∃ gm cm, u5 = .slice (some ⟨gm, 0, none⟩) fs.length cm ∧ NumRow w.heap.size gm cm (List.replicate fs.length (-1)) wr := by
        obtain ⟨m, hm⟩ : ∃ m, fs.length = m + 1 := ⟨fs.length - 1, by omega⟩
        have e : j = m + 1 := by omega
        rw [e] at hro
        obtain ⟨gm, cm, hv⟩ := ownsRow_succ2 hro
        refine ⟨gm, cm, by rw [hv, hm], ?_⟩
        show wr.ownsRow _ _ _ _ _ _
        rw [hv] at hro
        rw [hm]
        simpa [List.map_replicate] using hro
      subst hv5
      clear hro hjn hj
      go_wp2
      rename World => w1
      clear hj' hws
      go_loopw [7] (fun k wr => ∃ (pre rest : List Fm) (mk : List Int), k = .int .i64 pre.length ∧ fs = pre ++ rest ∧ mk.length = fs.length ∧ (∀ x ∈ mk, -1 ≤ x) ∧ fnsP fs fs 0 (List.replicate fs.length (-1)) = fnsP fs rest pre.length mk ∧ NumRow w.heap.size gm cm mk wr ∧ Below w.heap.size w wr) (fun k _ => fs.length - (intOf k).toNat)
      case atStart => exact ⟨[], fs, _, rfl, rfl, by simp, (fun x hx => by have := List.eq_of_mem_replicate hx; omega), rfl, hm0, hB⟩
      case round =>
        clear hm0 hB
        obtain ⟨pre, rest, mk, rfl, hR, hml, hmr, hF, hm, hB⟩ := hrel
        cases rest with
        | cons f rest =>
          have hlR : pre.length < fs.length := by rw [hR]; simp
          have hlR' : (pre.length : Int) < (fs.length : Int) := by omega
          have hfi : fs[pre.length]? = some f := by rw [hR]; simp
          have hfm := List.mem_of_getElem? hfi
          obtain ⟨b0, off, s, hp, hv, hcs⟩ := IsFns.look0 HS.out hfi
          have HCS : Hid _ := hcs
          have HV : Hid _ := hv
          obtain ⟨c0, c1, c2, c3, c4, c5, c6, c7⟩ := hcs _ hB
          have hsf := HSM.out.fns f hfm
          have hft := HFIT.out f hfm
          obtain ⟨mb, hmb⟩ : ∃ mb : Bool, ((pre.length : Int) == 0) = mb := ⟨_, rfl⟩
          have HMB : Hid (decide (pre.length = 0) = mb) := by show _ = _; rw [← hmb]; by_cases e : pre.length = 0; (· simp [e]); (· have : ((pre.length : Int) == 0) = false := (by rw [beq_eq_false_iff_ne]; omega); rw [this]; simp [e])
          have H1 := head_in f s mb (hv.below hB) hft.consts hsf hft.name
          unfold fnA at H1
          have H2 := fun (W : World) (h : Below wr.heap.size wr W) => code_in (p := p) c pre.length f mk gm cm HS.out (hB.trans (h.mono hB.size)) (hm.kept (h.block _ hm.lt.2)) hml hfi (by have := HSM.out.len; omega) HSM.out.fns hft.code hmr
          rw [hml] at H2
          have HCR : Hid (∀ x ∈ (codeP fs pre.length f f.code 0 mk).2, -1 ≤ x) := codeP_rng hmr
          have HOK : Hid (headP f mb = true → (codeP fs pre.length f f.code 0 mk).1 = none → CodeOk f) := fun h1 h2 => ok_of h1 h2 hft.code
          have hgl : gm < wr.heap.size := hm.lt.2
          have e1 : (((pre ++ [f]).length : Nat) : Int) = pre.length + 1 := by simp
          have HR : Hid (fs = (pre ++ [f]) ++ rest) := by show fs = _; rw [hR]; simp
          have HF : Hid _ := hF
          have HML : Hid (mk.length = fs.length) := hml
          have HMR : Hid _ := hmr
          have HM : Hid _ := hm
          have HB : Hid _ := hB
          obtain ⟨hb, hhb⟩ : ∃ hb, headP f mb = hb := ⟨_, rfl⟩
          have HHB : Hid (headP f (decide (pre.length = 0)) = hb) := by show _ = _; rw [HMB.out]; exact hhb
          rw [hhb] at H1
          subst hp
          clear hR hF hml hmr hv hcs hhb hfi hft hsf
          cases hb with
          | false =>
            go_wp2_with (first
              | (go_at_call 110; refine H1.mono ?_; clear H1; rintro e w2 ⟨rfl, hB2⟩))
            go_ret3
            rw [check_some HO.out (by rw [HF.out, fnsP_head HHB.out])]
            exact ⟨rfl, hB.trans (hB2.mono hB.size)⟩
          | true =>
            cases hcp : (codeP fs pre.length f f.code 0 mk).1 with
            | some pc =>
              have HCP : Hid _ := hcp
              rw [hcp] at H2
              simp only [pcV] at H2
              clear hcp
              go_wp2_with (first
                | (go_at_call 110; refine H1.mono ?_; clear H1; rintro e w2 ⟨rfl, hB2⟩)
                | (go_at_call 111; go_loud (refine (H2 _ hB2).mono ?_); clear H2; rintro e w3 ⟨rfl, hm3, hl3, hB3, bu3⟩))
              go_ret3
              rw [check_some HO.out (by rw [HF.out]; exact fnsP_code HHB.out HCP.out)]
              exact ⟨rfl, hB3⟩
            | none =>
              have HCP : Hid _ := hcp
              rw [hcp] at H2
              simp only [pcV] at H2
              have hok := HOK.out (by rw [← HMB.out]; exact HHB.out) hcp
              have H3 := fun (W : World) (h : Below w.heap.size w W) => depths_in f s (HV.out.below h) hok
              unfold fnA at H3
              clear hcp hok
              cases hdp : depthsP f with
              | error pc =>
                have HDP : Hid _ := hdp
                have H4 : ∀ W, Below w.heap.size w W → Calls Tryz.prog 27 #[.agg #[.string f.name, .int .i64 f.params, .int .i64 f.locals, .slice s.qc f.caps.length s.cc, .slice s.qk f.consts.length s.ck, .slice s.qi f.code.length s.ci, .slice s.ql f.lines.length s.cl, .slice s.qh f.hs.length s.ch]] W fun e w' => e = .returned (.tuple #[.slice none 0 0, .int .i64 (pc : Nat)]) ∧ Below W.heap.size W w' := fun W h => (H3 W h).mono (fun e w' hh => ⟨by have := hh.1; unfold DepR at this; rw [hdp] at this; exact this, hh.2⟩)
                clear H3 hdp
                go_wp2_with (first
                  | (go_at_call 110; refine H1.mono ?_; clear H1; rintro e w2 ⟨rfl, hB2⟩)
                  | (go_at_call 111; (with_reducible refine (H2 _ hB2).mono ?_); clear H2; rintro e w3 ⟨rfl, hm3, hl3, hB3, bu3⟩; obtain ⟨d0, d1, d2, d3, d4, d5, d6, d7⟩ := HCS.out _ hB3)
                  | (go_at_call 27; (with_reducible refine (H4 _ hB3).mono ?_); clear H4; rintro e w4 ⟨rfl, hB4⟩))
                go_ret3
                rw [check_some HO.out (by rw [HF.out]; exact fnsP_depth HHB.out HCP.out HDP.out)]
                exact ⟨rfl, hB3.trans (hB4.mono hB3.size)⟩
              | ok told =>
                have HDP : Hid _ := hdp
                have H4 : ∀ W, Below w.heap.size w W → Calls Tryz.prog 27 #[.agg #[.string f.name, .int .i64 f.params, .int .i64 f.locals, .slice s.qc f.caps.length s.cc, .slice s.qk f.consts.length s.ck, .slice s.qi f.code.length s.ci, .slice s.ql f.lines.length s.cl, .slice s.qh f.hs.length s.ch]] W fun e w' => ∃ g c, e = .returned (.tuple #[.slice (some ⟨g, 0, none⟩) told.length c, .int .i64 (-1)]) ∧ Below W.heap.size W w' := fun W h => (H3 W h).mono (fun e w' hh => by
                  have := hh.1
                  unfold DepR at this
                  rw [hdp] at this
                  obtain ⟨g, c, he, _⟩ := this
                  exact ⟨g, c, he, hh.2⟩)
                clear H3 hdp
                go_wp2_with (first
                  | (go_at_call 110; refine H1.mono ?_; clear H1; rintro e w2 ⟨rfl, hB2⟩)
                  | (go_at_call 111; (with_reducible refine (H2 _ hB2).mono ?_); clear H2; rintro e w3 ⟨rfl, hm3, hl3, hB3, bu3⟩; obtain ⟨d0, d1, d2, d3, d4, d5, d6, d7⟩ := HCS.out _ hB3)
                  | (go_at_call 27; (with_reducible refine (H4 _ hB3).mono ?_); clear H4; rintro e w4 ⟨g4, c4', rfl, hB4⟩))
                go_roundw
                case rel => exact ⟨pre ++ [f], rest, _, by rw [e1], HR.out, by first | exact hl3 | exact hl3.trans HML.out, HCR.out, by rw [HF.out, fnsP_next HHB.out HCP.out HDP.out]; simp, hm3.kept (hB4.block _ hm3.lt.2), hB3.trans (hB4.mono hB3.size)⟩
                case measure => simp [intOf]; omega
        | nil =>
          have hR' : fs = pre := by simpa using hR
          have hq : ¬ ((pre.length : Int) < (fs.length : Int)) := by rw [hR']; omega
          have CK : Hid (checkV fs = match loneP fs 0 mk with | some fn => (fn, 0, 8) | none => (0, 0, 0)) := check_none HO.out (by rw [hF]; rfl)
          have HML : Hid (mk.length = fs.length) := hml
          clear hR hR' hF hml hmr
          go_wp2
          rename World => w2
          clear hq
          go_loopw [9] (fun k wr => ∃ (pre rest : List Fm), k = .int .i64 pre.length ∧ fs = pre ++ rest ∧ loneP fs 0 mk = loneP rest pre.length mk ∧ NumRow w.heap.size gm cm mk wr ∧ Below w.heap.size w wr) (fun k _ => fs.length - (intOf k).toNat)
          case atStart => exact ⟨[], fs, rfl, rfl, rfl, hm, hB⟩
          case round =>
            clear hm hB
            obtain ⟨pre, rest, rfl, hR, hA, hm, hB⟩ := hrel
            cases rest with
            | cons f rest =>
              have hlR : pre.length < fs.length := by rw [hR]; simp
              have hlR' : (pre.length : Int) < (fs.length : Int) := by omega
              have hfi : fs[pre.length]? = some f := by rw [hR]; simp
              obtain ⟨b0, off, s, hp, -, hcs⟩ := IsFns.look0 HS.out hfi
              obtain ⟨c0, c1, c2, c3, c4, c5, c6, c7⟩ := hcs _ hB
              obtain ⟨m, hmA⟩ : ∃ m, mk[pre.length]? = some m := ⟨mk[pre.length]'(by have := HML.out; omega), by simp⟩
              have q0 := hm.at hmA
              have HMD : Hid (mk.getD pre.length (-1) = m) := by show _ = _; rw [List.getD_eq_getElem?_getD, hmA]; rfl
              have HR : Hid (fs = (pre ++ [f]) ++ rest) := by show fs = _; rw [hR]; simp
              have HA : Hid _ := hA
              have e1 : (((pre ++ [f]).length : Nat) : Int) = pre.length + 1 := by simp
              have NX : Hid (¬ (0 < f.caps.length ∧ m < 0) → loneP fs 0 mk = loneP rest (pre ++ [f]).length mk) := fun h => by
                rw [hA]
                simp only [loneP]
                rw [if_neg (by rw [HMD.out]; exact h)]
                simp
              subst hp
              clear hR hA hfi hcs hmA
              by_cases g1 : 0 < f.caps.length
              · have g1' : (0 : Int) < (f.caps.length : Int) := by omega
                by_cases g2 : m < 0
                · go_wp2
                  go_ret3
                  have : checkV fs = (pre.length, 0, 8) := by
                    rw [CK.out, HA.out]
                    simp only [loneP]
                    rw [if_pos (by rw [HMD.out]; exact ⟨g1, g2⟩)]
                  rw [this]
                  exact ⟨rfl, hB⟩
                · go_wp2
                  go_roundw
                  case rel => exact ⟨pre ++ [f], rest, by rw [e1], HR.out, NX.out (fun h => g2 h.2), hm, hB⟩
                  case measure => simp [intOf]; omega
              · have g1' : ¬ ((0 : Int) < (f.caps.length : Int)) := by omega
                go_wp2
                go_roundw
                case rel => exact ⟨pre ++ [f], rest, by rw [e1], HR.out, NX.out (fun h => g1 h.1), hm, hB⟩
                case measure => simp [intOf]; omega
            | nil =>
              have hR' : fs = pre := by simpa using hR
              have hq : ¬ ((pre.length : Int) < (fs.length : Int)) := by rw [hR']; omega
              have HA : Hid _ := hA
              clear hR hR' hA
              go_wp2
              go_ret3
              have : checkV fs = (0, 0, 0) := by rw [CK.out, HA.out]; rfl
              rw [this]
              exact ⟨rfl, hB⟩

end Go.Proofs.YtpjgdbeekmoedaaGreatDoor
