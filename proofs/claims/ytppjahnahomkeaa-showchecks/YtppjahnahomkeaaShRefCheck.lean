/- The document's Check. -/
import Derived.Test.YtppjahnahomkeaaShRefObj
import Derived.Test.YtppjahnahomkeaaShGreat
import Derived.Test.YtppjahnahomkeaaShReach
import Derived.Test.YtppjahnahomkeaaShCheckP
namespace Go.Proofs.Ytppjahnahomkeaa
set_option linter.unusedVariables false
set_option linter.unusedSimpArgs false
open Go.RowKit

variable {w : World}

theorem valsOne (w : World) (v : Vl) : Vals (w.alloc (.cells #[.int .u8 v.k, .int .i64 v.n] 26)) (some ⟨w.heap.size, 0, none⟩) [v] := by
  intro j u hj
  have : j = 0 := by have := (List.getElem?_eq_some_iff.1 hj).1; simp at this; omega
  subst this
  simp at hj; subst hj
  obtain ⟨h1, h2⟩ := cell_row2 (heap_alloc_new w (.cells #[.int .u8 v.k, .int .i64 v.n] 26))
  exact ⟨_, 0, rfl, by simp, by simp⟩

theorem objAt_nat {S : List Om} {j : Nat} {o : Om} (h : S[j]? = some o) : objAt S ((j : Int) + 1) = some o := by
  unfold objAt
  rw [if_pos (by omega), show ((j : Int) + 1 - 1).toNat = j by omega]; exact h

set_option maxRecDepth 20000 in
set_option maxHeartbeats 2000000 in
theorem rCheck_in {p : Option Addr} {S : List Om} (c : Nat) (hs : IsSt w p S) (hsm : Small S) (v : Vl) (b : Bool) (hb : b = true ↔ checkP S v) :
    Calls Try.prog 8 #[.slice p S.length c, .agg #[.int .u8 v.k, .int .i64 v.n]] w fun e w' => e = .returned (.bool b) ∧ Below w.heap.size w w' := by
  have hlen := hsm.len
  obtain ⟨bv, hbv⟩ := b_of (valP S v)
  have H1 := fun (W : World) (h : Below w.heap.size w W) => rVal_in c (hs.below h) hlen v bv hbv
  have hbx := heap_alloc_new w (.cells #[.int .u8 v.k, .int .i64 v.n] 26)
  cases bv with
  | false =>
    have hbf := b_false hb (fun h => by have := hbv.2 h.1; cases this)
    subst hbf
    clear hb hbv
    go_enter Try.func8, Try.ntmps8
    go_wp2_with (first
      | (go_at_call 21; refine (H1 _ (below1 _ _)).mono ?_; clear H1; rintro e w1 ⟨rfl, hB1⟩))
    go_ret
    exact ⟨rfl, (below1 w _).trans (hB1.mono (by simp))⟩
  | true =>
    have hval := hbv.1 rfl
    clear hbv
    have H2 := fun (W : World) (h : Below w.heap.size w W) => reached_in (roots := [v]) c 1 (hs.below (h.trans ((below1 W (.cells #[.int .u8 v.k, .int .i64 v.n] 26)).mono h.size))) hlen hsm.vals (valsOne W v) (by simp) (fun e => by cases e)
    go_enter Try.func8, Try.ntmps8
    go_wp2_with (first
      | (go_at_call 21; refine (H1 _ (below1 _ _)).mono ?_; clear H1; rintro e w1 ⟨rfl, hB1⟩; have hB1' : Below w.heap.size w w1 := (below1 w _).trans (hB1.mono (by simp)); obtain ⟨d0, d1⟩ := cell_row2 ((hB1.block w.heap.size (by simp)).trans hbx))
      | (go_at_call 22; refine (H2 _ hB1').mono ?_; clear H2; rintro e w2 ⟨bi, In, rfl, hIn, hway, hB2⟩))
    have hB2' : Below w.heap.size w w2 := hB1'.trans ((below1 w1 _).trans (hB2.mono (by simp)) |>.mono hB1'.size)
    have hil := hway.len
    have hbl : bi < w2.heap.size := (Array.getElem?_eq_some_iff.1 hIn).1
    go_loopw [6] (fun k wr => ∃ j : Nat, k = .int .i64 j ∧ j ≤ S.length ∧ (∀ i o, i < j → In[i]? = some true → S[i]? = some o → objP S o) ∧ Below w2.heap.size w2 wr) (fun k _ => S.length - (intOf k).toNat)
    case atStart => exact ⟨0, rfl, by omega, (fun i o h => by omega), Below.refl _ _⟩
    case round =>
      obtain ⟨j, rfl, hj, hh, hB⟩ := hrel
      have hB0 : Below w.heap.size w wr := hB2'.trans (hB.mono hB2'.size)
      have hIn' := hIn.kept (hB.block _ hbl)
      have HH : Hid _ := hh
      clear hh
      by_cases hjn : j < S.length
      · obtain ⟨m, hm⟩ : ∃ b, In[j]? = some b := ⟨In[j]'(by omega), by simp⟩
        obtain ⟨o, ho⟩ : ∃ o, S[j]? = some o := ⟨S[j], by simp⟩
        obtain ⟨hc, -⟩ := hIn'.cell hm
        have hjn' : (j : Int) < (S.length : Int) := by omega
        cases m with
        | false =>
          have HM : Hid _ := hm
          clear hm ho
          go_wp2
          go_roundw
          case rel =>
            refine ⟨j + 1, by simp, by omega, ?_, hB⟩
            intro i o' hi h1 h2
            by_cases e : i < j
            · exact HH.out i o' e h1 h2
            · have : i = j := by omega
              subst this
              rw [HM.out] at h1; cases h1
          case measure => simp [intOf]; omega
        | true =>
          have hmk : Marked In ((j : Int) + 1) := ⟨by omega, by rw [show ((j : Int) + 1 - 1).toNat = j by omega]; exact hm⟩
          have hrc := hway.rch _ hmk
          have hob := objAt_nat ho
          obtain ⟨-, -, o', ho', hk3, hk7⟩ := hrc.num
          rw [hob] at ho'; cases ho'
          obtain ⟨b0, off, rfl, c0, c1, ⟨qo, co, c2, hvo, -⟩, c3, c4⟩ := hs.look hB0 ho
          have hol := hsm.vals o (List.mem_of_getElem? ho)
          obtain ⟨bo, hbo⟩ := b_of (objP S o)
          have H3 := fun (W : World) (h : Below w.heap.size w W) => rObj_in c (hs.below h) hlen o qo co (hvo.below h) (by omega) hk3 hk7 bo hbo
          unfold objV at H3
          cases bo with
          | false =>
            have hbf := b_false hb (fun h => by have := hbo.2 (h.2 _ _ hrc hob); cases this)
            subst hbf
            clear hb hbo hrc hob hmk hm ho hvo
            go_wp2_with (first
              | (go_at_call 23; refine (H3 _ hB0).mono ?_; clear H3; rintro e w3 ⟨rfl, hB3⟩))
            go_ret
            exact ⟨rfl, hB0.trans (hB3.mono hB0.size)⟩
          | true =>
            have hok := hbo.1 rfl
            have HO : Hid _ := ho
            clear hbo hrc hob hmk hm ho hvo
            go_wp2_with (first
              | (go_at_call 23; refine (H3 _ hB0).mono ?_; clear H3; rintro e w3 ⟨rfl, hB3⟩))
            go_roundw
            case rel =>
              refine ⟨j + 1, by simp, by omega, ?_, hB.trans (hB3.mono hB.size)⟩
              intro i o' hi h1 h2
              by_cases e : i < j
              · exact HH.out i o' e h1 h2
              · have : i = j := by omega
                subst this
                rw [HO.out] at h2; cases h2; exact hok
            case measure => simp [intOf]; omega
      · have hjn' : ¬ ((j : Int) < (S.length : Int)) := by omega
        have hbt := b_true hb ⟨hval, fun x o hx ho => by
          obtain ⟨-, i, hxi, hiS, hSi⟩ := objAt_mem ho
          have hmk := (hway.end x).2 hx
          unfold Marked at hmk
          rw [hxi, show ((i : Int) + 1 - 1).toNat = i by omega] at hmk
          exact HH.out i o (by omega) hmk.2 hSi⟩
        subst hbt
        clear hb
        go_wp2
        go_ret
        exact ⟨rfl, hB0⟩

end Go.Proofs.Ytppjahnahomkeaa
