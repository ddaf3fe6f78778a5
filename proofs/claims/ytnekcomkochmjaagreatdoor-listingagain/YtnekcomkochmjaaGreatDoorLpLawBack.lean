/- ListingBack, ListingApart: the walks. -/
import Derived.Test.YtnekcomkochmjaaGreatDoorLpAlive
import Derived.Test.YtnekcomkochmjaaGreatDoorLkGreat
namespace Go.Proofs.YtnekcomkochmjaaGreatDoor
set_option linter.unusedVariables false
set_option linter.unusedSimpArgs false
open Go.RowKit

namespace Lp
open Lk

variable {w : World}

theorem bytes_same (s : ByteArray) : (s.toList == s.toList) = true := by simp

theorem textV_bad {l : List Fm} (h : ¬ (checkV l).2.2 = 0) : textV l = ([], 8) := by unfold textV; rw [if_neg h]

theorem textV_ok {l : List Fm} (h : (checkV l).2.2 = 0) : textV l = (textP l, 0) := by unfold textV; rw [if_pos h]

theorem check_err8 (fs : List Fm) (h : ¬ (checkV fs).2.2 = 0) : (checkV fs).2.2 = 8 := by
  unfold checkV at *
  split
  · rfl
  · rename_i hn
    rw [if_neg hn] at h
    split at h
    · rfl
    · split at h
      · rfl
      · exact absurd rfl h

theorem text_le {l : List Fm} (h : (checkV l).2.2 = 0) (hn : ∀ f ∈ l, NumF f) : (textP l).length ≤ totP l :=
  flatP_len fun f hf => fnOk_of h hf (fit_of h f hf) (hn f hf)

set_option maxRecDepth 20000 in
set_option maxHeartbeats 4000000 in
theorem listingBack_walk (p : Option Addr) (l : List Fm) (c : Nat) (w : World) (hs : IsFns w p l) (hlen : l.length ≤ 140737488355328) (hc : ∀ f ∈ l, CameF f ∧ FitF f ∧ NumF f) (he : ErrT w) (tab : Tab w) (hw : WordsT w) (ht : RowsT w) :
    Calls Tryz.prog 3 #[.slice p l.length c] w fun e w' => e = .returned (.bool true) ∧ Below w.heap.size w w' := by
  have H0 := fun (W : World) (h : Below w.heap.size w W) => alive_in (he.below h) (tab.below h) (hw.below h) (ht.below h)
  have H1 := fun (W : World) (h : Below w.heap.size w W) => great10_in c (IsFns.below hs h) hlen (fun f hf => (hc f hf).1)
  have HFIT : Hid (∀ f ∈ l, FitF f) := fun f hf => (hc f hf).2.1
  have HNUM : Hid (∀ f ∈ l, NumF f) := fun f hf => (hc f hf).2.2
  have HS : Hid (IsFns w p l) := hs
  have HE : Hid (ErrT w) := he
  have HT : Hid (RowsT w) := ht
  have HTAB : Hid (Tab w) := tab
  have HW : Hid (WordsT w) := hw
  clear hs hc ht tab hw he
  go_enter Tryz.func3, Tryz.ntmps3
  go_wp2_with (first
    | (go_at_call 7; (with_reducible refine (H0 _ (Below.refl _ _)).mono ?_); rintro e w1 ⟨rfl, hB1⟩)
    | (go_at_call 8; refine (H1 _ hB1).mono ?_; clear H1; rintro e w2 ⟨b, rfl, hsm0, hB2⟩; have k2 := hB1.trans (hB2.mono hB1.size); refine halt_here ?_))
  unfold Halted
  cases b with
  | true =>
    clear hsm0
    go_wp2_with (first
      | (go_at_call 7; (with_reducible refine (H0 _ k2).mono ?_); rintro e w3 ⟨rfl, hB3⟩))
    go_ret
    exact ⟨rfl, k2.trans (hB3.mono k2.size)⟩
  | false =>
    obtain ⟨hsm, h6⟩ := hsm0 rfl
    have hroom := room_of h6
    clear hsm0 h6 H0
    have H3 := fun (W : World) (h : Below w.heap.size w W) => Lk.text_in c (IsFns.below HS.out h) hsm HFIT.out HNUM.out (by omega) (HT.out.below h) (Tab.below HTAB.out h) (HW.out.below h)
    have H4 := fun (W : World) (h : Below w.heap.size w W) => pcheck_in c (IsFns.below HS.out h) hsm HFIT.out (HT.out.below h)
    by_cases h0 : (checkV l).2.2 = 0
    · have H5 := fun (W : World) (h : Below w.heap.size w W) => parse_in (w := W) (textP l) (by have := text_le h0 HNUM.out; omega) (short_text h0 HNUM.out) (HE.out.below h) (Tab.below HTAB.out h) (HW.out.below h) (HT.out.below h)
      have H6 := fun (W : World) (q : Option Addr) (d : Nat) (h1 : IsFns W p l) (h2 : IsFns W q l) => known (sameProgram_in c d h1 h2 hsm.len hsm.fns) true (by simp)
      rw [textV_ok h0] at H3
      rw [h0] at H4
      rw [parseV_text h0 HNUM.out] at H5
      simp only [show ((0 : Nat) : Int) = 0 from rfl] at H3 H4 H5
      clear h0 hroom hsm
      go_wp2_with (first
        | (go_at_call 9; (with_reducible refine (H3 _ k2).mono ?_); clear H3; rintro e w3 ⟨rfl, hB3⟩; have k3 := k2.trans (hB3.mono k2.size))
        | (go_at_call 10; (with_reducible refine (H4 _ k3).mono ?_); clear H4; rintro e w4 ⟨rfl, hB4⟩; have k4 := k3.trans (hB4.mono k3.size))
        | (go_at_call 11; (with_reducible refine (H5 _ k4).mono ?_); clear H5; rintro e w5 ⟨q, d, ts, rfl, hts, hrow, hB5⟩; have k5 := k4.trans (hB5.mono k4.size); have hq := rows_fns hts hrow)
        | (go_at_call 12; (with_reducible refine (H6 _ _ d (IsFns.below HS.out k5) hq).mono ?_); rintro e w6 ⟨rfl, hB6⟩; have k6 := k5.trans (hB6.mono k5.size)))
      go_ret
      exact ⟨rfl, k6⟩
    · have h8 := check_err8 l h0
      rw [textV_bad h0] at H3
      rw [h8] at H4
      simp only [show ((8 : Nat) : Int) = 8 from rfl] at H3 H4
      have e5 : ((bs ([] : List UInt8)).toList == ([] : List UInt8)) = true := by rw [bs_toList]; rfl
      clear h0 h8 hroom hsm
      go_wp2_with (first
        | (go_at_call 9; (with_reducible refine (H3 _ k2).mono ?_); clear H3; rintro e w3 ⟨rfl, hB3⟩; have k3 := k2.trans (hB3.mono k2.size))
        | (go_at_call 10; (with_reducible refine (H4 _ k3).mono ?_); clear H4; rintro e w4 ⟨rfl, hB4⟩; have k4 := k3.trans (hB4.mono k3.size)))
      go_ret
      exact ⟨rfl, k4⟩

end Lp

end Go.Proofs.YtnekcomkochmjaaGreatDoor
