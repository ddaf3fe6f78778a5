/- ListingApart: the walk. -/
import Derived.Test.YtnekcomkochmjaaGreatDoorLpLawBack
namespace Go.Proofs.YtnekcomkochmjaaGreatDoor
set_option linter.unusedVariables false
set_option linter.unusedSimpArgs false
open Go.RowKit

namespace Lp
open Lk

variable {w : World}

theorem text_inj {l m : List Fm} (hl : (checkV l).2.2 = 0) (hm : (checkV m).2.2 = 0) (nl : ∀ f ∈ l, NumF f) (nm : ∀ f ∈ m, NumF f) : textP l = textP m ↔ l = m := by
  constructor
  · intro e
    have h1 := parseV_text hl nl
    rw [e, parseV_text hm nm] at h1
    exact (congrArg Prod.fst h1).symm
  · intro e; rw [e]

set_option maxRecDepth 20000 in
set_option maxHeartbeats 4000000 in
theorem listingApart_walk (p : Option Addr) (l : List Fm) (c : Nat) (q : Option Addr) (m : List Fm) (d : Nat) (w : World) (hs : IsFns w p l) (hlen : l.length ≤ 140737488355328) (hc : ∀ f ∈ l, CameF f ∧ FitF f ∧ NumF f)
    (hs' : IsFns w q m) (hlen' : m.length ≤ 140737488355328) (hc' : ∀ f ∈ m, CameF f ∧ FitF f ∧ NumF f) (he : ErrT w) (tab : Tab w) (hw : WordsT w) (ht : RowsT w) :
    Calls Tryz.prog 5 #[.slice p l.length c, .slice q m.length d] w fun e w' => e = .returned (.bool true) ∧ Below w.heap.size w w' := by
  have H0 := fun (W : World) (h : Below w.heap.size w W) => alive_in (he.below h) (tab.below h) (hw.below h) (ht.below h)
  have H1 := fun (W : World) (h : Below w.heap.size w W) => great10_in c (IsFns.below hs h) hlen (fun f hf => (hc f hf).1)
  have H2 := fun (W : World) (h : Below w.heap.size w W) => great10_in d (IsFns.below hs' h) hlen' (fun f hf => (hc' f hf).1)
  have HFIT : Hid (∀ f ∈ l, FitF f) := fun f hf => (hc f hf).2.1
  have HNUM : Hid (∀ f ∈ l, NumF f) := fun f hf => (hc f hf).2.2
  have HFIT' : Hid (∀ f ∈ m, FitF f) := fun f hf => (hc' f hf).2.1
  have HNUM' : Hid (∀ f ∈ m, NumF f) := fun f hf => (hc' f hf).2.2
  have HS : Hid (IsFns w p l) := hs
  have HS' : Hid (IsFns w q m) := hs'
  have HT : Hid (RowsT w) := ht
  have HTAB : Hid (Tab w) := tab
  have HW : Hid (WordsT w) := hw
  clear hs hc hs' hc' ht tab hw he
  go_enter Tryz.func5, Tryz.ntmps5
  go_wp2_with (first
    | (go_at_call 7; (with_reducible refine (H0 _ (Below.refl _ _)).mono ?_); rintro e w1 ⟨rfl, hB1⟩)
    | (go_at_call 8; refine (H1 _ hB1).mono ?_; clear H1; rintro e w2 ⟨b, rfl, hsm0, hB2⟩; have k2 := hB1.trans (hB2.mono hB1.size); refine halt_here ?_))
  unfold Halted
  cases b with
  | true =>
    clear hsm0 H2
    go_wp2_with (first
      | (go_at_call 7; (with_reducible refine (H0 _ k2).mono ?_); rintro e w3 ⟨rfl, hB3⟩))
    go_ret
    exact ⟨rfl, k2.trans (hB3.mono k2.size)⟩
  | false =>
    obtain ⟨hsm, h6⟩ := hsm0 rfl
    have hroom := room_of h6
    clear hsm0 h6
    go_wp2_with (first
      | (go_at_call 8; refine (H2 _ k2).mono ?_; clear H2; rintro e w3 ⟨b, rfl, hsm0, hB3⟩; have k3 := k2.trans (hB3.mono k2.size); refine halt_here ?_))
    unfold Halted
    cases b with
    | true =>
      clear hsm0
      go_wp2_with (first
        | (go_at_call 7; (with_reducible refine (H0 _ k3).mono ?_); rintro e w4 ⟨rfl, hB4⟩))
      go_ret
      exact ⟨rfl, k3.trans (hB4.mono k3.size)⟩
    | false =>
      obtain ⟨hsm', h6'⟩ := hsm0 rfl
      have hroom' := room_of h6'
      clear hsm0 h6' H0
      have H3 := fun (W : World) (h : Below w.heap.size w W) => Lk.text_in c (IsFns.below HS.out h) hsm HFIT.out HNUM.out (by omega) (HT.out.below h) (Tab.below HTAB.out h) (HW.out.below h)
      have H4 := fun (W : World) (h : Below w.heap.size w W) => Lk.text_in d (IsFns.below HS'.out h) hsm' HFIT'.out HNUM'.out (by omega) (HT.out.below h) (Tab.below HTAB.out h) (HW.out.below h)
      by_cases h0 : (checkV l).2.2 = 0
      · by_cases h0' : (checkV m).2.2 = 0
        · have hiff := text_inj h0 h0' HNUM.out HNUM'.out
          have H6 := fun (W : World) (h : Below w.heap.size w W) => sameProgram_in c d (IsFns.below HS.out h) (IsFns.below HS'.out h) hsm.len hsm.fns
          rw [textV_ok h0] at H3
          rw [textV_ok h0'] at H4
          simp only [show ((0 : Nat) : Int) = 0 from rfl] at H3 H4
          by_cases hlm : l = m
          · have H7 := fun W h => known (H6 W h) true (by simp; exact hlm)
            have e5 : ((bs (textP l)).toList == (bs (textP m)).toList) = true := by rw [hiff.2 hlm]; simp
            clear h0 h0' hroom hroom' hsm hsm' hiff hlm H6
            go_wp2_with (first
              | (go_at_call 9; (with_reducible refine (H3 _ k3).mono ?_); clear H3; rintro e w4 ⟨rfl, hB4⟩; have k4 := k3.trans (hB4.mono k3.size))
              | (go_at_call 9; (with_reducible refine (H4 _ k4).mono ?_); clear H4; rintro e w5 ⟨rfl, hB5⟩; have k5 := k4.trans (hB5.mono k4.size))
              | (go_at_call 12; (with_reducible refine (H7 _ k5).mono ?_); rintro e w6 ⟨rfl, hB6⟩; have k6 := k5.trans (hB6.mono k5.size)))
            go_ret
            exact ⟨rfl, k6⟩
          · have H7 := fun W h => known (H6 W h) false (by simp; exact hlm)
            have hne : ¬ textP l = textP m := fun e => hlm (hiff.1 e)
            obtain ⟨z1, e5⟩ := bytes_ne (s := bs (textP l)) (t := bs (textP m)) (fun e => hne (bs_inj e))
            clear h0 h0' hroom hroom' hsm hsm' hiff hlm H6 hne
            go_wp2_with (first
              | (go_at_call 9; (with_reducible refine (H3 _ k3).mono ?_); clear H3; rintro e w4 ⟨rfl, hB4⟩; have k4 := k3.trans (hB4.mono k3.size))
              | (go_at_call 9; (with_reducible refine (H4 _ k4).mono ?_); clear H4; rintro e w5 ⟨rfl, hB5⟩; have k5 := k4.trans (hB5.mono k4.size))
              | (go_at_call 12; (with_reducible refine (H7 _ k5).mono ?_); rintro e w6 ⟨rfl, hB6⟩; have k6 := k5.trans (hB6.mono k5.size)))
            go_ret
            exact ⟨rfl, k6⟩
        · rw [textV_ok h0] at H3
          rw [textV_bad h0'] at H4
          simp only [show ((0 : Nat) : Int) = 0 from rfl, show ((8 : Nat) : Int) = 8 from rfl] at H3 H4
          clear h0 h0' hroom hroom' hsm hsm'
          go_wp2_with (first
            | (go_at_call 9; (with_reducible refine (H3 _ k3).mono ?_); clear H3; rintro e w4 ⟨rfl, hB4⟩; have k4 := k3.trans (hB4.mono k3.size))
            | (go_at_call 9; (with_reducible refine (H4 _ k4).mono ?_); clear H4; rintro e w5 ⟨rfl, hB5⟩; have k5 := k4.trans (hB5.mono k4.size)))
          go_ret
          exact ⟨rfl, k5⟩
      · rw [textV_bad h0] at H3
        obtain ⟨t4, e4, hq4⟩ : ∃ t4 e4, textV m = (t4, e4) := ⟨_, _, rfl⟩
        rw [hq4] at H4
        simp only [show ((8 : Nat) : Int) = 8 from rfl] at H3 H4
        clear h0 hq4 hroom hroom' hsm hsm'
        go_wp2_with (first
          | (go_at_call 9; (with_reducible refine (H3 _ k3).mono ?_); clear H3; rintro e w4 ⟨rfl, hB4⟩; have k4 := k3.trans (hB4.mono k3.size))
          | (go_at_call 9; (with_reducible refine (H4 _ k4).mono ?_); clear H4; rintro e w5 ⟨rfl, hB5⟩; have k5 := k4.trans (hB5.mono k4.size)))
        go_ret
        exact ⟨rfl, k5⟩

end Lp

end Go.Proofs.YtnekcomkochmjaaGreatDoor
