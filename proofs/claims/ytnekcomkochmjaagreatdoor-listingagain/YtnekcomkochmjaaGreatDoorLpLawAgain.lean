/- ListingAgain: the walk. -/
import Derived.Test.YtnekcomkochmjaaGreatDoorLpLawBack
namespace Go.Proofs.YtnekcomkochmjaaGreatDoor
set_option linter.unusedVariables false
set_option linter.unusedSimpArgs false
open Go.RowKit

namespace Lp
open Lk

variable {w : World}

set_option maxRecDepth 20000 in
set_option maxHeartbeats 4000000 in
theorem listingAgain_walk (s : List UInt8) (w : World) (hlen : s.length ≤ 140737488355328) (he : ErrT w) (tab : Tab w) (hw : WordsT w) (ht : RowsT w) :
    Calls Tryz.prog 4 #[.string (bs s)] w fun e w' => e = .returned (.bool true) ∧ Below w.heap.size w w' := by
  have H0 := fun (W : World) (h : Below w.heap.size w W) => alive_in (he.below h) (tab.below h) (hw.below h) (ht.below h)
  have hsz := bs_size s
  by_cases hgt : 100000 < s.length
  · have hg : (100000 : Int) < ((bs s).size : Int) := by omega
    clear he tab hw ht hgt hlen hsz
    go_enter Tryz.func4, Tryz.ntmps4
    go_wp2_with (first
      | (go_at_call 7; (with_reducible refine (H0 _ (Below.refl _ _)).mono ?_); rintro e w1 ⟨rfl, hB1⟩)
      | (go_at_call 7; (with_reducible refine (H0 _ hB1).mono ?_); rintro e w2 ⟨rfl, hB2⟩))
    go_ret
    exact ⟨rfl, hB1.trans (hB2.mono hB1.size)⟩
  · have hg : ¬ ((100000 : Int) < ((bs s).size : Int)) := by omega
    have H5 := fun (W : World) (h : Below w.heap.size w W) => parse_in (w := W) s (by omega) (Short.of_len (by omega)) (he.below h) (Tab.below tab h) (hw.below h) (ht.below h)
    rcases parseV_err s with h0 | ⟨h1, h2, h3⟩
    · obtain ⟨a1, a2, a3, a4⟩ := parseV_right h0
      have htot := totP_text (parseV s).1
      rw [a4] at htot
      have hpv : parseV s = ((parseV s).1, 0, 0) := Prod.ext rfl (Prod.ext a1 h0)
      generalize (parseV s).1 = fs at *
      rw [hpv] at H5
      have H6 := fun (W : World) (q : Option Addr) (d : Nat) (hq : IsFns W q fs) (h : Below w.heap.size w W) => Lk.text_in d hq (small_of a2) (fit_of a2) a3 (by omega) (ht.below h) (Tab.below tab h) (hw.below h)
      rw [textV_ok a2, a4] at H6
      simp only [show ((0 : Nat) : Int) = 0 from rfl] at H6
      have e5 := bytes_same (bs s)
      clear he tab hw ht hgt hlen hsz h0 a1 a2 a3 a4 hpv htot
      go_enter Tryz.func4, Tryz.ntmps4
      go_wp2_with (first
        | (go_at_call 7; (with_reducible refine (H0 _ (Below.refl _ _)).mono ?_); rintro e w1 ⟨rfl, hB1⟩)
        | (go_at_call 11; (with_reducible refine (H5 _ hB1).mono ?_); clear H5; rintro e w2 ⟨q, d, ts, rfl, hts, hrow, hB2⟩; have k2 := hB1.trans (hB2.mono hB1.size); have hq := rows_fns hts hrow)
        | (go_at_call 9; (with_reducible refine (H6 _ _ d hq k2).mono ?_); clear H6; rintro e w3 ⟨rfl, hB3⟩; have k3 := k2.trans (hB3.mono k2.size)))
      go_ret
      exact ⟨rfl, k3⟩
    · obtain ⟨n, hn⟩ : ∃ n, (parseV s).2.1 = n := ⟨_, rfl⟩
      have hpv : parseV s = ([], n, 8) := Prod.ext h2 (Prod.ext hn h1)
      rw [hpv] at H5
      rw [hn] at h3
      have c1 : (n : Int) ≤ ((bs s).size : Int) := by omega
      have c2 : (0 : Int) ≤ (n : Int) := by omega
      clear he tab hw ht hgt hlen hsz h1 h2 hpv hn h3
      go_enter Tryz.func4, Tryz.ntmps4
      go_wp2_with (first
        | (go_at_call 7; (with_reducible refine (H0 _ (Below.refl _ _)).mono ?_); rintro e w1 ⟨rfl, hB1⟩)
        | (go_at_call 11; (with_reducible refine (H5 _ hB1).mono ?_); clear H5; rintro e w2 ⟨q, d, ts, rfl, hts, hrow, hB2⟩; have k2 := hB1.trans (hB2.mono hB1.size)))
      go_ret
      exact ⟨rfl, k2⟩

end Lp

end Go.Proofs.YtnekcomkochmjaaGreatDoor
