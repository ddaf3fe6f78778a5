/- A number's digits; a text in quotes. -/
import Derived.Test.YtpbempnenjfjdaaDoorLxBuild
import Derived.Laws.IdiomStrings
import Derived.Lib.ItoaLen
namespace Go.Proofs.YtpbempnenjfjdaaDoor
set_option linter.unusedVariables false
set_option linter.unusedSimpArgs false
open Go.RowKit

variable {w : World}

theorem digit_piece {d : Nat} (h : d < 10) : (⟨#[48, 49, 50, 51, 52, 53, 54, 55, 56, 57]⟩ : ByteArray).extract d (d + 1) = bs [UInt8.ofNat (48 + d)] := by
  have e : (⟨#[48, 49, 50, 51, 52, 53, 54, 55, 56, 57]⟩ : ByteArray) = bs [48, 49, 50, 51, 52, 53, 54, 55, 56, 57] := rfl
  rw [e, bs_piece]
  match d, h with
  | 0, _ => rfl
  | 1, _ => rfl
  | 2, _ => rfl
  | 3, _ => rfl
  | 4, _ => rfl
  | 5, _ => rfl
  | 6, _ => rfl
  | 7, _ => rfl
  | 8, _ => rfl
  | 9, _ => rfl

theorem digits_len {n : Nat} (h : n ≤ 9223372036854775807) : (Lib.decDigits n).length ≤ 21 := by
  have := Lib.itoa_length_le (n : Int) (by omega) (by omega)
  unfold Lib.itoa at this
  rw [if_neg (by omega)] at this
  simpa using this

set_option maxRecDepth 20000 in
set_option maxHeartbeats 1000000 in
theorem digits_in (n : Nat) (hn : n ≤ 9223372036854775807) (w : World) :
    Calls Tryd.prog 9 #[.int .i64 n] w fun e w' => e = .returned (.string (bs (Lib.decDigits n))) ∧ w' = w := by
  go_enter Tryd.func9, Tryd.ntmps9
  go_wp2
  go_loopw [0, 3, 4] (fun nv sv _ wr => ∃ (m : Nat) (acc : List UInt8), nv = .int .i64 m ∧ sv = .string (bs acc) ∧ Lib.decDigits n = Lib.decDigits m ++ acc ∧ m ≤ n ∧ wr = w) (fun nv _ _ _ => (intOf nv).toNat)
  case atStart => exact ⟨n, [], rfl, rfl, by simp, Nat.le_refl _, rfl⟩
  case round =>
    obtain ⟨m, acc, rfl, rfl, hd, hm, rfl⟩ := hrel
    have hd10 : m % 10 < 10 := Nat.mod_lt _ (by omega)
    have hp := digit_piece hd10
    have ht : Int.tmod (m : Int) 10 = ((m % 10 : Nat) : Int) := by rw [Int.tmod_eq_emod_of_nonneg (by omega)]; omega
    have hq : Int.tdiv (m : Int) 10 = ((m / 10 : Nat) : Int) := by rw [Int.tdiv_eq_ediv_of_nonneg (by omega)]; omega
    have hcat : bs [UInt8.ofNat (48 + m % 10)] ++ bs acc = bs (UInt8.ofNat (48 + m % 10) :: acc) := by rw [bs_app]; rfl
    have hdd := Lib.decDigits.eq_1 m
    have hal : acc.length ≤ 21 := by
      have h1 := digits_len hn
      rw [hd] at h1
      simp at h1
      omega
    have hs1 : (bs [UInt8.ofNat (48 + m % 10)]).size = 1 := by rw [bs_size]; rfl
    have hs2 := bs_size acc
    have hs3 : ¬ (9223372036854775807 < 1 + acc.length) := by omega
    obtain ⟨dg, hdg⟩ : ∃ dg, UInt8.ofNat (48 + m % 10) = dg := ⟨_, rfl⟩
    rw [hdg] at hp hcat hs1 hdd
    have HD : Hid _ := And.intro hd (And.intro hdd hdg)
    clear hd hdd hdg
    generalize hdm : m % 10 = dd at *
    by_cases h10 : m < 10
    · have hz : m / 10 = 0 := by omega
      have hq0 : ((m / 10 : Nat) : Int) = 0 := by omega
      rw [hz] at hq
      go_wp2
      go_ret
      refine ⟨?_, rfl⟩
      obtain ⟨hd, hdd, hdg⟩ := HD.out
      rw [hd, hdd, dif_pos h10]
      have : m = dd := by omega
      rw [this, hdg]
      first | rfl | (rw [← hcat]; rfl) | (show Ending.returned (Value.string (bs [dg] ++ bs acc)) = _; rw [hcat]; rfl)
    · have hq0 : ¬ (((m / 10 : Nat) : Int) = 0) := by omega
      go_wp2
      go_roundw
      case rel =>
        obtain ⟨hd, hdd, hdg⟩ := HD.out
        refine ⟨m / 10, dg :: acc, ?_, ?_, ?_, by omega, by first | rfl | trivial⟩
        · first | rfl | simp
        · first | rfl | rw [hcat]
        · rw [hd, hdd, dif_neg h10]; simp
      case measure => simp [intOf]; omega

end Go.Proofs.YtpbempnenjfjdaaDoor
