/- The document's bytes, and runs of them. -/
import Derived.Test.YtpbempnenjfjdaaGreatDoorLxSame
namespace Go.Proofs.YtpbempnenjfjdaaGreatDoor
set_option linter.unusedVariables false
set_option linter.unusedSimpArgs false
open Go.RowKit

variable {w : World}

set_option maxHeartbeats 1000000 in
theorem rletter_in (c : UInt8) (w : World) : Calls Tryz.prog 88 #[.int .u8 c.toNat] w fun e w' => e = .returned (.bool (isL c)) ∧ w' = w := by
  have hc := c.toNat_lt
  generalize hn : c.toNat = n at *
  go_enter Tryz.func88, Tryz.ntmps88
  go_wp2
  all_goals
    go_ret
    refine ⟨bool_ret ?_, rfl⟩
    simp [isL, hn]
    try omega

set_option maxHeartbeats 1000000 in
theorem rdigit_in (c : UInt8) (w : World) : Calls Tryz.prog 85 #[.int .u8 c.toNat] w fun e w' => e = .returned (.bool (isD c)) ∧ w' = w := by
  generalize hn : c.toNat = n at *
  go_enter Tryz.func85, Tryz.ntmps85
  go_wp2
  all_goals
    go_ret
    refine ⟨bool_ret ?_, rfl⟩
    simp [isD, hn]
    try omega

/-- A text's byte. -/
theorem bs_at {l : List UInt8} {j : Nat} {c : UInt8} (h : l[j]? = some c) : ∃ hj : j < (bs l).size, (bs l)[j]'hj = c := by
  have hj := (List.getElem?_eq_some_iff.1 h).1
  have h2 : j < (bs l).size := by rw [bs_size]; exact hj
  refine ⟨h2, ?_⟩
  have := bs_get h2
  rw [h] at this
  exact (Option.some.inj this).symm

set_option maxRecDepth 20000 in
set_option maxHeartbeats 1000000 in
theorem run_in (l : List UInt8) (hl : l.length ≤ 65536) (a0 : Nat) (ha : a0 ≤ l.length) (w : World) :
    Calls Tryz.prog 86 #[.string (bs l), .int .i64 a0] w fun e w' => e = .returned (.int .i64 ((a0 + ((l.drop a0).takeWhile isN).length : Nat) : Int)) ∧ w' = w := by
  have hsz := bs_size l
  obtain ⟨E, hE⟩ : ∃ E : Nat, E = a0 + ((l.drop a0).takeWhile isN).length := ⟨_, rfl⟩
  rw [← hE]
  have HL := rletter_in
  have HD := rdigit_in
  go_enter Tryz.func86, Tryz.ntmps86
  go_wp2
  go_loopw [1] (fun k wr => ∃ a : Nat, k = .int .i64 a ∧ a ≤ l.length ∧ E = a + ((l.drop a).takeWhile isN).length ∧ wr = w) (fun k _ => l.length - (intOf k).toNat)
  case atStart => exact ⟨a0, rfl, ha, hE, rfl⟩
  case round =>
    obtain ⟨a, rfl, hal, hEa, rfl⟩ := hrel
    clear hE
    by_cases hlt : a < l.length
    · have hlt' : (a : Int) < (l.length : Int) := by omega
      have hdr : l.drop a = l[a] :: l.drop (a + 1) := List.drop_eq_getElem_cons hlt
      have hcg : l[a]? = some l[a] := by simp
      obtain ⟨hj, hc⟩ := bs_at hcg
      rw [hdr] at hEa
      have HE : Hid _ := hEa
      clear hEa hdr hcg
      generalize l[a] = c at *
      generalize bs l = s at *
      cases h1 : isL c with
      | true =>
        have HL1 := HL c
        rw [h1] at HL1
        go_wp2_with (first
          | (go_at_call 88; (with_reducible refine (HL1 _).mono ?_); rintro e w2 ⟨rfl, rfl⟩))
        go_roundw
        case rel =>
          refine ⟨a + 1, by simp, by omega, ?_, by first | rfl | trivial⟩
          have := HE.out
          rw [List.takeWhile, show isN c = true by simp [isN, h1]] at this
          simp at this
          omega
        case measure => simp [intOf]; omega
      | false =>
        cases h2 : isD c with
        | true =>
          have HL1 := HL c
          rw [h1] at HL1
          have HD1 := HD c
          rw [h2] at HD1
          go_wp2_with (first
            | (go_at_call 88; (with_reducible refine (HL1 _).mono ?_); rintro e w2 ⟨rfl, rfl⟩)
            | (go_at_call 85; (with_reducible refine (HD1 _).mono ?_); rintro e w2 ⟨rfl, rfl⟩))
          go_roundw
          case rel =>
            refine ⟨a + 1, by simp, by omega, ?_, by first | rfl | trivial⟩
            have := HE.out
            rw [List.takeWhile, show isN c = true by simp [isN, h2]] at this
            simp at this
            omega
          case measure => simp [intOf]; omega
        | false =>
          have HL1 := HL c
          rw [h1] at HL1
          have HD1 := HD c
          rw [h2] at HD1
          go_wp2_with (first
            | (go_at_call 88; (with_reducible refine (HL1 _).mono ?_); rintro e w2 ⟨rfl, rfl⟩)
            | (go_at_call 85; (with_reducible refine (HD1 _).mono ?_); rintro e w2 ⟨rfl, rfl⟩))
          go_ret
          have := HE.out
          rw [List.takeWhile, show isN c = false by simp [isN, h1, h2]] at this
          simp at this
          subst this
          exact ⟨rfl, rfl⟩
    · have hlt' : ¬ ((a : Int) < (l.length : Int)) := by omega
      rw [List.drop_eq_nil_of_le (by omega)] at hEa
      simp at hEa
      subst hEa
      go_wp2
      go_ret
      exact ⟨rfl, rfl⟩

end Go.Proofs.YtpbempnenjfjdaaGreatDoor
