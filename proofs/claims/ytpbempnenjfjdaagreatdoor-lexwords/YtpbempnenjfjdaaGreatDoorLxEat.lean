/- eat: bytes as long as they are so. -/
import Derived.Test.YtpbempnenjfjdaaGreatDoorLxMem
namespace Go.Proofs.YtpbempnenjfjdaaGreatDoor
set_option linter.unusedVariables false
set_option linter.unusedSimpArgs false
open Go.RowKit

variable {w : World}

theorem tw_len (p : UInt8 → Bool) (l : List UInt8) : (l.takeWhile p).length ≤ l.length := by
  induction l with
  | nil => simp
  | cons c r ih => simp only [List.takeWhile]; split <;> simp; omega

theorem tw_get {p : UInt8 → Bool} {l : List UInt8} {k : Nat} {c : UInt8} (h : k < (l.takeWhile p).length) (hc : l[k]? = some c) : p c = true := by
  induction l generalizing k with
  | nil => simp at hc
  | cons d r ih =>
    by_cases hd : p d = true
    · simp only [List.takeWhile, hd] at h
      cases k with
      | zero => simp at hc; subst hc; exact hd
      | succ k => exact ih (k := k) (by simpa using h) (by simpa using hc)
    · simp [List.takeWhile, hd] at h

theorem tw_end {p : UInt8 → Bool} {l : List UInt8} {c : UInt8} (hc : l[(l.takeWhile p).length]? = some c) : p c = false := by
  induction l with
  | nil => simp at hc
  | cons d r ih =>
    by_cases hd : p d = true
    · simp only [List.takeWhile, hd] at hc
      exact ih (by simpa using hc)
    · simp [List.takeWhile, hd] at hc
      subst hc
      simpa using hd

theorem tw_end' {p : UInt8 → Bool} {l : List UInt8} {c : UInt8} {k : Nat} (hk : k = (l.takeWhile p).length) (hc : l[k]? = some c) : p c = false := by
  subst hk
  exact tw_end hc

theorem tw_take (p : UInt8 → Bool) (l : List UInt8) : l.take (l.takeWhile p).length = l.takeWhile p := by
  induction l with
  | nil => simp
  | cons d r ih =>
    by_cases hd : p d = true
    · simp [List.takeWhile, hd, ih]
    · simp [List.takeWhile, hd]

theorem tw_drop (p : UInt8 → Bool) (l : List UInt8) : l.drop (l.takeWhile p).length = l.dropWhile p := by
  induction l with
  | nil => simp
  | cons d r ih =>
    by_cases hd : p d = true
    · simp [List.takeWhile, List.dropWhile, hd, ih]
    · simp [List.takeWhile, List.dropWhile, hd]

set_option maxRecDepth 20000 in
set_option maxHeartbeats 400000 in
theorem eatN_in {b : Nat} {l : List UInt8} {ln : Nat} (h : IsRd w b l ln) (hl : l.length ≤ 1048576) :
    Calls Tryz.prog 73 #[.pointer (some ⟨b, 0, none⟩), .func (.func 131) #[] #[]] w fun e w' => e = .returned (.string (bs (l.takeWhile isN))) ∧ w' = w.setCell ⟨b, 0, none⟩ (.string (bs (l.dropWhile isN))) := by
  obtain ⟨⟨c0, c1⟩, f0, f1⟩ := cell_row2 h
  have hsz := bs_size l
  have hle := tw_len isN l
  go_enter Tryz.func73, Tryz.ntmps73
  go_wp2
  go_loopw [5] (fun k wr => ∃ j : Nat, k = .int .i64 j ∧ j ≤ (l.takeWhile isN).length ∧ wr = w) (fun k _ => l.length - (intOf k).toNat)
  case atStart => exact ⟨0, rfl, by omega, rfl⟩
  case round =>
    obtain ⟨j, rfl, hj, rfl⟩ := hrel
    by_cases hjl : j < l.length
    · have hjs : j < (bs l).size := by omega
      have hc : l[j]? = some ((bs l)[j]'hjs) := bs_get hjs
      have hjl' : (j : Int) < (l.length : Int) := by omega
      have H := isInName_in ((bs l)[j]'hjs)
      cases hp : isN ((bs l)[j]'hjs) with
      | true =>
        have hj2 : j + 1 ≤ (l.takeWhile isN).length := by
          by_cases e : j = (l.takeWhile isN).length
          · rw [tw_end' e hc] at hp
            cases hp
          · omega
        rw [hp] at H
        have HJ : Hid _ := hj2
        clear hj2 hj hle
        go_wp2_with (first
          | (go_at_call 131; (with_reducible refine (H _).mono ?_); clear H; rintro e w1 ⟨rfl, rfl⟩))
        go_roundw
        case rel => exact ⟨j + 1, by simp, HJ.out, by first | rfl | trivial⟩
        case measure => simp [intOf]; omega
      | false =>
        have hj2 : j = (l.takeWhile isN).length := by
          by_cases e : j < (l.takeWhile isN).length
          · rw [tw_get e hc] at hp
            cases hp
          · omega
        rw [hp] at H
        have e1 : (bs l).extract 0 j = bs (l.takeWhile isN) := by rw [bs_upto, hj2, tw_take]
        have e2 : (bs l).extract j l.length = bs (l.dropWhile isN) := by rw [bs_from, hj2, tw_drop]
        have hjm : (j : Int) ≤ (l.length : Int) := by omega
        clear hj2 hj hle
        go_wp2_with (first
          | (go_at_call 131; (with_reducible refine (H _).mono ?_); clear H; rintro e w1 ⟨rfl, rfl⟩))
        go_ret
        exact ⟨by first | rfl | rw [e1], by first | rfl | rw [e2]⟩
    · have hjl' : ¬ ((j : Int) < (l.length : Int)) := by omega
      have hj2 : j = (l.takeWhile isN).length := by omega
      have e1 : (bs l).extract 0 j = bs (l.takeWhile isN) := by rw [bs_upto, hj2, tw_take]
      have e2 : (bs l).extract j l.length = bs (l.dropWhile isN) := by rw [bs_from, hj2, tw_drop]
      have hjm : (j : Int) ≤ (l.length : Int) := by omega
      clear hj2 hj hle
      go_wp2
      go_ret
      exact ⟨by first | rfl | rw [e1], by first | rfl | rw [e2]⟩

set_option maxRecDepth 20000 in
set_option maxHeartbeats 400000 in
theorem eatB_in {b : Nat} {l : List UInt8} {ln : Nat} (h : IsRd w b l ln) (hl : l.length ≤ 1048576) :
    Calls Tryz.prog 73 #[.pointer (some ⟨b, 0, none⟩), .func (.func 74) #[] #[]] w fun e w' => e = .returned (.string (bs (l.takeWhile isB))) ∧ w' = w.setCell ⟨b, 0, none⟩ (.string (bs (l.dropWhile isB))) := by
  obtain ⟨⟨c0, c1⟩, f0, f1⟩ := cell_row2 h
  have hsz := bs_size l
  have hle := tw_len isB l
  go_enter Tryz.func73, Tryz.ntmps73
  go_wp2
  go_loopw [5] (fun k wr => ∃ j : Nat, k = .int .i64 j ∧ j ≤ (l.takeWhile isB).length ∧ wr = w) (fun k _ => l.length - (intOf k).toNat)
  case atStart => exact ⟨0, rfl, by omega, rfl⟩
  case round =>
    obtain ⟨j, rfl, hj, rfl⟩ := hrel
    by_cases hjl : j < l.length
    · have hjs : j < (bs l).size := by omega
      have hc : l[j]? = some ((bs l)[j]'hjs) := bs_get hjs
      have hjl' : (j : Int) < (l.length : Int) := by omega
      have H := blank_in ((bs l)[j]'hjs)
      cases hp : isB ((bs l)[j]'hjs) with
      | true =>
        have hj2 : j + 1 ≤ (l.takeWhile isB).length := by
          by_cases e : j = (l.takeWhile isB).length
          · rw [tw_end' e hc] at hp
            cases hp
          · omega
        rw [hp] at H
        have HJ : Hid _ := hj2
        clear hj2 hj hle
        go_wp2_with (first
          | (go_at_call 74; (with_reducible refine (H _).mono ?_); clear H; rintro e w1 ⟨rfl, rfl⟩))
        go_roundw
        case rel => exact ⟨j + 1, by simp, HJ.out, by first | rfl | trivial⟩
        case measure => simp [intOf]; omega
      | false =>
        have hj2 : j = (l.takeWhile isB).length := by
          by_cases e : j < (l.takeWhile isB).length
          · rw [tw_get e hc] at hp
            cases hp
          · omega
        rw [hp] at H
        have e1 : (bs l).extract 0 j = bs (l.takeWhile isB) := by rw [bs_upto, hj2, tw_take]
        have e2 : (bs l).extract j l.length = bs (l.dropWhile isB) := by rw [bs_from, hj2, tw_drop]
        have hjm : (j : Int) ≤ (l.length : Int) := by omega
        clear hj2 hj hle
        go_wp2_with (first
          | (go_at_call 74; (with_reducible refine (H _).mono ?_); clear H; rintro e w1 ⟨rfl, rfl⟩))
        go_ret
        exact ⟨by first | rfl | rw [e1], by first | rfl | rw [e2]⟩
    · have hjl' : ¬ ((j : Int) < (l.length : Int)) := by omega
      have hj2 : j = (l.takeWhile isB).length := by omega
      have e1 : (bs l).extract 0 j = bs (l.takeWhile isB) := by rw [bs_upto, hj2, tw_take]
      have e2 : (bs l).extract j l.length = bs (l.dropWhile isB) := by rw [bs_from, hj2, tw_drop]
      have hjm : (j : Int) ≤ (l.length : Int) := by omega
      clear hj2 hj hle
      go_wp2
      go_ret
      exact ⟨by first | rfl | rw [e1], by first | rfl | rw [e2]⟩

set_option maxRecDepth 20000 in
set_option maxHeartbeats 400000 in
theorem eatR_in {b : Nat} {l : List UInt8} {ln : Nat} (h : IsRd w b l ln) (hl : l.length ≤ 1048576) :
    Calls Tryz.prog 73 #[.pointer (some ⟨b, 0, none⟩), .func (.func 77) #[] #[]] w fun e w' => e = .returned (.string (bs (l.takeWhile noNl))) ∧ w' = w.setCell ⟨b, 0, none⟩ (.string (bs (l.dropWhile noNl))) := by
  obtain ⟨⟨c0, c1⟩, f0, f1⟩ := cell_row2 h
  have hsz := bs_size l
  have hle := tw_len noNl l
  go_enter Tryz.func73, Tryz.ntmps73
  go_wp2
  go_loopw [5] (fun k wr => ∃ j : Nat, k = .int .i64 j ∧ j ≤ (l.takeWhile noNl).length ∧ wr = w) (fun k _ => l.length - (intOf k).toNat)
  case atStart => exact ⟨0, rfl, by omega, rfl⟩
  case round =>
    obtain ⟨j, rfl, hj, rfl⟩ := hrel
    by_cases hjl : j < l.length
    · have hjs : j < (bs l).size := by omega
      have hc : l[j]? = some ((bs l)[j]'hjs) := bs_get hjs
      have hjl' : (j : Int) < (l.length : Int) := by omega
      have H := noNl_in ((bs l)[j]'hjs)
      cases hp : noNl ((bs l)[j]'hjs) with
      | true =>
        have hj2 : j + 1 ≤ (l.takeWhile noNl).length := by
          by_cases e : j = (l.takeWhile noNl).length
          · rw [tw_end' e hc] at hp
            cases hp
          · omega
        rw [hp] at H
        have HJ : Hid _ := hj2
        clear hj2 hj hle
        go_wp2_with (first
          | (go_at_call 77; (with_reducible refine (H _).mono ?_); clear H; rintro e w1 ⟨rfl, rfl⟩))
        go_roundw
        case rel => exact ⟨j + 1, by simp, HJ.out, by first | rfl | trivial⟩
        case measure => simp [intOf]; omega
      | false =>
        have hj2 : j = (l.takeWhile noNl).length := by
          by_cases e : j < (l.takeWhile noNl).length
          · rw [tw_get e hc] at hp
            cases hp
          · omega
        rw [hp] at H
        have e1 : (bs l).extract 0 j = bs (l.takeWhile noNl) := by rw [bs_upto, hj2, tw_take]
        have e2 : (bs l).extract j l.length = bs (l.dropWhile noNl) := by rw [bs_from, hj2, tw_drop]
        have hjm : (j : Int) ≤ (l.length : Int) := by omega
        clear hj2 hj hle
        go_wp2_with (first
          | (go_at_call 77; (with_reducible refine (H _).mono ?_); clear H; rintro e w1 ⟨rfl, rfl⟩))
        go_ret
        exact ⟨by first | rfl | rw [e1], by first | rfl | rw [e2]⟩
    · have hjl' : ¬ ((j : Int) < (l.length : Int)) := by omega
      have hj2 : j = (l.takeWhile noNl).length := by omega
      have e1 : (bs l).extract 0 j = bs (l.takeWhile noNl) := by rw [bs_upto, hj2, tw_take]
      have e2 : (bs l).extract j l.length = bs (l.dropWhile noNl) := by rw [bs_from, hj2, tw_drop]
      have hjm : (j : Int) ≤ (l.length : Int) := by omega
      clear hj2 hj hle
      go_wp2
      go_ret
      exact ⟨by first | rfl | rw [e1], by first | rfl | rw [e2]⟩

end Go.Proofs.YtpbempnenjfjdaaGreatDoor
