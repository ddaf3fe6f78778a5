/- The document's numbers, plainly. -/
import Derived.Test.YtpbempnenjfjdaaGreatDoorLxMath
namespace Go.Proofs.YtpbempnenjfjdaaGreatDoor
set_option linter.unusedVariables false
set_option linter.unusedSimpArgs false

/-- What digits stand for behind a number. -/
def dval (acc : Nat) : List UInt8 → Option Nat
  | [] => some acc
  | c :: r => if isD c = true then dval (10 * acc + (c.toNat - 48)) r else none

theorem dval_ge {l : List UInt8} : ∀ {acc v : Nat}, dval acc l = some v → acc * 10 ^ l.length ≤ v := by
  induction l with
  | nil => intro acc v h; simp [dval] at h; simp [h]
  | cons c r ih =>
    intro acc v h
    simp only [dval] at h
    split at h
    · have := ih h
      rw [List.length_cons, Nat.pow_succ]
      refine Nat.le_trans ?_ this
      rw [Nat.mul_comm (10 ^ r.length) 10, ← Nat.mul_assoc]
      exact Nat.mul_le_mul_right _ (by omega)
    · cases h

theorem dval_lt {l : List UInt8} : ∀ {acc v : Nat}, dval acc l = some v → v < (acc + 1) * 10 ^ l.length := by
  induction l with
  | nil => intro acc v h; simp [dval] at h; simp [h]
  | cons c r ih =>
    intro acc v h
    simp only [dval] at h
    split at h
    · rename_i hc
      have hc' : c.toNat ≤ 57 := by simp [isD] at hc; omega
      have := ih h
      rw [List.length_cons, Nat.pow_succ]
      refine Nat.lt_of_lt_of_le this ?_
      rw [Nat.mul_comm (10 ^ r.length) 10, ← Nat.mul_assoc]
      exact Nat.mul_le_mul_right _ (by omega)
    · cases h

theorem pu_some {l : List UInt8} : ∀ {acc v : Nat}, dval acc l = some v → v ≤ 18446744073709551615 → Lib.parseUintM 18446744073709551615 acc l = .ok v := by
  induction l with
  | nil => intro acc v h _; simp [dval] at h; simp [Lib.parseUintM, h]
  | cons c r ih =>
    intro acc v h hv
    simp only [dval] at h
    split at h
    · rename_i hc
      have hc' : 48 ≤ c.toNat ∧ c.toNat ≤ 57 := by simpa [isD] using hc
      have h1 := dval_ge h
      have h2 : 10 * acc + (c.toNat - 48) ≤ v := Nat.le_trans (Nat.le_mul_of_pos_right _ (Nat.pos_of_ne_zero (by simp))) h1
      rw [Lib.parseUintM, if_pos hc', if_neg (by omega), if_neg (by omega), Nat.mul_comm acc 10]
      exact ih h hv
    · cases h

theorem pu_ok {l : List UInt8} : ∀ {acc v : Nat}, Lib.parseUintM 18446744073709551615 acc l = .ok v → dval acc l = some v := by
  induction l with
  | nil => intro acc v h; simp [Lib.parseUintM] at h; simp [dval, h]
  | cons c r ih =>
    intro acc v h
    rw [Lib.parseUintM] at h
    split at h
    · rename_i hc
      have hc' : isD c = true := by simpa [isD] using hc
      split at h
      · cases h
      · split at h
        · cases h
        · rw [dval, if_pos hc', Nat.mul_comm 10 acc]
          exact ih h
    · cases h

/-- A number, as the document reads it. -/
theorem numV_eq {c : UInt8} {r : List UInt8} (hc : isD c = true) : numV (c :: r) = if 19 < (c :: r).length ∨ (c.toNat = 48 ∧ 1 < (c :: r).length) then none else (dval 0 (c :: r)).bind (fun v => if v ≤ 9223372036854775807 then some (v : Int) else none) := by
  have hc' : 48 ≤ c.toNat ∧ c.toNat ≤ 57 := by simpa [isD] using hc
  have hpl := Lib.parseIntB_plain 64 c r (by omega) (by omega)
  have hpu : Lib.parseUintB 64 (c :: r) = Lib.parseUintM 18446744073709551615 0 (c :: r) := by
    unfold Lib.parseUintB
    rw [if_neg (by simp)]
  rw [hpu] at hpl
  unfold numV
  by_cases h0 : 1 < (c :: r).length ∧ c.toNat = 48
  · rw [if_pos ⟨h0.1, by simp [eq48.2 h0.2]⟩, if_pos (.inr ⟨h0.2, h0.1⟩)]
  · rw [if_neg (fun hh => h0 ⟨hh.1, by have := hh.2; simp at this; exact eq48.1 this⟩)]
    rw [hpl]
    cases hd : dval 0 (c :: r) with
    | none =>
      have : ∀ v, Lib.parseUintM 18446744073709551615 0 (c :: r) ≠ .ok v := fun v e => by rw [pu_ok e] at hd; cases hd
      cases hq : Lib.parseUintM 18446744073709551615 0 (c :: r) with
      | ok v => exact absurd hq (this v)
      | range => simp [Lib.signlessC]
      | _ => simp [Lib.signlessC]
    | some v =>
      by_cases hv : v ≤ 9223372036854775807
      · have hq := pu_some hd (by omega)
        rw [hq]
        have hlen : ¬ (19 < (c :: r).length ∨ (c.toNat = 48 ∧ 1 < (c :: r).length)) := by
          rintro (h | h)
          · have h48 : c.toNat ≠ 48 := fun e => h0 ⟨by omega, e⟩
            have h1 : dval (10 * 0 + (c.toNat - 48)) r = some v := by rw [dval, if_pos hc] at hd; exact hd
            have h2 := dval_ge h1
            have h3 : 10 ^ 19 ≤ 10 ^ r.length := Nat.pow_le_pow_right (by omega) (by simp at h; omega)
            have h4 : 1 * 10 ^ r.length ≤ (10 * 0 + (c.toNat - 48)) * 10 ^ r.length := Nat.mul_le_mul_right _ (by omega)
            omega
          · exact h0 ⟨h.2, h.1⟩
        rw [if_neg hlen]
        simp only [Lib.signlessC, Option.bind_some, if_pos hv]
        rw [if_neg (by omega)]
      · have hS : ∀ u, Lib.signlessC (2 ^ (64 - 1)) (Lib.parseUintM 18446744073709551615 0 (c :: r)) ≠ .ok u := by
          intro u0
          cases hq : Lib.parseUintM 18446744073709551615 0 (c :: r) with
          | ok u =>
            have := pu_ok hq
            rw [hd] at this
            cases this
            simp only [Lib.signlessC]
            rw [if_pos (by omega)]
            simp
          | range => simp [Lib.signlessC]
          | _ => simp [Lib.signlessC]
        have hR : (if 19 < (c :: r).length ∨ (c.toNat = 48 ∧ 1 < (c :: r).length) then none else (some v).bind (fun v => if v ≤ 9223372036854775807 then some (v : Int) else none)) = none := by simp [if_neg hv]
        rw [hR]
        cases hq : Lib.signlessC (2 ^ (64 - 1)) (Lib.parseUintM 18446744073709551615 0 (c :: r)) with
        | ok u => exact absurd hq (hS u)
        | range => rfl
        | _ => rfl

end Go.Proofs.YtpbempnenjfjdaaGreatDoor
