/- Words told as texts are those words; plainly. -/
import Derived.Test.YtpbempnenjfjdaaDoorLxWords
import Derived.Test.YtpbempnenjfjdaaDoorLxQuote
namespace Go.Proofs.YtpbempnenjfjdaaDoor
set_option linter.unusedVariables false
set_option linter.unusedSimpArgs false

/-- A digit. -/
theorem dig_nat {d : Nat} (h : d < 10) : (UInt8.ofNat (48 + d)).toNat = 48 + d := by simp [Nat.mod_eq_of_lt (show 48 + d < 256 by omega)]

theorem dec_lt {n : Nat} (h : n < 10) : Lib.decDigits n = [UInt8.ofNat (48 + n)] := by rw [Lib.decDigits, dif_pos h]

theorem dec_ge {n : Nat} (h : ¬ n < 10) : Lib.decDigits n = Lib.decDigits (n / 10) ++ [UInt8.ofNat (48 + n % 10)] := by rw [Lib.decDigits, dif_neg h]

theorem parse_dec {M : Nat} (n : Nat) (hM : n ≤ M) (hn : n ≤ 9223372036854775807) (t : List UInt8) : Lib.parseUintM M 0 (Lib.decDigits n ++ t) = Lib.parseUintM M n t := by
  induction n using Nat.strongRecOn generalizing t with
  | _ n ih =>
    by_cases h : n < 10
    · have e := dig_nat h
      rw [dec_lt h]
      simp only [List.singleton_append, Lib.parseUintM]
      rw [e, if_pos (by omega), if_neg (by omega), if_neg (by omega)]
      congr 1
      omega
    · have hd : n % 10 < 10 := Nat.mod_lt _ (by omega)
      have e := dig_nat hd
      rw [dec_ge h, List.append_assoc, ih (n / 10) (by omega) (by omega) (by omega)]
      simp only [List.singleton_append, Lib.parseUintM]
      rw [e, if_pos (by omega), if_neg (by omega), if_neg (by omega)]
      congr 1
      omega

theorem dec_isD (n : Nat) : ∀ c ∈ Lib.decDigits n, isD c = true := by
  induction n using Nat.strongRecOn with
  | _ n ih =>
    intro c hc
    by_cases h : n < 10
    · rw [dec_lt h] at hc
      simp at hc
      subst hc
      have e := dig_nat h
      simp only [UInt8.ofNat_add] at e
      simp [isD, e]; omega
    · have hd : n % 10 < 10 := Nat.mod_lt _ (by omega)
      rw [dec_ge h] at hc
      rcases List.mem_append.1 hc with hc | hc
      · exact ih (n / 10) (by omega) c hc
      · simp only [List.mem_singleton] at hc
        subst hc
        have e := dig_nat hd
        unfold isD
        rw [e]
        simp; omega

theorem dec_cons (n : Nat) : ∃ c r, Lib.decDigits n = c :: r := by
  by_cases h : n < 10
  · exact ⟨_, _, dec_lt h⟩
  · rw [dec_ge h]
    cases Lib.decDigits (n / 10) with
    | nil => exact ⟨_, _, rfl⟩
    | cons c r => exact ⟨_, _, rfl⟩

theorem dec_head {n : Nat} (h1 : 1 ≤ n) : (Lib.decDigits n).head? ≠ some 48 := by
  induction n using Nat.strongRecOn with
  | _ n ih =>
    by_cases h : n < 10
    · rw [dec_lt h]
      intro e
      simp only [List.head?_cons, Option.some.injEq] at e
      have e2 := eq48.1 e
      rw [dig_nat h] at e2
      omega
    · rw [dec_ge h]
      obtain ⟨c, r, hc⟩ := dec_cons (n / 10)
      have := ih (n / 10) (by omega) (by omega)
      rw [hc] at this ⊢
      simpa using this

theorem numV_dec {n : Nat} (hn : n ≤ 9223372036854775807) : numV (Lib.decDigits n) = some (n : Int) := by
  have h0 : ¬ (1 < (Lib.decDigits n).length ∧ (Lib.decDigits n).head? = some 48) := by
    rintro ⟨h1, h2⟩
    by_cases h : n < 10
    · rw [dec_lt h] at h1; simp at h1
    · exact dec_head (by omega) h2
  unfold numV
  rw [if_neg h0]
  obtain ⟨c, r, hc⟩ := dec_cons n
  have hcD := dec_isD n c (by rw [hc]; simp)
  simp [isD] at hcD
  have hp : Lib.parseUintB 64 (Lib.decDigits n) = .ok n := by
    unfold Lib.parseUintB
    rw [if_neg (by rw [hc]; simp)]
    have := parse_dec (M := 2 ^ 64 - 1) n (by omega) hn []
    simpa [Lib.parseUintM] using this
  rw [hc] at hp ⊢
  rw [Lib.parseIntB_plain 64 c r (by omega) (by omega), hp]
  simp only [Lib.signlessC]
  rw [if_neg (by omega)]

/-- Bytes at which a name or a number ends. -/
def Stops (rest : List UInt8) : Prop := rest = [] ∨ ∃ c r, rest = c :: r ∧ isN c = false

theorem tw_stop {p : UInt8 → Bool} {a rest : List UInt8} (ha : ∀ c ∈ a, p c = true) (hr : rest = [] ∨ ∃ c r, rest = c :: r ∧ p c = false) : (a ++ rest).takeWhile p = a ∧ (a ++ rest).dropWhile p = rest := by
  induction a with
  | nil =>
    rcases hr with rfl | ⟨c, r, rfl, hc⟩
    · exact ⟨rfl, rfl⟩
    · simp [List.takeWhile, List.dropWhile, hc]
  | cons c a ih =>
    have h1 := ha c (by simp)
    have h2 := ih (fun x hx => ha x (by simp [hx]))
    simp [List.takeWhile, List.dropWhile, h1, h2]

theorem isD_not_isL {c : UInt8} (h : isD c = true) : isL c = false := by
  simp [isD] at h
  simp [isL]
  omega

theorem word_num {n : Nat} (hn : n ≤ 9223372036854775807) {rest : List UInt8} (hr : Stops rest) : wordAt (Lib.decDigits n ++ rest) = some (⟨2, [], n, 0⟩, rest) := by
  obtain ⟨c, r, hc⟩ := dec_cons n
  have hcD := dec_isD n c (by rw [hc]; simp)
  obtain ⟨h1, h2⟩ := tw_stop (p := isN) (a := Lib.decDigits n) (rest := rest) (fun x hx => by simp [isN, dec_isD n x hx]) hr
  rw [hc] at h1 h2 ⊢
  rw [List.cons_append] at h1 h2 ⊢
  rw [wordAt_num (isD_not_isL hcD) hcD, h1, h2, ← hc, numV_dec hn]
  rfl

theorem textAt_esc (s rest : List UInt8) : textAt (esc s ++ 34 :: rest) = some (s, rest) := by
  induction s with
  | nil => cases rest <;> simp [esc, textAt]
  | cons c r ih =>
    have e : esc (c :: r) = escB c ++ esc r := by simp [esc]
    rw [e, List.append_assoc]
    by_cases h : c = 34 ∨ c = 92
    · have : escB c = [92, c] := by unfold escB; rw [if_pos h]
      rw [this]
      simp only [List.cons_append, List.nil_append]
      rw [textAt, if_neg (by decide), if_neg (by decide), if_pos rfl, if_pos h, ih]
      rfl
    · by_cases h10 : c = 10
      · have : escB c = [92, 110] := by unfold escB; rw [if_neg h, if_pos h10]
        rw [this]
        simp only [List.cons_append, List.nil_append]
        rw [textAt, if_neg (by decide), if_neg (by decide), if_pos rfl, if_neg (by decide), if_pos rfl, ih, h10]
        rfl
      · have : escB c = [c] := by unfold escB; rw [if_neg h, if_neg h10]
        rw [this]
        simp only [not_or] at h
        simp only [List.cons_append, List.nil_append]
        rw [textAt_plain h10 h.1 h.2, ih]
        rfl

theorem word_text {s rest : List UInt8} (hs : s.length ≤ 4096) : wordAt (quo s ++ rest) = some (⟨3, s, 0, 0⟩, rest) := by
  have e : quo s ++ rest = 34 :: (esc s ++ 34 :: rest) := by simp [quo]
  rw [e, wordAt_text]
  unfold textR
  rw [textAt_esc]
  simp [hs]

theorem sigs_sign : ∀ p ∈ sigs, ∃ c r, p = c :: r ∧ isL c = false ∧ isD c = false ∧ c ≠ 34 ∧ isB c = false := by
  intro p hp
  simp only [sigs, List.mem_cons, List.not_mem_nil, or_false] at hp
  rcases hp with rfl | rfl | rfl | rfl | rfl | rfl | rfl | rfl | rfl | rfl | rfl | rfl | rfl | rfl | rfl | rfl | rfl | rfl | rfl | rfl | rfl <;> exact ⟨_, _, rfl, by decide, by decide, by decide, by decide⟩

theorem sign_find {p rest : List UInt8} (hp : p ∈ sigs) (hr : rest.head? ≠ some 61) : signAt (p ++ rest) = some (p, rest) := by
  have key : sigs.find? (fun q => q.isPrefixOf (p ++ rest)) = some p := by
    simp only [sigs, List.mem_cons, List.not_mem_nil, or_false] at hp
    cases rest with
    | nil => rcases hp with rfl | rfl | rfl | rfl | rfl | rfl | rfl | rfl | rfl | rfl | rfl | rfl | rfl | rfl | rfl | rfl | rfl | rfl | rfl | rfl | rfl <;> rfl
    | cons d r =>
      have hd : (61 == d) = false := by
        simp at hr ⊢
        exact fun e => hr e.symm
      rcases hp with rfl | rfl | rfl | rfl | rfl | rfl | rfl | rfl | rfl | rfl | rfl | rfl | rfl | rfl | rfl | rfl | rfl | rfl | rfl | rfl | rfl <;> simp [sigs, List.find?, List.isPrefixOf, hd]
  unfold signAt
  rw [key]
  simp

theorem word_sign {p rest : List UInt8} (hp : p ∈ sigs) (hr : rest.head? ≠ some 61) : wordAt (p ++ rest) = some (⟨4, p, 0, 0⟩, rest) := by
  have hf := sign_find hp hr
  obtain ⟨c, r, rfl, h1, h2, h3, -⟩ := sigs_sign p hp
  rw [List.cons_append] at hf ⊢
  rw [wordAt_sign h1 h2 h3, hf]
  rfl

theorem skip_not {c : UInt8} {r : List UInt8} (h : isB c = false) (h2 : c ≠ 47 ∨ r.head? ≠ some 47) : skip false (c :: r) = (c :: r, 0) := by
  have : ¬ (c = 47 ∧ r.head? = some 47) := fun e => h2.elim (fun h => h e.1) (fun h => h e.2)
  simp [skip, h, this]

theorem isD_not_isB {c : UInt8} (h : isD c = true) : isB c = false ∧ c ≠ 47 := by
  simp [isD] at h
  refine ⟨by simp [isB]; omega, fun e => ?_⟩
  have := eq47.1 e
  omega

theorem skip_dec (n : Nat) (rest : List UInt8) : skip false (Lib.decDigits n ++ rest) = (Lib.decDigits n ++ rest, 0) := by
  obtain ⟨c, r, hc⟩ := dec_cons n
  have hcD := dec_isD n c (by rw [hc]; simp)
  rw [hc, List.cons_append]
  exact skip_not (isD_not_isB hcD).1 (.inl (isD_not_isB hcD).2)

theorem skip_quo (s rest : List UInt8) : skip false (quo s ++ rest) = (quo s ++ rest, 0) := skip_not (c := 34) (by decide) (.inl (by decide))

end Go.Proofs.YtpbempnenjfjdaaDoor
