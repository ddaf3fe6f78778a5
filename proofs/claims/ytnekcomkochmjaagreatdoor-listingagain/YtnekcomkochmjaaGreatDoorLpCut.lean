/- listing: lines are read as they are told: words, numbers, texts; what each line adds. -/
import Derived.Test.YtnekcomkochmjaaGreatDoorLpParse
import Derived.Test.YtnekcomkochmjaaGreatDoorLkGreat
import Derived.Test.YtnekcomkochmjaaGreatDoorVbMath
import Derived.BigQuiet
namespace Go.Proofs.YtnekcomkochmjaaGreatDoor
set_option linter.unusedVariables false
set_option linter.unusedSimpArgs false

namespace Lp
open Lk

/-- What may stand behind a word. -/
def Edge (r : List UInt8) : Prop := r = [] ∨ ∃ t, r = 32 :: t

theorem take_word {a r : List UInt8} (h : 32 ∉ a) (hr : Edge r) : (a ++ r).takeWhile (· != (32 : UInt8)) = a ∧ (a ++ r).dropWhile (· != (32 : UInt8)) = r := by
  induction a with
  | nil =>
    rcases hr with rfl | ⟨t, rfl⟩ <;> simp
  | cons c a ih =>
    simp only [List.mem_cons, not_or] at h
    have hc : (c != 32) = true := by simp [Ne.symm h.1]
    obtain ⟨i1, i2⟩ := ih h.2
    simp only [List.cons_append, List.takeWhile, List.dropWhile, hc]
    exact ⟨by rw [i1], i2⟩

theorem first_read {a r : List UInt8} (b : Bool) (h : 32 ∉ a) (hr : Edge r) : (Ln.mk (a ++ r) b).first = a ∧ (Ln.mk (a ++ r) b).behind = ⟨r, b⟩ := by
  obtain ⟨h1, h2⟩ := take_word h hr
  exact ⟨h1, by unfold Ln.behind; rw [h2]⟩

theorem word_read {a r : List UInt8} (b : Bool) (h : 32 ∉ a) (hr : Edge r) : (Ln.mk (32 :: (a ++ r)) b).word = a ∧ (Ln.mk (32 :: (a ++ r)) b).past = ⟨r, b⟩ := by
  have e : (Ln.mk (32 :: (a ++ r)) b).eat [32] = ⟨a ++ r, b⟩ := by simp [Ln.eat, Lib.hasPrefix]
  unfold Ln.word Ln.past
  rw [e]
  exact first_read b h hr

theorem first_right (l : Ln) : l.rest = l.first ++ l.behind.rest ∧ 32 ∉ l.first ∧ Edge l.behind.rest := by
  obtain ⟨h1, h2⟩ := split_first l.rest
  exact ⟨(List.takeWhile_append_dropWhile).symm, h1, h2⟩

theorem past_right {l : Ln} (h : l.past.wrong = false) : l.wrong = false ∧ l.rest = 32 :: (l.word ++ l.past.rest) ∧ 32 ∉ l.word ∧ Edge l.past.rest := by
  obtain ⟨h1, h2, h3⟩ := first_right (l.eat [32])
  have e : l.wrong = false ∧ l.rest = 32 :: (l.eat [32]).rest := by
    unfold Ln.past Ln.behind Ln.eat at h
    unfold Ln.eat
    cases hl : l.rest with
    | nil => rw [hl] at h; simp [Lib.hasPrefix] at h
    | cons c r =>
      rw [hl] at h
      by_cases hc : c = 32
      · subst hc
        simp [Lib.hasPrefix] at h ⊢
        exact h
      · have hc' : ¬ (32 = c) := fun e => hc e.symm
        simp [Lib.hasPrefix, hc'] at h
  exact ⟨e.1, by rw [e.2]; exact congrArg (List.cons 32) h1, h2, h3⟩

theorem dec_digit (u : Nat) : ∀ c ∈ Lib.decDigits u, 48 ≤ c.toNat ∧ c.toNat ≤ 57 := by
  induction u using Nat.strongRecOn with
  | _ u ih =>
    intro c hc
    rw [Lib.decDigits] at hc
    split at hc
    · simp only [List.mem_cons, List.not_mem_nil, or_false] at hc
      subst hc
      simp [UInt8.toNat_ofNat']; omega
    · rename_i hu
      rcases List.mem_append.1 hc with hc | hc
      · exact ih (u / 10) (by omega) c hc
      · simp only [List.mem_cons, List.not_mem_nil, or_false] at hc
        subst hc
        simp [UInt8.toNat_ofNat']; omega

theorem dec_ne (u : Nat) : Lib.decDigits u ≠ [] := by
  rw [Lib.decDigits]
  split <;> simp

theorem parseM_app (M : Nat) : ∀ (a : List UInt8) (acc v d : Nat), Lib.parseUintM M acc a = .ok v → v < 1844674407370955162 → d < 10 → v * 10 + d ≤ M → Lib.parseUintM M acc (a ++ [UInt8.ofNat (48 + d)]) = .ok (v * 10 + d)
  | [], acc, v, d, h, h1, h2, h3 => by
    simp only [Lib.parseUintM] at h
    cases h
    have e : (UInt8.ofNat (48 + d)).toNat = 48 + d := by simp [UInt8.toNat_ofNat']; omega
    simp only [List.nil_append, Lib.parseUintM, e]
    rw [if_pos (by omega), if_neg (by omega), if_neg (by omega)]
    congr 1
    omega
  | c :: r, acc, v, d, h, h1, h2, h3 => by
    simp only [List.cons_append, Lib.parseUintM] at h ⊢
    split at h
    · rename_i hc
      rw [if_pos hc]
      split at h
      · cases h
      · rename_i hb
        rw [if_neg hb]
        split at h
        · cases h
        · rename_i hm
          rw [if_neg hm]
          exact parseM_app M r _ v d h h1 h2 h3
    · cases h

theorem parseM_dec (M : Nat) (u : Nat) (h : u ≤ M) (hM : M ≤ 18446744073709551615) : Lib.parseUintM M 0 (Lib.decDigits u) = .ok u := by
  induction u using Nat.strongRecOn with
  | _ u ih =>
    rw [Lib.decDigits]
    split
    · rename_i hu
      have e : (UInt8.ofNat (48 + u)).toNat = 48 + u := by simp [UInt8.toNat_ofNat']; omega
      simp only [Lib.parseUintM, e]
      rw [if_pos (by omega), if_neg (by omega), if_neg (by omega)]
      congr 1
      omega
    · rename_i hu
      have := parseM_app M (Lib.decDigits (u / 10)) 0 (u / 10) (u % 10) (ih (u / 10) (by omega) (by omega)) (by omega) (by omega) (by omega)
      rw [this]
      congr 1
      omega

theorem parse_itoa {v : Int} (h : I64 v) : Lib.parseIntB 64 (Lib.itoa v) = .ok v := by
  obtain ⟨h1, h2⟩ := h
  unfold Lib.itoa
  have hd := parseM_dec (2 ^ 64 - 1) v.natAbs (by omega) (by decide)
  have hn := dec_ne v.natAbs
  split
  · rename_i hv
    have hu : Lib.parseUintB 64 (Lib.decDigits v.natAbs) = .ok v.natAbs := by
      unfold Lib.parseUintB
      rw [if_neg hn, hd]
    simp only [Lib.parseIntB, show (45 : UInt8).toNat = 45 from rfl, or_true, if_true, hu]
    rw [if_neg (by simp), if_neg (by simp; omega)]
    congr 1
    omega
  · rename_i hv
    have e : v.toNat = v.natAbs := by omega
    rw [e]
    have hu : Lib.parseUintB 64 (Lib.decDigits v.natAbs) = .ok v.natAbs := by
      unfold Lib.parseUintB
      rw [if_neg hn, hd]
    cases hc : Lib.decDigits v.natAbs with
    | nil => exact absurd hc hn
    | cons c r =>
      have hcd := dec_digit v.natAbs c (by rw [hc]; simp)
      rw [hc] at hu
      have n43 : ¬ (c.toNat = 43 ∨ c.toNat = 45) := by omega
      have n45 : ¬ (c.toNat = 45) := by omega
      have n43' : ¬ (c.toNat = 43) := by omega
      simp only [Lib.parseIntB, n43', n45, if_false, or_false, false_or]
      rw [hu]
      simp only
      rw [if_neg (by simp; omega), if_neg (by simp)]
      congr 1
      omega

theorem itoa_chars (v : Int) : ∀ c ∈ Lib.itoa v, c = 45 ∨ (48 ≤ c.toNat ∧ c.toNat ≤ 57) := by
  unfold Lib.itoa
  intro c hc
  split at hc
  · rcases List.mem_cons.1 hc with hc | hc
    · exact .inl hc
    · exact .inr (dec_digit _ c hc)
  · exact .inr (dec_digit _ c hc)

theorem itoa_not {v : Int} {c : UInt8} (h : c ≠ 45) (h2 : ¬ (48 ≤ c.toNat ∧ c.toNat ≤ 57)) : c ∉ Lib.itoa v := fun hc => by
  rcases itoa_chars v c hc with e | e
  · exact h e
  · exact h2 e

theorem itoa_no32 (v : Int) : 32 ∉ Lib.itoa v := itoa_not (by decide) (by decide)

theorem itoa_no10 (v : Int) : 10 ∉ Lib.itoa v := itoa_not (by decide) (by decide)

theorem numP_itoa {v : Int} (h : I64 v) : numP (Lib.itoa v) = (v, true) := by
  unfold numP
  rw [parse_itoa h]
  simp

theorem parse_fits {s : List UInt8} {v : Int} (h : Lib.parseIntB 64 s = .ok v) : I64 v := itoa_fits h

theorem numP_right {s : List UInt8} (h : (numP s).2 = true) : s = Lib.itoa (numP s).1 ∧ I64 (numP s).1 := by
  unfold numP at h ⊢
  cases hp : Lib.parseIntB 64 s with
  | ok v =>
    rw [hp] at h
    simp only at h ⊢
    have e := of_decide_eq_true h
    exact ⟨e.symm, parse_fits hp⟩
  | range => rw [hp] at h; simp at h
  | _ => rw [hp] at h; simp at h

theorem numP_fits (s : List UInt8) : I64 (numP s).1 := by
  unfold numP
  cases hp : Lib.parseIntB 64 s with
  | ok v => exact parse_fits hp
  | range =>
    simp only [Lib.intSat]
    split <;> (constructor <;> decide)
  | _ => show I64 0; constructor <;> decide

theorem num_read {v : Int} {r : List UInt8} (b : Bool) (h : I64 v) (hr : Edge r) : (Ln.mk (32 :: (Lib.itoa v ++ r)) b).num = v ∧ (Ln.mk (32 :: (Lib.itoa v ++ r)) b).numd = ⟨r, b⟩ := by
  obtain ⟨h1, h2⟩ := word_read b (itoa_no32 v) hr
  unfold Ln.num Ln.numd
  rw [h1, h2, numP_itoa h]
  simp [Ln.want]

theorem want_right {l : Ln} {b : Bool} (h : (l.want b).wrong = false) : l.wrong = false ∧ b = true := by
  unfold Ln.want at h
  simpa using h

theorem numd_right {l : Ln} (h : l.numd.wrong = false) : l.wrong = false ∧ l.rest = 32 :: (Lib.itoa l.num ++ l.numd.rest) ∧ I64 l.num ∧ Edge l.numd.rest := by
  obtain ⟨h1, h2⟩ := want_right h
  obtain ⟨a1, a2, a3, a4⟩ := past_right h1
  obtain ⟨e, hi⟩ := numP_right h2
  refine ⟨a1, ?_, hi, a4⟩
  show l.rest = 32 :: (Lib.itoa (numP l.word).1 ++ l.past.rest)
  rw [← e]
  exact a2

/-- A text in quotes is read. -/
theorem takeW_app {p : UInt8 → Bool} {a r : List UInt8} (h : ∀ c ∈ a, p c = true) : (a ++ r).takeWhile p = a ++ r.takeWhile p ∧ (a ++ r).dropWhile p = r.dropWhile p := by
  induction a with
  | nil => simp
  | cons c a ih =>
    have hc := h c (by simp)
    obtain ⟨i1, i2⟩ := ih (fun x hx => h x (by simp [hx]))
    simp only [List.cons_append, List.takeWhile, List.dropWhile, hc]
    exact ⟨by rw [i1], i2⟩

theorem esc_cases (c : UInt8) : (esc c = [c] ∧ plainQ c = true ∧ c ≠ 10) ∨ ∃ e, esc c = [92, e] ∧ (e = 110 ∨ e = 34 ∨ e = 92) ∧ escV (e :: []) = c := by
  unfold esc
  by_cases h1 : c = 34
  · subst h1; right; exact ⟨34, rfl, .inr (.inl rfl), rfl⟩
  · by_cases h2 : c = 92
    · subst h2; right; exact ⟨92, rfl, .inr (.inr rfl), rfl⟩
    · by_cases h3 : c = 10
      · subst h3; right; exact ⟨110, rfl, .inl rfl, rfl⟩
      · left
        simp [h1, h2, h3, plainQ]

theorem escd_read {e : UInt8} {r : List UInt8} (b : Bool) (h : e = 110 ∨ e = 34 ∨ e = 92) : (Ln.mk (e :: r) b).escd = ⟨r, b⟩ := by
  rcases h with rfl | rfl | rfl <;> simp [Ln.escd, Ln.want]

theorem txtP_read (r : List UInt8) (b : Bool) : ∀ (t : List UInt8) (n : Nat) (pre acc : List UInt8), t.length < n → (∀ c ∈ pre, plainQ c = true) → txtP n ⟨pre ++ (t.flatMap esc ++ 34 :: r), b⟩ acc = (acc ++ pre ++ t, ⟨r, b⟩)
  | [], n, pre, acc, hn, hp => by
    obtain ⟨n, rfl⟩ : ∃ m, n = m + 1 := ⟨n - 1, by simp at hn; omega⟩
    obtain ⟨h1, h2⟩ := takeW_app (r := 34 :: r) hp
    unfold txtP
    simp only [List.flatMap_nil, List.nil_append]
    rw [h1, h2]
    simp [plainQ]
  | c :: t, n, pre, acc, hn, hp => by
    rcases esc_cases c with ⟨e, hq, _⟩ | ⟨e, he, h3, hv⟩
    · have := txtP_read r b t n (pre ++ [c]) acc (by simp at hn; omega) (fun x hx => by
        rcases List.mem_append.1 hx with hx | hx
        · exact hp x hx
        · simp only [List.mem_cons, List.not_mem_nil, or_false] at hx; subst hx; exact hq)
      rw [List.flatMap_cons, e]
      simpa using this
    · obtain ⟨n, rfl⟩ : ∃ m, n = m + 1 := ⟨n - 1, by simp at hn; omega⟩
      rw [List.flatMap_cons, he]
      obtain ⟨h1, h2⟩ := takeW_app (p := plainQ) (r := 92 :: e :: (t.flatMap esc ++ 34 :: r)) hp
      have e2 : pre ++ ([92, e] ++ t.flatMap esc ++ 34 :: r) = pre ++ 92 :: e :: (t.flatMap esc ++ 34 :: r) := by simp
      rw [e2]
      unfold txtP
      simp only
      rw [h1, h2]
      have q : plainQ 92 = false := rfl
      simp only [List.dropWhile, List.takeWhile, q]
      rw [if_neg (by decide), escd_read b h3]
      have := txtP_read r b t n [] (acc ++ (pre ++ []) ++ [escV (e :: (t.flatMap esc ++ 34 :: r))]) (by simp at hn; omega) (by simp)
      rw [List.nil_append] at this
      rw [this]
      have hv' : escV (e :: (t.flatMap esc ++ 34 :: r)) = c := by rw [← hv]; rfl
      rw [hv']
      simp

theorem text_read (t r : List UInt8) (b : Bool) : (Ln.mk (32 :: (quo t ++ r)) b).text = (t, ⟨r, b⟩) := by
  have e : (Ln.mk (32 :: (quo t ++ r)) b).eat [32, 34] = ⟨t.flatMap esc ++ 34 :: r, b⟩ := by
    simp [Ln.eat, Lib.hasPrefix, quo]
  unfold Ln.text
  rw [e]
  have hl : t.length ≤ (t.flatMap esc).length := by
    induction t with
    | nil => simp
    | cons c t ih =>
      have : 1 ≤ (esc c).length := by rcases esc_cases c with ⟨e, _⟩ | ⟨e, he, _⟩ <;> simp [*]
      have e' : (Ln.mk (32 :: (quo t ++ r)) b).eat [32, 34] = ⟨t.flatMap esc ++ 34 :: r, b⟩ := by simp [Ln.eat, Lib.hasPrefix, quo]
      have := ih e'
      simp only [List.flatMap_cons, List.length_append, List.length_cons]
      omega
  have := txtP_read r b t ((t.flatMap esc ++ 34 :: r).length + 1) [] [] (by rw [List.length_append]; omega) (by simp)
  simpa using this

theorem plain_esc {a : List UInt8} (h : ∀ c ∈ a, plainQ c = true) (h10 : 10 ∉ a) : a.flatMap esc = a := by
  induction a with
  | nil => rfl
  | cons c a ih =>
    simp only [List.mem_cons, not_or] at h10
    have hc := h c (by simp)
    have e : esc c = [c] := by
      unfold plainQ at hc
      simp only [Bool.and_eq_true, bne_iff_ne, ne_eq] at hc
      unfold esc
      rw [if_neg (by simp [hc.1, hc.2]), if_neg (Ne.symm h10.1)]
    rw [List.flatMap_cons, e, ih (fun x hx => h x (by simp [hx])) h10.2]
    rfl

theorem mem_takeW {p : UInt8 → Bool} {l : List UInt8} : ∀ c ∈ l.takeWhile p, p c = true := by
  induction l with
  | nil => simp
  | cons d l ih =>
    intro c hc
    by_cases hd : p d = true
    · simp only [List.takeWhile, hd, List.mem_cons] at hc
      rcases hc with rfl | hc
      · exact hd
      · exact ih c hc
    · simp only [Bool.not_eq_true] at hd
      simp [List.takeWhile, hd] at hc

theorem dropW_head {p : UInt8 → Bool} {l t : List UInt8} {c : UInt8} (h : l.dropWhile p = c :: t) : p c = false := by
  induction l with
  | nil => simp at h
  | cons d l ih =>
    by_cases hd : p d = true
    · simp only [List.dropWhile, hd] at h
      exact ih h
    · simp only [Bool.not_eq_true] at hd
      simp only [List.dropWhile, hd] at h
      cases h
      exact hd

theorem escd_right {t : List UInt8} {b : Bool} (h : (Ln.mk t b).escd.wrong = false) : b = false ∧ ∃ e r, t = e :: r ∧ (Ln.mk t b).escd.rest = r ∧ esc (escV t) = [92, e] := by
  cases t with
  | nil => simp [Ln.escd] at h
  | cons e r =>
    by_cases h1 : e = 110
    · subst h1
      simp [Ln.escd] at h
      exact ⟨h, 110, r, rfl, by simp [Ln.escd], by simp [escV, esc]⟩
    · simp [Ln.escd, h1, Ln.want] at h
      refine ⟨h.1, e, r, rfl, by simp [Ln.escd, h1, Ln.want], ?_⟩
      simp only [escV, h1, if_false, esc]
      rw [if_pos (by by_cases h34 : e = 34; exact .inl h34; exact .inr (h.2 h34))]

theorem txtP_right : ∀ (n : Nat) (l : Ln) (acc : List UInt8), 10 ∉ l.rest → (txtP n l acc).2.wrong = false → l.wrong = false ∧ ∃ t, (txtP n l acc).1 = acc ++ t ∧ l.rest = t.flatMap esc ++ 34 :: (txtP n l acc).2.rest
  | 0, l, acc, h10, h => by simp [txtP] at h
  | n + 1, l, acc, h10, h => by
    have hta := List.takeWhile_append_dropWhile (p := plainQ) (l := l.rest)
    have hpl : (l.rest.takeWhile plainQ).flatMap esc = l.rest.takeWhile plainQ := plain_esc mem_takeW (fun hc => h10 (by rw [← hta]; exact List.mem_append_left _ hc))
    unfold txtP at h ⊢
    cases hd : l.rest.dropWhile plainQ with
    | nil => rw [hd] at h; simp at h
    | cons c t =>
      rw [hd] at h hta
      simp only at h ⊢
      have hq := dropW_head hd
      by_cases h34 : c = 34
      · rw [if_pos h34] at h ⊢
        subst h34
        exact ⟨h, _, rfl, by rw [hpl]; exact hta.symm⟩
      · rw [if_neg h34] at h ⊢
        have h92 : c = 92 := by
          unfold plainQ at hq
          simp at hq
          exact hq h34
        subst h92
        have h10t : 10 ∉ t := fun hc => h10 (by rw [← hta]; simp [hc])
        have hle : 10 ∉ (Ln.mk t l.wrong).escd.rest := by
          cases t with
          | nil => simp [Ln.escd]
          | cons e r =>
            simp only [List.mem_cons, not_or] at h10t
            by_cases h1 : e = 110
            · simp [Ln.escd, h1, h10t.2]
            · simp [Ln.escd, h1, Ln.want, h10t.2]
        obtain ⟨i1, t', i2, i3⟩ := txtP_right n _ _ hle h
        obtain ⟨hb, e, r, rfl, hr, he⟩ := escd_right i1
        refine ⟨hb, l.rest.takeWhile plainQ ++ (escV (e :: r) :: t'), by rw [i2]; simp, ?_⟩
        rw [hr] at i3
        obtain ⟨Z, hZ⟩ : ∃ Z, (txtP n (Ln.mk (e :: r) l.wrong).escd (acc ++ List.takeWhile plainQ l.rest ++ [escV (e :: r)])).2.rest = Z := ⟨_, rfl⟩
        rw [hZ] at i3 ⊢
        rw [List.flatMap_append, hpl, List.flatMap_cons, he]
        simp only [List.cons_append, List.nil_append, List.append_assoc]
        rw [← i3]
        exact hta.symm

theorem text_right {l : Ln} (h10 : 10 ∉ l.rest) (h : l.text.2.wrong = false) : l.wrong = false ∧ l.rest = 32 :: (quo l.text.1 ++ l.text.2.rest) := by
  unfold Ln.text at h ⊢
  have h10e : 10 ∉ (l.eat [32, 34]).rest := by
    unfold Ln.eat
    split
    · exact fun hc => h10 (List.mem_of_mem_drop hc)
    · exact h10
  obtain ⟨h1, t, h2, h3⟩ := txtP_right _ _ _ h10e h
  rw [List.nil_append] at h2
  rw [h2]
  have e : l.wrong = false ∧ l.rest = 32 :: 34 :: (l.eat [32, 34]).rest := by
    unfold Ln.eat at h1 ⊢
    split at h1
    · rename_i hp
      rw [if_pos hp]
      refine ⟨h1, ?_⟩
      unfold Lib.hasPrefix at hp
      obtain ⟨r, hr⟩ := List.isPrefixOf_iff_prefix.1 hp
      rw [← hr]
      simp
    · simp at h1
  refine ⟨e.1, ?_⟩
  generalize (txtP ((l.eat [32, 34]).rest.length + 1) (l.eat [32, 34]) []).2.rest = Z at h3 ⊢
  rw [e.2, h3]
  simp [quo]

theorem Edge.more (ts : List Th) : Edge (Lk.more ts) := by
  cases ts with
  | nil => exact .inl rfl
  | cons t r => exact .inr ⟨_, rfl⟩

theorem say_wd (a : List UInt8) : (wd a).say = a := rfl

theorem say_nm (n : Int) : (nm n).say = Lib.itoa n := rfl

theorem say_lo (n : Int) : (lo n).say = Lib.itoa n := rfl

theorem say_tx (a : List UInt8) : (tx a).say = quo a := rfl

/-- What is left of a line that tells numbers alone. -/
theorem num_more {v : Int} (ts : List Th) (h : I64 v) : (Ln.mk (Lk.more (nm v :: ts)) false).num = v ∧ (Ln.mk (Lk.more (nm v :: ts)) false).numd = ⟨Lk.more ts, false⟩ :=
  num_read false h (Edge.more ts)

theorem lo_more {v : Int} (ts : List Th) (h : I64 v) : (Ln.mk (Lk.more (lo v :: ts)) false).num = v ∧ (Ln.mk (Lk.more (lo v :: ts)) false).numd = ⟨Lk.more ts, false⟩ :=
  num_read false h (Edge.more ts)

theorem text_more (a : List UInt8) (ts : List Th) : (Ln.mk (Lk.more (tx a :: ts)) false).text = (a, ⟨Lk.more ts, false⟩) := text_read a (Lk.more ts) false

theorem word_more {a : List UInt8} (ts : List Th) (h : 32 ∉ a) : (Ln.mk (Lk.more (wd a :: ts)) false).word = a ∧ (Ln.mk (Lk.more (wd a :: ts)) false).past = ⟨Lk.more ts, false⟩ :=
  word_read false h (Edge.more ts)

theorem first_said {a : List UInt8} (t : Th) (ts : List Th) (ht : t.say = a) (h : 32 ∉ a) : (lineOf (said (t :: ts))).first = a ∧ (lineOf (said (t :: ts))).behind = ⟨Lk.more ts, false⟩ := by
  have e : said (t :: ts) = a ++ Lk.more ts := by rw [← ht]; rfl
  rw [e]
  exact first_read false h (Edge.more ts)

/-- A line that adds to the last function. -/
structure Adds (text : List UInt8) (r : Nat) (g : Fm → Fm) : Prop where
  row : rowP (lineOf text).first = r
  add : ∀ t, addP t r (lineOf text).first (lineOf text).behind = (g t, ⟨[], false⟩)

theorem takeP_adds {text : List UInt8} {r last : Nat} {g : Fm → Fm} (h : Adds text r g) (h2 : 2 ≤ r) (h1 : 1 ≤ last) (hl : last ≤ r) (init : List Fm) (t : Fm) : takeP (init ++ [t]) last text = some (init ++ [g t], r, true) := by
  unfold takeP
  rw [h.row]
  have hf : followP r last = true := by unfold followP; simp; right; omega
  rw [if_neg (by rw [hf]; simp), if_neg (by omega), h.add noFm, lastP_snoc, h.add t]
  rfl

theorem adds_cap {c : Cp} (h : I64 c.n) : Adds (said (capT c)) 2 (fun t => { t with caps := more 4096 t.caps c }) := by
  obtain ⟨u, n⟩ := c
  obtain ⟨n1, n2⟩ := num_more [] h
  cases u with
  | true =>
    obtain ⟨f1, f2⟩ := first_said (a := [117, 112]) (wd [117, 112]) [nm n] rfl (by decide)
    have e : capT ⟨true, n⟩ = [wd [117, 112], nm n] := rfl
    rw [e]
    refine ⟨by rw [f1]; decide, fun t => ?_⟩
    rw [f1, f2]
    unfold addP
    rw [if_pos rfl, n1, n2, bs_toList]
    rfl
  | false =>
    obtain ⟨f1, f2⟩ := first_said (a := [99, 97, 112]) (wd [99, 97, 112]) [nm n] rfl (by decide)
    have e : capT ⟨false, n⟩ = [wd [99, 97, 112], nm n] := rfl
    rw [e]
    refine ⟨by rw [f1]; decide, fun t => ?_⟩
    rw [f1, f2]
    unfold addP
    rw [if_pos rfl, n1, n2, bs_toList]
    rfl

theorem adds_con {c : Ck} (h : I64 c.n) (hk : (c.k = 2 ∧ c.s.size = 0) ∨ (c.k = 3 ∧ c.n = 0)) : Adds (said (conT c)) 3 (fun t => { t with consts := more 16384 t.consts c }) := by
  obtain ⟨k, n, s⟩ := c
  rcases hk with ⟨hk, hs⟩ | ⟨hk, hn⟩
  · simp only at hk hs
    subst hk
    have e0 : s = ⟨#[]⟩ := by
      obtain ⟨a⟩ := s
      have : a.size = 0 := hs
      congr 1
      exact Array.eq_empty_of_size_eq_zero this
    subst e0
    obtain ⟨n1, n2⟩ := lo_more [] h
    obtain ⟨f1, f2⟩ := first_said (a := [105, 110, 116]) (wd [105, 110, 116]) [lo n] rfl (by decide)
    have e : conT ⟨2, n, ⟨#[]⟩⟩ = [wd [105, 110, 116], lo n] := rfl
    rw [e]
    refine ⟨by rw [f1]; decide, fun t => ?_⟩
    rw [f1, f2]
    unfold addP Ln.conV Ln.cond
    rw [if_neg (by decide), if_pos rfl, if_pos rfl, if_pos rfl, n1, n2]
    rfl
  · simp only at hk hn
    subst hk hn
    have n1 := text_more s.data.toList []
    obtain ⟨f1, f2⟩ := first_said (a := [116, 101, 120, 116]) (wd [116, 101, 120, 116]) [tx s.data.toList] rfl (by decide)
    have e : conT ⟨3, 0, s⟩ = [wd [116, 101, 120, 116], tx s.data.toList] := rfl
    rw [e]
    refine ⟨by rw [f1]; decide, fun t => ?_⟩
    rw [f1, f2]
    unfold addP Ln.conV Ln.cond
    rw [if_neg (by decide), if_pos rfl, if_neg (by decide), if_neg (by decide), n1, bs_of]
    rfl

theorem itoa_row (v : Int) : rowP (Lib.itoa v) = 4 := by
  have key : ∀ a : List UInt8, (∃ c ∈ a, c ≠ 45 ∧ ¬ (48 ≤ c.toNat ∧ c.toNat ≤ 57)) → Lib.itoa v ≠ a := fun a ⟨c, hc, h1, h2⟩ e => itoa_not h1 h2 (e ▸ hc)
  unfold rowP
  rw [if_neg (key _ ⟨102, by simp, by decide, by decide⟩), if_neg (fun h => h.elim (key _ ⟨99, by simp, by decide, by decide⟩) (key _ ⟨117, by simp, by decide, by decide⟩)),
    if_neg (fun h => h.elim (key _ ⟨105, by simp, by decide, by decide⟩) (key _ ⟨116, by simp, by decide, by decide⟩)), if_neg (key _ ⟨99, by simp, by decide, by decide⟩)]

theorem ops_find : ∀ j : Fin 31, j.val ≠ 0 → findW opsL (opsL.getD j.val []) = j.val ∧ 32 ∉ opsL.getD j.val [] := by decide

theorem bins_find : ∀ j : Fin 10, j.val ≠ 0 → findW binsL (binsL.getD j.val []) = j.val ∧ 32 ∉ binsL.getD j.val [] := by decide

/-- An instruction that can be told and read. -/
structure InsR (i : In) : Prop where
  op : 0 < i.op ∧ i.op < 31
  num : I64 i.a
  bin : i.op = 14 → 1 ≤ i.a ∧ i.a ≤ 9
  none : numb i.op = false → i.op ≠ 14 → i.a = 0

theorem adds_ins {ln : Int} {i : In} (hl : I64 ln) (h0 : 0 ≤ ln) (h : InsR i) : Adds (said (insT ln i)) 4 (fun t => { t with lines := more 16384 t.lines ln, code := more 16384 t.code i }) := by
  obtain ⟨o, a⟩ := i
  obtain ⟨⟨o1, o2⟩, hn, hb, hz⟩ := h
  simp only at o1 o2 hn hb hz
  obtain ⟨w1, w2⟩ := ops_find ⟨o, o2⟩ (by simp; omega)
  simp only at w1 w2
  have hrow := itoa_row ln
  have hnum := numP_itoa hl
  unfold insT
  by_cases h14 : o = 14
  · subst h14
    obtain ⟨b1, b2⟩ := hb rfl
    obtain ⟨m, rfl⟩ : ∃ m : Nat, a = m := ⟨a.toNat, by omega⟩
    obtain ⟨v1, v2⟩ := bins_find ⟨m, by omega⟩ (by simp; omega)
    simp only at v1 v2
    rw [if_pos rfl]
    obtain ⟨f1, f2⟩ := first_said (nm ln) [wd (opsL.getD 14 []), wd (binsL.getD m [])] (say_nm ln) (itoa_no32 ln)
    obtain ⟨p1, p2⟩ := word_more [wd (binsL.getD m [])] w2
    obtain ⟨q1, q2⟩ := word_more [] v2
    refine ⟨by simp only [Int.toNat_natCast]; rw [f1, hrow], fun t => ?_⟩
    simp only [Int.toNat_natCast]
    rw [f1, f2]
    unfold addP Ln.lined
    rw [if_neg (by decide), if_neg (by decide), if_pos rfl, hnum]
    have hw : (Ln.mk (Lk.more [wd (opsL.getD 14 []), wd (binsL.getD m [])]) false).want (true && decide (0 ≤ ln)) = ⟨Lk.more [wd (opsL.getD 14 []), wd (binsL.getD m [])], false⟩ := by
      simp [Ln.want, h0]
    simp only [hw]
    have hop : (Ln.mk (Lk.more [wd (opsL.getD 14 []), wd (binsL.getD m [])]) false).opV = 14 := by unfold Ln.opV; rw [p1, w1]
    have hod : (Ln.mk (Lk.more [wd (opsL.getD 14 []), wd (binsL.getD m [])]) false).opd = ⟨Lk.more [wd (binsL.getD m [])], false⟩ := by unfold Ln.opd; rw [hop, p2]; rfl
    have hm : (m ≠ 0) := by omega
    have hv : (Ln.mk (Lk.more [wd (opsL.getD 14 []), wd (binsL.getD m [])]) false).insV = ⟨14, m⟩ := by
      unfold Ln.insV; rw [if_pos hop, hod, q1, v1]
    have hd : (Ln.mk (Lk.more [wd (opsL.getD 14 []), wd (binsL.getD m [])]) false).insd = ⟨[], false⟩ := by
      unfold Ln.insd; rw [if_pos hop, hod, q1, q2, v1]; simp [Ln.want, hm, Lk.more]
    rw [hv, hd]
  · rw [if_neg h14]
    by_cases hnb : numb o = true
    · rw [if_pos hnb]
      obtain ⟨f1, f2⟩ := first_said (nm ln) [wd (opsL.getD o []), nm a] (say_nm ln) (itoa_no32 ln)
      obtain ⟨p1, p2⟩ := word_more [nm a] w2
      obtain ⟨q1, q2⟩ := num_more [] hn
      refine ⟨by rw [f1, hrow], fun t => ?_⟩
      rw [f1, f2]
      unfold addP Ln.lined
      rw [if_neg (by decide), if_neg (by decide), if_pos rfl, hnum]
      have hw : (Ln.mk (Lk.more [wd (opsL.getD o []), nm a]) false).want (true && decide (0 ≤ ln)) = ⟨Lk.more [wd (opsL.getD o []), nm a], false⟩ := by
        simp [Ln.want, h0]
      simp only [hw]
      have hop : (Ln.mk (Lk.more [wd (opsL.getD o []), nm a]) false).opV = o := by unfold Ln.opV; rw [p1, w1]
      have hod : (Ln.mk (Lk.more [wd (opsL.getD o []), nm a]) false).opd = ⟨Lk.more [nm a], false⟩ := by
        unfold Ln.opd; rw [hop, p2]
        have : o ≠ 0 := by omega
        simp [Ln.want, this]
      have hv : (Ln.mk (Lk.more [wd (opsL.getD o []), nm a]) false).insV = ⟨o, a⟩ := by
        unfold Ln.insV; rw [if_neg (by rw [hop]; exact h14), if_pos (by rw [hop]; exact hnb), hod, q1, hop]
      have hd : (Ln.mk (Lk.more [wd (opsL.getD o []), nm a]) false).insd = ⟨[], false⟩ := by
        unfold Ln.insd; rw [if_neg (by rw [hop]; exact h14), if_pos (by rw [hop]; exact hnb), hod, q2]; rfl
      rw [hv, hd]
    · rw [if_neg hnb]
      have ha := hz (by simpa using hnb) h14
      subst ha
      obtain ⟨f1, f2⟩ := first_said (nm ln) [wd (opsL.getD o [])] (say_nm ln) (itoa_no32 ln)
      obtain ⟨p1, p2⟩ := word_more [] w2
      refine ⟨by rw [f1, hrow], fun t => ?_⟩
      rw [f1, f2]
      unfold addP Ln.lined
      rw [if_neg (by decide), if_neg (by decide), if_pos rfl, hnum]
      have hw : (Ln.mk (Lk.more [wd (opsL.getD o [])]) false).want (true && decide (0 ≤ ln)) = ⟨Lk.more [wd (opsL.getD o [])], false⟩ := by
        simp [Ln.want, h0]
      simp only [hw]
      have hop : (Ln.mk (Lk.more [wd (opsL.getD o [])]) false).opV = o := by unfold Ln.opV; rw [p1, w1]
      have hod : (Ln.mk (Lk.more [wd (opsL.getD o [])]) false).opd = ⟨Lk.more [], false⟩ := by
        unfold Ln.opd; rw [hop, p2]
        have : o ≠ 0 := by omega
        simp [Ln.want, this]
      have hv : (Ln.mk (Lk.more [wd (opsL.getD o [])]) false).insV = ⟨o, 0⟩ := by
        unfold Ln.insV; rw [if_neg (by rw [hop]; exact h14), if_neg (by rw [hop]; exact hnb), hop]
      have hd : (Ln.mk (Lk.more [wd (opsL.getD o [])]) false).insd = ⟨[], false⟩ := by
        unfold Ln.insd; rw [if_neg (by rw [hop]; exact h14), if_neg (by rw [hop]; exact hnb), hod]; rfl
      rw [hv, hd]

theorem adds_han {x : Hn} (h1 : I64 x.fr) (h2 : I64 x.to) (h3 : I64 x.at_) (h4 : I64 x.deep) : Adds (said (hanT x)) 5 (fun t => { t with hs := more 16384 t.hs x }) := by
  obtain ⟨a, b, c, d⟩ := x
  obtain ⟨f1, f2⟩ := first_said (a := [99, 97, 116, 99, 104]) (wd [99, 97, 116, 99, 104]) [nm a, nm b, nm c, nm d] rfl (by decide)
  obtain ⟨p1, p2⟩ := num_more [nm b, nm c, nm d] h1
  obtain ⟨q1, q2⟩ := num_more [nm c, nm d] h2
  obtain ⟨r1, r2⟩ := num_more [nm d] h3
  obtain ⟨s1, s2⟩ := num_more [] h4
  have e : hanT ⟨a, b, c, d⟩ = [wd [99, 97, 116, 99, 104], nm a, nm b, nm c, nm d] := rfl
  rw [e]
  refine ⟨by rw [f1]; decide, fun t => ?_⟩
  rw [f1, f2]
  unfold addP Ln.hanV Ln.hand
  rw [if_neg (by decide), if_neg (by decide), if_neg (by decide), p1, p2, q1, q2, r1, r2, s1, s2]
  rfl

/-- A function of its first line alone. -/
def headF (f : Fm) : Fm := ⟨f.name, f.params, f.locals, [], [], [], [], []⟩

theorem takeP_head (fs : List Fm) (last : Nat) {f : Fm} (h1 : I64 f.params) (h2 : I64 f.locals) : takeP fs last (said (headT f)) = some (more 256 fs (headF f), 1, true) := by
  obtain ⟨f1, f2⟩ := first_said (a := [102, 110]) (wd [102, 110]) [tx f.name.data.toList, nm f.params, nm f.locals] rfl (by decide)
  have t1 := text_more f.name.data.toList [nm f.params, nm f.locals]
  obtain ⟨q1, q2⟩ := num_more [nm f.locals] h1
  obtain ⟨r1, r2⟩ := num_more [] h2
  have e : headT f = [wd [102, 110], tx f.name.data.toList, nm f.params, nm f.locals] := rfl
  have hr : rowP [102, 110] = 1 := by decide
  have hf : followP 1 last = true := by simp [followP]
  rw [e]
  unfold takeP
  rw [f1, f2, hr, hf, if_neg (by decide), if_pos rfl]
  unfold Ln.headd
  rw [t1]
  simp only
  rw [q1, q2, r1, r2, bs_of]
  rfl

end Lp

end Go.Proofs.YtnekcomkochmjaaGreatDoor

namespace Go.Proofs.YtnekcomkochmjaaGreatDoor
set_option linter.unusedVariables false
set_option linter.unusedSimpArgs false

namespace Lp
open Lk

/-- Lines are taken, one behind the other, all of them right. -/
def takes : List (List UInt8) → List Fm → Nat → Option (List Fm × Nat)
  | [], fs, last => some (fs, last)
  | x :: r, fs, last => match takeP fs last x with
    | some (fs', last', true) => takes r fs' last'
    | _ => none

theorem takes_cons {x : List UInt8} {fs fs1 : List Fm} {last l1 : Nat} (h : takeP fs last x = some (fs1, l1, true)) (r : List (List UInt8)) : takes (x :: r) fs last = takes r fs1 l1 := by
  show (match takeP fs last x with
    | some (fs', last', true) => takes r fs' last'
    | _ => none) = _
  rw [h]

theorem takes_app {b : List (List UInt8)} : ∀ {a : List (List UInt8)} {fs f1 : List Fm} {last l1 : Nat}, takes a fs last = some (f1, l1) → takes (a ++ b) fs last = takes b f1 l1
  | [], fs, f1, last, l1, h => by
    simp only [takes, Option.some.injEq, Prod.mk.injEq] at h
    obtain ⟨rfl, rfl⟩ := h
    rfl
  | x :: r, fs, f1, last, l1, h => by
    rw [List.cons_append]
    unfold takes at h
    split at h
    · rename_i fs' last' he
      rw [takes_cons he]
      exact takes_app h
    · cases h

theorem more_small {α : Type} {lim : Nat} {l : List α} (h : l.length ≤ lim) (x : α) : more lim l x = l ++ [x] := by unfold more; rw [if_pos h]

theorem takes_caps : ∀ (cs : List Cp) (init : List Fm) (t : Fm) (last : Nat), (∀ c ∈ cs, I64 c.n) → t.caps.length + cs.length ≤ 4097 → 1 ≤ last → last ≤ 2 →
    ∃ l', takes (cs.map fun c => said (capT c)) (init ++ [t]) last = some (init ++ [{ t with caps := t.caps ++ cs }], l') ∧ 1 ≤ l' ∧ l' ≤ 2
  | [], init, t, last, h, hn, h1, h2 => ⟨last, by simp [takes], h1, h2⟩
  | c :: cs, init, t, last, h, hn, h1, h2 => by
    have hs := takeP_adds (adds_cap (h c (by simp))) (by decide) h1 h2 init t
    simp only [List.length_cons] at hn
    rw [more_small (lim := 4096) (l := t.caps) (by omega)] at hs
    obtain ⟨l', e, e1, e2⟩ := takes_caps cs init { t with caps := t.caps ++ [c] } 2 (fun x hx => h x (by simp [hx])) (by simp; omega) (by decide) (by decide)
    refine ⟨l', ?_, e1, e2⟩
    rw [List.map_cons, takes_cons hs, e]
    simp

theorem takes_consts : ∀ (cs : List Ck) (init : List Fm) (t : Fm) (last : Nat), (∀ c ∈ cs, I64 c.n ∧ ((c.k = 2 ∧ c.s.size = 0) ∨ (c.k = 3 ∧ c.n = 0))) → t.consts.length + cs.length ≤ 16385 → 1 ≤ last → last ≤ 3 →
    ∃ l', takes (cs.map fun c => said (conT c)) (init ++ [t]) last = some (init ++ [{ t with consts := t.consts ++ cs }], l') ∧ 1 ≤ l' ∧ l' ≤ 3
  | [], init, t, last, h, hn, h1, h2 => ⟨last, by simp [takes], h1, h2⟩
  | c :: cs, init, t, last, h, hn, h1, h2 => by
    have hs := takeP_adds (adds_con (h c (by simp)).1 (h c (by simp)).2) (by decide) h1 h2 init t
    simp only [List.length_cons] at hn
    rw [more_small (lim := 16384) (l := t.consts) (by omega)] at hs
    obtain ⟨l', e, e1, e2⟩ := takes_consts cs init { t with consts := t.consts ++ [c] } 3 (fun x hx => h x (by simp [hx])) (by simp; omega) (by decide) (by decide)
    refine ⟨l', ?_, e1, e2⟩
    rw [List.map_cons, takes_cons hs, e]
    simp

theorem takes_hs : ∀ (cs : List Hn) (init : List Fm) (t : Fm) (last : Nat), (∀ c ∈ cs, I64 c.fr ∧ I64 c.to ∧ I64 c.at_ ∧ I64 c.deep) → t.hs.length + cs.length ≤ 16385 → 1 ≤ last → last ≤ 5 →
    ∃ l', takes (cs.map fun c => said (hanT c)) (init ++ [t]) last = some (init ++ [{ t with hs := t.hs ++ cs }], l') ∧ 1 ≤ l' ∧ l' ≤ 5
  | [], init, t, last, h, hn, h1, h2 => ⟨last, by simp [takes], h1, h2⟩
  | c :: cs, init, t, last, h, hn, h1, h2 => by
    have hs := takeP_adds (adds_han (h c (by simp)).1 (h c (by simp)).2.1 (h c (by simp)).2.2.1 (h c (by simp)).2.2.2) (by decide) h1 h2 init t
    simp only [List.length_cons] at hn
    rw [more_small (lim := 16384) (l := t.hs) (by omega)] at hs
    obtain ⟨l', e, e1, e2⟩ := takes_hs cs init { t with hs := t.hs ++ [c] } 5 (fun x hx => h x (by simp [hx])) (by simp; omega) (by decide) (by decide)
    refine ⟨l', ?_, e1, e2⟩
    rw [List.map_cons, takes_cons hs, e]
    simp

theorem takes_code : ∀ (cs : List (Int × In)) (init : List Fm) (t : Fm) (last : Nat), (∀ c ∈ cs, I64 c.1 ∧ 0 ≤ c.1 ∧ InsR c.2) → t.code.length + cs.length ≤ 16385 → t.lines.length = t.code.length → 1 ≤ last → last ≤ 4 →
    ∃ l', takes (cs.map fun c => said (insT c.1 c.2)) (init ++ [t]) last = some (init ++ [{ t with lines := t.lines ++ cs.map (·.1), code := t.code ++ cs.map (·.2) }], l') ∧ 1 ≤ l' ∧ l' ≤ 4
  | [], init, t, last, h, hn, hll, h1, h2 => ⟨last, by simp [takes], h1, h2⟩
  | c :: cs, init, t, last, h, hn, hll, h1, h2 => by
    have hs := takeP_adds (adds_ins (h c (by simp)).1 (h c (by simp)).2.1 (h c (by simp)).2.2) (by decide) h1 h2 init t
    simp only [List.length_cons] at hn
    rw [more_small (lim := 16384) (l := t.lines) (by omega)] at hs
    rw [more_small (lim := 16384) (l := t.code) (by omega)] at hs
    obtain ⟨l', e, e1, e2⟩ := takes_code cs init { t with lines := t.lines ++ [c.1], code := t.code ++ [c.2] } 4 (fun x hx => h x (by simp [hx])) (by simp; omega) (by simp [hll]) (by decide) (by decide)
    refine ⟨l', ?_, e1, e2⟩
    rw [List.map_cons, takes_cons hs, e]
    simp

/-- A function that can be told and read back. -/
structure FnR (f : Fm) : Prop where
  params : I64 f.params
  locals : I64 f.locals
  caps : ∀ c ∈ f.caps, I64 c.n
  consts : ∀ c ∈ f.consts, I64 c.n ∧ ((c.k = 2 ∧ c.s.size = 0) ∨ (c.k = 3 ∧ c.n = 0))
  code : ∀ i ∈ f.code, InsR i
  lines : ∀ n ∈ f.lines, I64 n ∧ 0 ≤ n
  hs : ∀ h ∈ f.hs, I64 h.fr ∧ I64 h.to ∧ I64 h.at_ ∧ I64 h.deep
  same : f.lines.length = f.code.length
  ncaps : f.caps.length ≤ 4096
  nconsts : f.consts.length ≤ 16384
  ncode : f.code.length ≤ 16384
  nhs : f.hs.length ≤ 16384

theorem takes_fn {fs : List Fm} (last : Nat) {f : Fm} (h : FnR f) (hn : fs.length ≤ 256) : ∃ l', takes ((fnT f).map said) fs last = some (fs ++ [f], l') := by
  have h0 := takeP_head fs last h.params h.locals
  rw [more_small hn] at h0
  obtain ⟨l1, e1, a1, b1⟩ := takes_caps f.caps fs (headF f) 1 h.caps (by have := h.ncaps; simp [headF]; omega) (by decide) (by decide)
  obtain ⟨l2, e2, a2, b2⟩ := takes_consts f.consts fs { headF f with caps := (headF f).caps ++ f.caps } l1 h.consts (by have := h.nconsts; simp [headF]; omega) a1 (by omega)
  obtain ⟨l3, e3, a3, b3⟩ := takes_code (f.lines.zip f.code) fs { headF f with caps := (headF f).caps ++ f.caps, consts := (headF f).consts ++ f.consts } l2
    (fun c hc => ⟨(h.lines c.1 (List.of_mem_zip hc).1).1, (h.lines c.1 (List.of_mem_zip hc).1).2, h.code c.2 (List.of_mem_zip hc).2⟩) (by have := h.ncode; simp [headF]; omega) rfl a2 (by omega)
  obtain ⟨l4, e4, a4, b4⟩ := takes_hs f.hs fs { headF f with caps := (headF f).caps ++ f.caps, consts := (headF f).consts ++ f.consts, lines := (headF f).lines ++ (f.lines.zip f.code).map (·.1), code := (headF f).code ++ (f.lines.zip f.code).map (·.2) } l3 h.hs (by have := h.nhs; simp [headF]; omega) a3 (by omega)
  refine ⟨l4, ?_⟩
  have e : (fnT f).map said = said (headT f) :: (f.caps.map (fun c => said (capT c)) ++ (f.consts.map (fun c => said (conT c)) ++ ((f.lines.zip f.code).map (fun c => said (insT c.1 c.2)) ++ f.hs.map (fun c => said (hanT c))))) := by
    simp [fnT, Function.comp_def]
  have z1 : (f.lines.zip f.code).map (·.1) = f.lines := List.map_fst_zip (by rw [h.same]; exact Nat.le_refl _)
  have z2 : (f.lines.zip f.code).map (·.2) = f.code := List.map_snd_zip (by rw [h.same]; exact Nat.le_refl _)
  rw [e, takes_cons h0, takes_app e1, takes_app e2, takes_app e3, e4, z1, z2]
  rfl

theorem takes_all : ∀ (fs pre : List Fm) (last : Nat), (∀ f ∈ fs, FnR f) → pre.length + fs.length ≤ 257 → ∃ l', takes ((fs.flatMap fnT).map said) pre last = some (pre ++ fs, l')
  | [], pre, last, h, hn => ⟨last, by simp [takes]⟩
  | f :: fs, pre, last, h, hn => by
    simp only [List.length_cons] at hn
    obtain ⟨l1, e1⟩ := takes_fn last (h f (by simp)) (fs := pre) (by omega)
    obtain ⟨l2, e2⟩ := takes_all fs (pre ++ [f]) l1 (fun x hx => h x (by simp [hx])) (by simp; omega)
    refine ⟨l2, ?_⟩
    rw [List.flatMap_cons, List.map_append, takes_app e1, e2]
    simp

/-- No line of a function's has a line's end in it. -/
theorem say_no10 {t : Th} (h : t.k = 0 → 10 ∉ t.l) : 10 ∉ t.say := by
  unfold Th.say
  split
  · rename_i hk; exact h hk
  · split
    · unfold quo
      intro hc
      simp only [List.mem_cons, List.mem_append, List.mem_flatMap, List.not_mem_nil, or_false] at hc
      rcases hc with hc | ⟨c, _, hc⟩ | hc
      · exact absurd hc (by decide)
      · unfold esc at hc
        split at hc
        · rename_i h2
          simp only [List.mem_cons, List.not_mem_nil, or_false] at hc
          rcases hc with hc | hc
          · exact absurd hc (by decide)
          · subst hc; exact absurd h2 (by decide)
        · split at hc
          · exact absurd hc (by decide)
          · rename_i h3
            simp only [List.mem_cons, List.not_mem_nil, or_false] at hc
            exact h3 hc.symm
      · exact absurd hc (by decide)
    · exact itoa_no10 _

theorem more_no10 : ∀ {l : List Th}, (∀ t ∈ l, t.k = 0 → 10 ∉ t.l) → 10 ∉ Lk.more l
  | [], _ => by simp [Lk.more]
  | t :: r, h => by
    simp only [Lk.more, List.mem_cons, List.mem_append, not_or]
    exact ⟨by decide, say_no10 (h t (by simp)), more_no10 (fun x hx => h x (by simp [hx]))⟩

theorem said_no10 : ∀ {l : List Th}, (∀ t ∈ l, t.k = 0 → 10 ∉ t.l) → 10 ∉ said l
  | [], _ => by simp [said]
  | t :: r, h => by
    simp only [said, List.mem_append, not_or]
    exact ⟨say_no10 (h t (by simp)), more_no10 (fun x hx => h x (by simp [hx]))⟩

theorem ops_no10 (j : Nat) : 10 ∉ opsL.getD j [] := by
  have key : ∀ x ∈ opsL, 10 ∉ x := by decide
  rw [List.getD_eq_getElem?_getD]
  cases h : opsL[j]? with
  | none => simp
  | some x => exact key x (List.mem_of_getElem? h)

theorem bins_no10 (j : Nat) : 10 ∉ binsL.getD j [] := by
  have key : ∀ x ∈ binsL, 10 ∉ x := by decide
  rw [List.getD_eq_getElem?_getD]
  cases h : binsL[j]? with
  | none => simp
  | some x => exact key x (List.mem_of_getElem? h)

theorem fn_no10 (f : Fm) : ∀ x ∈ fnT f, 10 ∉ said x := by
  intro x hx
  refine said_no10 ?_
  simp only [fnT, List.mem_cons, List.mem_append, List.mem_map] at hx
  rcases hx with rfl | ⟨c, _, rfl⟩ | ⟨c, _, rfl⟩ | ⟨c, _, rfl⟩ | ⟨c, _, rfl⟩
  · intro t ht; simp only [headT, List.mem_cons, List.not_mem_nil, or_false] at ht
    rcases ht with rfl | rfl | rfl | rfl <;> simp [wd, tx, nm]
  · intro t ht; simp only [capT, List.mem_cons, List.not_mem_nil, or_false] at ht
    rcases ht with rfl | rfl
    · cases c.up <;> simp [wd]
    · simp [nm]
  · unfold conT
    split
    · intro t ht; simp only [List.mem_cons, List.not_mem_nil, or_false] at ht
      rcases ht with rfl | rfl <;> simp [wd, lo]
    · intro t ht; simp only [List.mem_cons, List.not_mem_nil, or_false] at ht
      rcases ht with rfl | rfl <;> simp [wd, tx]
  · unfold insT
    split
    · intro t ht; simp only [List.mem_cons, List.not_mem_nil, or_false] at ht
      rcases ht with rfl | rfl | rfl
      · simp [nm]
      · exact fun _ => ops_no10 _
      · exact fun _ => bins_no10 _
    · split
      · intro t ht; simp only [List.mem_cons, List.not_mem_nil, or_false] at ht
        rcases ht with rfl | rfl | rfl
        · simp [nm]
        · exact fun _ => ops_no10 _
        · simp [nm]
      · intro t ht; simp only [List.mem_cons, List.not_mem_nil, or_false] at ht
        rcases ht with rfl | rfl
        · simp [nm]
        · exact fun _ => ops_no10 _
  · intro t ht; simp only [hanT, List.mem_cons, List.not_mem_nil, or_false] at ht
    rcases ht with rfl | rfl | rfl | rfl | rfl <;> simp [wd, nm]

theorem right_parts {l : Ln} (h : l.right = true) : l.rest = [] ∧ l.wrong = false := by
  unfold Ln.right at h
  simpa using h

theorem row_one {s : List UInt8} (h : rowP s = 1) : s = [102, 110] := by
  unfold rowP at h
  split at h
  · assumption
  · split at h
    · simp at h
    · split at h
      · simp at h
      · split at h <;> simp at h

theorem row_two {s : List UInt8} (h : rowP s = 2) : s = [99, 97, 112] ∨ s = [117, 112] := by
  unfold rowP at h
  split at h
  · simp at h
  · split at h
    · assumption
    · split at h
      · simp at h
      · split at h <;> simp at h

theorem row_three {s : List UInt8} (h : rowP s = 3) : s = [105, 110, 116] ∨ s = [116, 101, 120, 116] := by
  unfold rowP at h
  split at h
  · simp at h
  · split at h
    · simp at h
    · split at h
      · assumption
      · split at h <;> simp at h

theorem row_five {s : List UInt8} (h : rowP s = 5) : s = [99, 97, 116, 99, 104] := by
  unfold rowP at h
  split at h
  · simp at h
  · split at h
    · simp at h
    · split at h
      · simp at h
      · split at h
        · assumption
        · simp at h

theorem findW_ne {L : List (List UInt8)} {s : List UInt8} (h : findW L s ≠ 0) : L.getD (findW L s) [] = s := by
  unfold findW at h ⊢
  cases hf : L.findIdx? (fun x => decide (x = s)) with
  | none => rw [hf] at h; simp at h
  | some j =>
    rw [List.findIdx?_eq_some_iff_getElem] at hf
    obtain ⟨hj, e, _⟩ := hf
    simp only [Option.getD_some]
    rw [List.getD_eq_getElem?_getD, List.getElem?_eq_getElem hj]
    simpa using e

theorem line_parts (text : List UInt8) : text = (lineOf text).first ++ (lineOf text).behind.rest ∧ (lineOf text).behind.wrong = false := ⟨(first_right (lineOf text)).1, rfl⟩

theorem behind_no10 {text : List UInt8} (h : 10 ∉ text) : 10 ∉ (lineOf text).behind.rest := fun hc => h (by rw [(line_parts text).1]; exact List.mem_append_right _ hc)

/-- What a line that was taken rightly is. -/
def HeadLine (fs fs' : List Fm) (text : List UInt8) : Prop := ∃ g : Fm, fs' = more 256 fs (headF g) ∧ text = said (headT g) ∧ I64 g.params ∧ I64 g.locals

def CapLine (t : Fm) (text : List UInt8) (t' : Fm) : Prop := ∃ c : Cp, text = said (capT c) ∧ I64 c.n ∧ t' = { t with caps := more 4096 t.caps c }

def ConLine (t : Fm) (text : List UInt8) (t' : Fm) : Prop := ∃ c : Ck, text = said (conT c) ∧ I64 c.n ∧ (c.k = 2 ∨ c.k = 3) ∧ t' = { t with consts := more 16384 t.consts c }

def InsLine (t : Fm) (text : List UInt8) (t' : Fm) : Prop := ∃ (ln : Int) (i : In), text = said (insT ln i) ∧ I64 ln ∧ I64 i.a ∧ t' = { t with lines := more 16384 t.lines ln, code := more 16384 t.code i }

def HanLine (t : Fm) (text : List UInt8) (t' : Fm) : Prop := ∃ x : Hn, text = said (hanT x) ∧ (I64 x.fr ∧ I64 x.to ∧ I64 x.at_ ∧ I64 x.deep) ∧ t' = { t with hs := more 16384 t.hs x }

theorem head_right {text : List UInt8} (h10 : 10 ∉ text) (hr : rowP (lineOf text).first = 1) (h : (lineOf text).behind.headd.right = true) :
    text = said (headT ⟨bs (lineOf text).behind.text.1, (lineOf text).behind.text.2.num, (lineOf text).behind.text.2.numd.num, [], [], [], [], []⟩) ∧ I64 (lineOf text).behind.text.2.num ∧ I64 (lineOf text).behind.text.2.numd.num := by
  obtain ⟨r1, r2⟩ := right_parts h
  obtain ⟨a1, a2, a3, a4⟩ := numd_right r2
  obtain ⟨b1, b2, b3, b4⟩ := numd_right a1
  obtain ⟨c1, c2⟩ := text_right (behind_no10 h10) b1
  obtain ⟨l1, _⟩ := line_parts text
  refine ⟨?_, b3, a3⟩
  have e : (lineOf text).behind.text.2.numd.numd.rest = [] := r1
  rw [e] at a2
  rw [a2] at b2
  rw [b2] at c2
  rw [c2, row_one hr] at l1
  rw [← bs_list (lineOf text).behind.text.1] at l1
  exact l1

theorem cap_right {t : Fm} {text : List UInt8} (hr : rowP (lineOf text).first = 2) (h : (addP noFm 2 (lineOf text).first (lineOf text).behind).2.right = true) : CapLine t text (addP t 2 (lineOf text).first (lineOf text).behind).1 := by
  unfold addP at h ⊢
  rw [if_pos rfl] at h ⊢
  obtain ⟨r1, r2⟩ := right_parts h
  obtain ⟨a1, a2, a3, a4⟩ := numd_right r2
  obtain ⟨l1, _⟩ := line_parts text
  simp only at r1
  rw [r1] at a2
  rw [a2] at l1
  refine ⟨_, ?_, a3, rfl⟩
  rw [bs_toList]
  rcases row_two hr with e | e
  · rw [e] at l1 ⊢; exact l1
  · rw [e] at l1 ⊢; exact l1

theorem con_right {t : Fm} {text : List UInt8} (h10 : 10 ∉ text) (hr : rowP (lineOf text).first = 3) (h : (addP noFm 3 (lineOf text).first (lineOf text).behind).2.right = true) : ConLine t text (addP t 3 (lineOf text).first (lineOf text).behind).1 := by
  unfold addP at h ⊢
  rw [if_neg (by decide), if_pos rfl] at h ⊢
  obtain ⟨r1, r2⟩ := right_parts h
  simp only at r1 r2
  obtain ⟨l1, _⟩ := line_parts text
  unfold Ln.cond at r1 r2
  refine ⟨_, ?_, ?_, ?_, rfl⟩
  all_goals unfold Ln.conV
  all_goals rcases row_three hr with e | e
  all_goals rw [e] at r1 r2 l1 ⊢
  · rw [if_pos rfl] at r1 r2 ⊢
    obtain ⟨a1, a2, a3, a4⟩ := numd_right r2
    rw [r1] at a2
    rw [a2] at l1
    exact l1
  · rw [if_neg (by decide)] at r1 r2 ⊢
    obtain ⟨c1, c2⟩ := text_right (behind_no10 h10) r2
    rw [r1] at c2
    rw [c2, ← bs_list (lineOf text).behind.text.1] at l1
    exact l1
  · rw [if_pos rfl] at r1 r2 ⊢
    obtain ⟨a1, a2, a3, a4⟩ := numd_right r2
    exact a3
  · rw [if_neg (by decide)]
    show I64 0
    constructor <;> decide
  · rw [if_pos rfl]; exact .inl rfl
  · rw [if_neg (by decide)]; exact .inr rfl

theorem ins_right {t : Fm} {text : List UInt8} (hr : rowP (lineOf text).first = 4) (h : (addP noFm 4 (lineOf text).first (lineOf text).behind).2.right = true) : InsLine t text (addP t 4 (lineOf text).first (lineOf text).behind).1 := by
  unfold addP at h ⊢
  rw [if_neg (by decide), if_neg (by decide), if_pos rfl] at h ⊢
  obtain ⟨r1, r2⟩ := right_parts h
  simp only at r1 r2
  obtain ⟨l1, _⟩ := line_parts text
  generalize hl : (lineOf text).behind.lined (lineOf text).first = l at r1 r2 ⊢
  have hw : (lineOf text).behind.rest = l.rest := by rw [← hl]; rfl
  have hopd : l.opd.wrong = false := by
    unfold Ln.insd at r2
    split at r2
    · exact (past_right (want_right r2).1).1
    · split at r2
      · exact (numd_right r2).1
      · exact r2
  unfold Ln.opd at hopd
  obtain ⟨o1, o2⟩ := want_right hopd
  obtain ⟨p1, p2, p3, p4⟩ := past_right o1
  have hne : l.opV ≠ 0 := of_decide_eq_true o2
  have hword : opsL.getD l.opV [] = l.word := findW_ne hne
  rw [← hl] at p1
  obtain ⟨q1, q2⟩ := want_right p1
  simp only [Bool.and_eq_true, decide_eq_true_eq] at q2
  obtain ⟨n1, n2⟩ := numP_right q2.1
  rw [hw, p2] at l1
  refine ⟨_, _, ?_, n2, ?_, rfl⟩
  · unfold Ln.insV
    unfold Ln.insd at r1 r2
    by_cases h14 : l.opV = 14
    · rw [if_pos h14] at r1 r2 ⊢
      obtain ⟨s1, s2⟩ := want_right r2
      obtain ⟨t1, t2, t3, t4⟩ := past_right s1
      have hb : findW binsL l.opd.word ≠ 0 := of_decide_eq_true s2
      have hbw := findW_ne hb
      have r1' : l.opd.past.rest = [] := r1
      have hopr : l.opd.rest = l.past.rest := rfl
      rw [r1', List.append_nil, hopr] at t2
      unfold insT
      rw [if_pos rfl]
      simp only [Int.toNat_natCast]
      rw [hbw]
      rw [h14] at hword
      rw [hword]
      rw [t2, n1] at l1
      refine l1.trans ?_
      simp [said, Lk.more, wd, nm, Th.say]
    · rw [if_neg h14] at r1 r2 ⊢
      by_cases hnb : numb l.opV = true
      · rw [if_pos hnb] at r1 r2 ⊢
        obtain ⟨t1, t2, t3, t4⟩ := numd_right r2
        rw [r1, List.append_nil] at t2
        have hopr : l.opd.rest = l.past.rest := rfl
        rw [hopr] at t2
        unfold insT
        rw [if_neg h14, if_pos hnb]
        simp only
        rw [hword]
        rw [t2, n1] at l1
        refine l1.trans ?_
        simp [said, Lk.more, wd, nm, Th.say]
      · rw [if_neg hnb] at r1 r2 ⊢
        have hopr : l.opd.rest = l.past.rest := rfl
        rw [hopr] at r1
        unfold insT
        rw [if_neg h14, if_neg hnb]
        simp only
        rw [hword]
        rw [r1, n1] at l1
        refine l1.trans ?_
        simp [said, Lk.more, wd, nm, Th.say]
  · unfold Ln.insV
    unfold Ln.insd at r1 r2
    by_cases h14 : l.opV = 14
    · rw [if_pos h14]
      have := findW_lt binsL l.opd.word (by decide)
      have e : binsL.length = 10 := rfl
      constructor <;> simp only <;> omega
    · rw [if_neg h14] at r1 r2 ⊢
      by_cases hnb : numb l.opV = true
      · rw [if_pos hnb] at r1 r2 ⊢
        exact (numd_right r2).2.2.1
      · rw [if_neg hnb]; show I64 0; constructor <;> decide

set_option maxHeartbeats 2000000 in
theorem han_right {t : Fm} {text : List UInt8} (hr : rowP (lineOf text).first = 5) (h : (addP noFm 5 (lineOf text).first (lineOf text).behind).2.right = true) : HanLine t text (addP t 5 (lineOf text).first (lineOf text).behind).1 := by
  unfold addP at h ⊢
  rw [if_neg (by decide), if_neg (by decide), if_neg (by decide)] at h ⊢
  obtain ⟨r1, r2⟩ := right_parts h
  simp only at r1 r2
  unfold Ln.hand at r1 r2
  obtain ⟨l1, _⟩ := line_parts text
  obtain ⟨a1, a2, a3, a4⟩ := numd_right r2
  obtain ⟨b1, b2, b3, b4⟩ := numd_right a1
  obtain ⟨c1, c2, c3, c4⟩ := numd_right b1
  obtain ⟨d1, d2, d3, d4⟩ := numd_right c1
  rw [r1] at a2
  rw [a2] at b2
  rw [b2] at c2
  rw [c2] at d2
  rw [d2, row_five hr] at l1
  refine ⟨(lineOf text).behind.hanV, ?_, ?_, rfl⟩
  · unfold Ln.hanV
    exact l1
  · unfold Ln.hanV
    exact ⟨d3, c3, b3, a3⟩

/-- A line that was taken rightly: which it is, and what it adds. -/
theorem take_right {fs fs' : List Fm} {last r : Nat} {text : List UInt8} (h : takeP fs last text = some (fs', r, true)) (h10 : 10 ∉ text) (hs : last ≠ 0 → fs ≠ []) :
    (r = 1 ∧ HeadLine fs fs' text) ∨ ∃ init t t', fs = init ++ [t] ∧ fs' = init ++ [t'] ∧ 1 ≤ last ∧ last ≤ r ∧ ((r = 2 ∧ CapLine t text t') ∨ (r = 3 ∧ ConLine t text t') ∨ (r = 4 ∧ InsLine t text t') ∨ (r = 5 ∧ HanLine t text t')) := by
  unfold takeP at h
  split at h
  · cases h
  · rename_i hf
    have hfl : followP (rowP (lineOf text).first) last = true := by simpa using hf
    split at h
    · rename_i hr
      simp only [Option.some.injEq, Prod.mk.injEq] at h
      obtain ⟨rfl, rfl, h3⟩ := h
      obtain ⟨e, i1, i2⟩ := head_right h10 hr h3
      exact .inl ⟨rfl, ⟨bs (lineOf text).behind.text.1, (lineOf text).behind.text.2.num, (lineOf text).behind.text.2.numd.num, [], [], [], [], []⟩, rfl, e, i1, i2⟩
    · rename_i hr
      simp only [Option.some.injEq, Prod.mk.injEq] at h
      obtain ⟨rfl, rfl, h3⟩ := h
      right
      have hl : 1 ≤ last ∧ last ≤ rowP (lineOf text).first := by
        unfold followP at hfl
        simp [hr] at hfl
        omega
      have hne := hs (by omega)
      obtain ⟨init, t, rfl⟩ : ∃ init t, fs = init ++ [t] := ⟨fs.dropLast, fs.getLast hne, (List.dropLast_concat_getLast hne).symm⟩
      have hle := rowP_le (lineOf text).first
      refine ⟨init, t, _, rfl, lastP_snoc _ _ _, hl.1, hl.2, ?_⟩
      rcases (show rowP (lineOf text).first = 2 ∨ rowP (lineOf text).first = 3 ∨ rowP (lineOf text).first = 4 ∨ rowP (lineOf text).first = 5 by omega) with e | e | e | e
      · rw [e] at h3 ⊢; exact .inl ⟨rfl, cap_right e h3⟩
      · rw [e] at h3 ⊢; exact .inr (.inl ⟨rfl, con_right h10 e h3⟩)
      · rw [e] at h3 ⊢; exact .inr (.inr (.inl ⟨rfl, ins_right e h3⟩))
      · rw [e] at h3 ⊢; exact .inr (.inr (.inr ⟨rfl, han_right e h3⟩))

end Lp

end Go.Proofs.YtnekcomkochmjaaGreatDoor

namespace Go.Proofs.YtnekcomkochmjaaGreatDoor
set_option linter.unusedVariables false
set_option linter.unusedSimpArgs false

namespace Lp
open Lk

theorem index_at10 {x : List UInt8} (r : List UInt8) (h : 10 ∉ x) : Lib.index (x ++ 10 :: r) [10] = x.length := by
  induction x with
  | nil => simp [Lib.index]
  | cons c x ih =>
    simp only [List.mem_cons, not_or] at h
    have h1 : ¬ ((10 : UInt8) = c) := h.1
    have := ih h.2
    simp only [List.cons_append, Lib.index, List.length_cons, this]
    simp [h1]

theorem index_no10 {x : List UInt8} (h : 10 ∉ x) : Lib.index x [10] = -1 := by
  induction x with
  | nil => rfl
  | cons c x ih =>
    simp only [List.mem_cons, not_or] at h
    have h1 : ¬ ((10 : UInt8) = c) := h.1
    simp [Lib.index, ih h.2, h1]

theorem cut_at {x : List UInt8} (r : List UInt8) (h : 10 ∉ x) : Lib.cut (x ++ 10 :: r) [10] = (x, r, true) := by
  unfold Lib.cut
  rw [index_at10 r h, if_pos (by omega)]
  simp

theorem cut_none {x : List UInt8} (h : 10 ∉ x) : Lib.cut x [10] = (x, [], false) := by
  unfold Lib.cut
  rw [index_no10 h, if_neg (by decide)]

theorem ten_split (s : List UInt8) : 10 ∉ s ∨ ∃ x r, s = x ++ 10 :: r ∧ 10 ∉ x := by
  induction s with
  | nil => left; simp
  | cons c s ih =>
    by_cases hc : c = 10
    · subst hc; right; exact ⟨[], s, rfl, by simp⟩
    · rcases ih with h | ⟨x, r, rfl, h⟩
      · left; simp [h, Ne.symm hc]
      · right; exact ⟨c :: x, r, rfl, by simp [h, Ne.symm hc]⟩

/-- Lines, each with its end. -/
def linesP (ls : List (List UInt8)) : List UInt8 := ls.flatMap (· ++ [10])

theorem linesP_cons (x : List UInt8) (ls : List (List UInt8)) : linesP (x :: ls) = x ++ 10 :: linesP ls := by simp [linesP]

theorem parse_step {x : List UInt8} {fs f1 : List Fm} {last l1 k : Nat} (n : Nat) (r : List UInt8) (hx : 10 ∉ x) (he : takeP fs last x = some (f1, l1, true)) : parseP (n + 1) (x ++ 10 :: r) fs last k = parseP n r f1 l1 (k + 1) := by
  conv => lhs; unfold parseP
  rw [if_neg (by simp), cut_at _ hx]
  simp only
  rw [if_neg (by decide), he]
  rfl

theorem parse_lines (tail : List UInt8) : ∀ (ls : List (List UInt8)) (n : Nat) (fs fs' : List Fm) (last l' k : Nat), takes ls fs last = some (fs', l') → (∀ x ∈ ls, 10 ∉ x) →
    parseP (ls.length + n) (linesP ls ++ tail) fs last k = parseP n tail fs' l' (k + ls.length)
  | [], n, fs, fs', last, l', k, h, _ => by
    simp only [takes, Option.some.injEq, Prod.mk.injEq] at h
    obtain ⟨rfl, rfl⟩ := h
    simp [linesP]
  | x :: ls, n, fs, fs', last, l', k, h, h10 => by
    have hx := h10 x (by simp)
    have e : linesP (x :: ls) ++ tail = x ++ 10 :: (linesP ls ++ tail) := by rw [linesP_cons]; simp
    rw [e, show (x :: ls).length + n = (ls.length + n) + 1 by simp; omega]
    unfold takes at h
    split at h
    · rename_i f1 l1 he
      rw [parse_step _ _ hx he, parse_lines tail ls n f1 fs' l1 l' (k + 1) h (fun y hy => h10 y (by simp [hy]))]
      rw [List.length_cons, show k + 1 + ls.length = k + (ls.length + 1) by omega]
    · cases h

theorem parse_end (n : Nat) (fs : List Fm) (last k : Nat) : parseP (n + 1) [] fs last k = (fs, k, true) := by
  unfold parseP
  rw [if_pos rfl]

theorem parse_tail {t : List UInt8} (n : Nat) (h : t ≠ []) (h10 : 10 ∉ t) (fs : List Fm) (last k : Nat) : parseP (n + 1) t fs last k = (fs, k, false) := by
  unfold parseP
  rw [if_neg h, cut_none h10, if_pos rfl]

/-- What was read rightly is lines. -/
theorem parse_right : ∀ (n : Nat) (s : List UInt8) (fs fs' : List Fm) (last k k' : Nat), parseP n s fs last k = (fs', k', true) →
    ∃ ls l', s = linesP ls ∧ (∀ x ∈ ls, 10 ∉ x) ∧ takes ls fs last = some (fs', l') ∧ k' = k + ls.length
  | 0, s, fs, fs', last, k, k', h => by simp [parseP] at h
  | n + 1, s, fs, fs', last, k, k', h => by
    unfold parseP at h
    split at h
    · rename_i hs
      simp only [Prod.mk.injEq, and_true] at h
      obtain ⟨rfl, rfl⟩ := h
      subst hs
      exact ⟨[], last, rfl, by simp, rfl, rfl⟩
    · rcases ten_split s with h10 | ⟨x, r, rfl, hx⟩
      · rw [cut_none h10, if_pos rfl] at h
        simp at h
      · rw [cut_at _ hx] at h
        simp only at h
        rw [if_neg (by decide)] at h
        split at h
        · simp at h
        · rename_i f1 l1 ok he
          split at h
          · rename_i hok
            obtain ⟨ls, l', rfl, h1, h2, h3⟩ := parse_right n r f1 fs' l1 (k + 1) k' h
            subst hok
            refine ⟨x :: ls, l', by rw [linesP_cons], fun y hy => ?_, by rw [takes_cons he]; exact h2, by rw [h3, List.length_cons]; omega⟩
            rcases List.mem_cons.1 hy with rfl | hy
            · exact hx
            · exact h1 y hy
          · simp at h

theorem parse_count : ∀ (n : Nat) (s : List UInt8) (fs : List Fm) (last k : Nat), (parseP n s fs last k).2.1 ≤ k + s.length
  | 0, s, fs, last, k => by simp [parseP]
  | n + 1, s, fs, last, k => by
    unfold parseP
    split
    · simp
    · rcases ten_split s with h10 | ⟨x, r, rfl, hx⟩
      · rw [cut_none h10, if_pos rfl]; simp
      · rw [cut_at _ hx]
        simp only
        rw [if_neg (by decide)]
        split
        · simp
        · rename_i f1 l1 ok he
          split
          · have := parse_count n r f1 l1 (k + 1)
            simp; omega
          · simp

/-- A program that is too great. -/
def Over (fs : List Fm) : Prop := 256 < fs.length ∨ ∃ f ∈ fs, 4096 < f.caps.length ∨ 16384 < f.consts.length ∨ 16384 < f.code.length ∨ 16384 < f.hs.length

/-- What has been read. -/
structure St (fs : List Fm) (last : Nat) : Prop where
  num : ∀ f ∈ fs, NumF f
  same : ∀ f ∈ fs, f.lines.length = f.code.length
  got : last ≠ 0 → fs ≠ []

/-- The last function has nothing yet of the rows behind the last line's. -/
def Ord (fs : List Fm) (last : Nat) : Prop := ∀ init t, fs = init ++ [t] → (last ≤ 1 → t.caps = []) ∧ (last ≤ 2 → t.consts = []) ∧ (last ≤ 3 → t.code = []) ∧ (last ≤ 4 → t.hs = [])

theorem more_or {α : Type} (lim : Nat) (l : List α) (x : α) : more lim l x = l ++ [x] ∨ (lim < l.length ∧ more lim l x = l) := by
  unfold more
  split
  · exact .inl rfl
  · exact .inr ⟨by omega, rfl⟩

theorem mem_more {α : Type} {lim : Nat} {l : List α} {x y : α} (h : y ∈ more lim l x) : y ∈ l ∨ y = x := by
  rcases more_or lim l x with e | ⟨_, e⟩
  · rw [e] at h; simpa using h
  · rw [e] at h; exact .inl h

theorem more_ge {α : Type} (lim : Nat) (l : List α) (x : α) : l.length ≤ (more lim l x).length := by
  rcases more_or lim l x with e | ⟨_, e⟩ <;> rw [e] <;> simp

def saidF (fs : List Fm) : List (List UInt8) := (fs.flatMap fnT).map said

theorem saidF_snoc (init : List Fm) (t : Fm) : saidF (init ++ [t]) = saidF init ++ (fnT t).map said := by simp [saidF]

theorem Over.last {init : List Fm} {t t' : Fm} (h : Over (init ++ [t])) (hm : (4096 < t.caps.length → 4096 < t'.caps.length) ∧ (16384 < t.consts.length → 16384 < t'.consts.length) ∧ (16384 < t.code.length → 16384 < t'.code.length) ∧ (16384 < t.hs.length → 16384 < t'.hs.length)) : Over (init ++ [t']) := by
  rcases h with h | ⟨f, hf, h⟩
  · left; simpa using h
  · rcases List.mem_append.1 hf with hf | hf
    · exact .inr ⟨f, by simp [hf], h⟩
    · simp only [List.mem_cons, List.not_mem_nil, or_false] at hf
      subst hf
      refine .inr ⟨t', by simp, ?_⟩
      rcases h with h | h | h | h
      · exact .inl (hm.1 h)
      · exact .inr (.inl (hm.2.1 h))
      · exact .inr (.inr (.inl (hm.2.2.1 h)))
      · exact .inr (.inr (.inr (hm.2.2.2 h)))

theorem St.last {init : List Fm} {t t' : Fm} {last r : Nat} (h : St (init ++ [t]) last) (hn : NumF t') (hs : t'.lines.length = t'.code.length) : St (init ++ [t']) r := by
  refine ⟨fun f hf => ?_, fun f hf => ?_, fun _ => by simp⟩
  · rcases List.mem_append.1 hf with hf | hf
    · exact h.num f (by simp [hf])
    · simp only [List.mem_cons, List.not_mem_nil, or_false] at hf; subst hf; exact hn
  · rcases List.mem_append.1 hf with hf | hf
    · exact h.same f (by simp [hf])
    · simp only [List.mem_cons, List.not_mem_nil, or_false] at hf; subst hf; exact hs

theorem more_same {lim : Nat} {a : List Int} {b : List In} (h : a.length = b.length) (x : Int) (y : In) : (more lim a x).length = (more lim b y).length := by
  unfold more
  rw [h]
  split
  · simp [h]
  · exact h

theorem St.step {fs fs' : List Fm} {last r : Nat} {x : List UInt8} (h : St fs last) (ht : takeP fs last x = some (fs', r, true)) (h10 : 10 ∉ x) : St fs' r ∧ (Over fs → Over fs') := by
  rcases take_right ht h10 h.got with ⟨rfl, g, rfl, rfl, i1, i2⟩ | ⟨init, t, t', rfl, rfl, l1, l2, hk⟩
  · have hg : NumF (headF g) := ⟨i1, i2, by simp [headF], by simp [headF], by simp [headF], by simp [headF], by simp [headF]⟩
    rcases more_or 256 fs (headF g) with e | ⟨hlt, e⟩
    · rw [e]
      refine ⟨⟨fun f hf => ?_, fun f hf => ?_, fun _ => by simp⟩, fun ho => ?_⟩
      · rcases List.mem_append.1 hf with hf | hf
        · exact h.num f hf
        · simp only [List.mem_cons, List.not_mem_nil, or_false] at hf; subst hf; exact hg
      · rcases List.mem_append.1 hf with hf | hf
        · exact h.same f hf
        · simp only [List.mem_cons, List.not_mem_nil, or_false] at hf; subst hf; rfl
      · rcases ho with ho | ⟨f, hf, ho⟩
        · left; simp; omega
        · exact .inr ⟨f, by simp [hf], ho⟩
    · rw [e]
      exact ⟨⟨h.num, h.same, fun _ e => by rw [e] at hlt; simp at hlt⟩, id⟩
  · have hn := h.num t (by simp)
    have hsm := h.same t (by simp)
    rcases hk with ⟨rfl, c, rfl, hc, rfl⟩ | ⟨rfl, c, rfl, hc, hck, rfl⟩ | ⟨rfl, ln, i, rfl, hc, hi, rfl⟩ | ⟨rfl, c, rfl, hc, rfl⟩
    · exact ⟨h.last ⟨hn.params, hn.locals, fun y hy => (mem_more hy).elim (hn.caps y) (fun e => e ▸ hc), hn.consts, hn.code, hn.lines, hn.hs⟩ hsm, fun ho => ho.last ⟨fun h => Nat.lt_of_lt_of_le h (more_ge _ _ _), id, id, id⟩⟩
    · exact ⟨h.last ⟨hn.params, hn.locals, hn.caps, fun y hy => (mem_more hy).elim (hn.consts y) (fun e => e ▸ hc), hn.code, hn.lines, hn.hs⟩ hsm, fun ho => ho.last ⟨id, fun h => Nat.lt_of_lt_of_le h (more_ge _ _ _), id, id⟩⟩
    · exact ⟨h.last ⟨hn.params, hn.locals, hn.caps, hn.consts, fun y hy => (mem_more hy).elim (hn.code y) (fun e => e ▸ hi), fun y hy => (mem_more hy).elim (hn.lines y) (fun e => e ▸ hc), hn.hs⟩ (more_same hsm _ _), fun ho => ho.last ⟨id, id, fun h => Nat.lt_of_lt_of_le h (more_ge _ _ _), id⟩⟩
    · exact ⟨h.last ⟨hn.params, hn.locals, hn.caps, hn.consts, hn.code, hn.lines, fun y hy => (mem_more hy).elim (hn.hs y) (fun e => e ▸ hc)⟩ hsm, fun ho => ho.last ⟨id, id, id, fun h => Nat.lt_of_lt_of_le h (more_ge _ _ _)⟩⟩

theorem Ord.mk {init : List Fm} {t : Fm} {r : Nat} (h : (r ≤ 1 → t.caps = []) ∧ (r ≤ 2 → t.consts = []) ∧ (r ≤ 3 → t.code = []) ∧ (r ≤ 4 → t.hs = [])) : Ord (init ++ [t]) r := fun i x e => by
  obtain ⟨rfl, e2⟩ := List.append_inj' e rfl
  cases e2
  exact h

theorem Ord.step {fs fs' : List Fm} {last r : Nat} {x : List UInt8} (h : St fs last) (ho : Ord fs last) (ht : takeP fs last x = some (fs', r, true)) (h10 : 10 ∉ x) (hno : ¬ Over fs') : Ord fs' r ∧ saidF fs' = saidF fs ++ [x] := by
  rcases take_right ht h10 h.got with ⟨rfl, g, rfl, rfl, i1, i2⟩ | ⟨init, t, t', rfl, rfl, l1, l2, hk⟩
  · rcases more_or 256 fs (headF g) with e | ⟨hlt, e⟩
    · rw [e]
      refine ⟨Ord.mk ?_, ?_⟩
      · simp [headF]
      · rw [saidF_snoc]; rfl
    · rw [e] at hno
      exact absurd (.inl hlt) hno
  · obtain ⟨o1, o2, o3, o4⟩ := ho init t rfl
    have hsm := h.same t (by simp)
    rcases hk with ⟨rfl, c, rfl, hc, rfl⟩ | ⟨rfl, c, rfl, hc, hck, rfl⟩ | ⟨rfl, ln, i, rfl, hc, hi, rfl⟩ | ⟨rfl, c, rfl, hc, rfl⟩
    · have e2 := o2 (by omega)
      have e3 := o3 (by omega)
      have e4 := o4 (by omega)
      rcases more_or 4096 t.caps c with e | ⟨hlt, e⟩
      · refine ⟨Ord.mk ⟨fun h => absurd h (by decide), fun _ => e2, fun _ => e3, fun _ => e4⟩, ?_⟩
        rw [saidF_snoc, saidF_snoc, List.append_assoc]
        simp [fnT, headT, e, e2, e3, e4]
      · rw [e] at hno
        exact absurd (.inr ⟨_, List.mem_append_right _ List.mem_cons_self, .inl hlt⟩) hno
    · have e3 := o3 (by omega)
      have e4 := o4 (by omega)
      rcases more_or 16384 t.consts c with e | ⟨hlt, e⟩
      · refine ⟨Ord.mk ⟨fun h => absurd h (by decide), fun h => absurd h (by decide), fun _ => e3, fun _ => e4⟩, ?_⟩
        rw [saidF_snoc, saidF_snoc, List.append_assoc]
        simp [fnT, headT, e, e3, e4]
      · rw [e] at hno
        exact absurd (.inr ⟨_, List.mem_append_right _ List.mem_cons_self, .inr (.inl hlt)⟩) hno
    · have e4 := o4 (by omega)
      rcases more_or 16384 t.code i with e | ⟨hlt, e⟩
      · have e5 : more 16384 t.lines ln = t.lines ++ [ln] := by
          rcases more_or 16384 t.lines ln with e' | ⟨hlt', e'⟩
          · exact e'
          · exfalso
            have : (more 16384 t.code i).length = t.code.length := by unfold more; rw [if_neg (by omega)]
            rw [e] at this
            simp at this
        refine ⟨Ord.mk ⟨fun h => absurd h (by decide), fun h => absurd h (by decide), fun h => absurd h (by decide), fun _ => e4⟩, ?_⟩
        rw [saidF_snoc, saidF_snoc, List.append_assoc]
        simp [fnT, headT, e, e4, e5, List.zip_append hsm]
      · rw [e] at hno
        exact absurd (.inr ⟨_, List.mem_append_right _ List.mem_cons_self, .inr (.inr (.inl hlt))⟩) hno
    · rcases more_or 16384 t.hs c with e | ⟨hlt, e⟩
      · refine ⟨Ord.mk ⟨fun h => absurd h (by decide), fun h => absurd h (by decide), fun h => absurd h (by decide), fun h => absurd h (by decide)⟩, ?_⟩
        rw [saidF_snoc, saidF_snoc, List.append_assoc]
        simp [fnT, headT, e]
      · rw [e] at hno
        exact absurd (.inr ⟨_, List.mem_append_right _ List.mem_cons_self, .inr (.inr (.inr hlt))⟩) hno

theorem takes_st : ∀ (ls : List (List UInt8)) (fs fs' : List Fm) (last l' : Nat), takes ls fs last = some (fs', l') → (∀ x ∈ ls, 10 ∉ x) → St fs last → St fs' l' ∧ (Over fs → Over fs') ∧ (¬ Over fs' → Ord fs last → saidF fs' = saidF fs ++ ls)
  | [], fs, fs', last, l', h, _, hs => by
    simp only [takes, Option.some.injEq, Prod.mk.injEq] at h
    obtain ⟨rfl, rfl⟩ := h
    exact ⟨hs, id, fun _ _ => by simp⟩
  | x :: ls, fs, fs', last, l', h, h10, hs => by
    unfold takes at h
    split at h
    · rename_i f1 l1 he
      have hx := h10 x (by simp)
      obtain ⟨a1, a2⟩ := hs.step he hx
      obtain ⟨b1, b2, b3⟩ := takes_st ls f1 fs' l1 l' h (fun y hy => h10 y (by simp [hy])) a1
      refine ⟨b1, fun ho => b2 (a2 ho), fun hno hord => ?_⟩
      obtain ⟨c1, c2⟩ := Ord.step hs hord he hx (fun ho => hno (b2 ho))
      rw [b3 hno c1, c2]
      simp
    · cases h

theorem linesP_said (fs : List Fm) : linesP (saidF fs) = textP fs := by
  unfold linesP saidF textP
  rw [List.flatMap_map]
  induction fs with
  | nil => rfl
  | cons f r ih =>
    rw [List.flatMap_cons, List.flatMap_append, ih, List.flatMap_cons]
    rfl

/-- Code that may be is not too great; its functions can be read back. -/
theorem not_over {fs : List Fm} (h : (checkV fs).2.2 = 0) : ¬ Over fs := by
  have hlen : fs.length ≤ 256 := by
    unfold checkV at h
    split at h
    · simp at h
    · omega
  rintro (ho | ⟨f, hf, ho⟩)
  · omega
  · obtain ⟨main, fn', mk', hh, hc⟩ := check_parts h f hf
    unfold headP at hh
    simp only [Bool.and_eq_true, decide_eq_true_eq, List.all_eq_true] at hh
    obtain ⟨⟨⟨⟨h1, h2, h3, h4, h5, h6, h7, h8, h9, h10, h11⟩, hk⟩, hl⟩, hhs⟩ := hh
    omega

theorem number_none {nf pc : Nat} {f : Fm} {i : In} (h : numberP nf f pc i = true) (h14 : i.op ≠ 14) (hn : numb i.op = false) : i.a = 0 := by
  unfold numb at hn
  simp only [Bool.or_eq_false_iff, beq_eq_false_iff_ne, ne_eq] at hn
  unfold numberP at h
  rw [if_neg (by omega), if_neg (by omega), if_neg (by omega), if_neg h14, if_neg (by omega), if_neg (by omega), if_neg (by omega), if_neg (by omega)] at h
  exact (of_decide_eq_true h).2.2

theorem num_pos {nf pc : Nat} {f : Fm} {i : In} (h : numberP nf f pc i = true) : i.op = 14 → 0 < i.a := by
  intro h14
  unfold numberP at h
  rw [h14] at h
  simp at h
  omega

theorem fnR_of {fs : List Fm} (h : (checkV fs).2.2 = 0) {f : Fm} (hf : f ∈ fs) (hn : NumF f) : FnR f := by
  obtain ⟨main, fn', mk', hh, hc⟩ := check_parts h f hf
  unfold headP at hh
  simp only [Bool.and_eq_true, decide_eq_true_eq, List.all_eq_true] at hh
  obtain ⟨⟨⟨⟨h1, h2, h3, h4, h5, h6, h7, h8, h9, h10, h11⟩, hk⟩, hl⟩, hhs⟩ := hh
  refine ⟨hn.params, hn.locals, hn.caps, fun c hc => ⟨hn.consts c hc, ?_⟩, fun i hi => ?_, fun n hm => ⟨hn.lines n hm, hl n hm⟩, hn.hs, h11, h6, h7, h10, h8⟩
  · have := hk c hc
    unfold constP at this
    have := of_decide_eq_true this
    rcases this with a | a
    · exact .inl a
    · exact .inr ⟨a.1, a.2.1⟩
  · obtain ⟨j, hj⟩ := List.mem_iff_getElem?.1 hi
    obtain ⟨mk', hx⟩ := codeP_ok hc j i hj
    unfold insP at hx
    simp only [Bool.and_eq_true] at hx
    obtain ⟨n1, n2, n3⟩ := number_ok hx.1.1
    refine ⟨⟨n1, n2⟩, hn.code i hi, fun h14 => ?_, fun hnb h14 => number_none hx.1.1 h14 hnb⟩
    have := n3 h14
    have := num_pos hx.1.1 h14
    omega

theorem said10 (fs : List Fm) : ∀ x ∈ saidF fs, 10 ∉ x := by
  intro x hx
  unfold saidF at hx
  obtain ⟨y, hy, rfl⟩ := List.mem_map.1 hx
  obtain ⟨f, _, hy⟩ := List.mem_flatMap.1 hy
  exact fn_no10 f y hy

/-- Code that may be is read from its own text; also a beginning of its lines. -/
theorem takes_text {fs : List Fm} (h : (checkV fs).2.2 = 0) (hn : ∀ f ∈ fs, NumF f) : ∃ l', takes (saidF fs) [] 0 = some (fs, l') := by
  have hlen : fs.length ≤ 256 := by
    unfold checkV at h
    split at h
    · simp at h
    · omega
  obtain ⟨l', e⟩ := takes_all fs [] 0 (fun f hf => fnR_of h hf (hn f hf)) (by simp; omega)
  exact ⟨l', e⟩

/-- What Parse answers. -/
def parseV (s : List UInt8) : List Fm × Nat × Nat :=
  if (parseP (s.length + 1) s [] 0 0).2.2 = true ∧ (checkV (parseP (s.length + 1) s [] 0 0).1).2.2 = 0 then ((parseP (s.length + 1) s [] 0 0).1, 0, 0) else ([], (parseP (s.length + 1) s [] 0 0).2.1, 8)

theorem linesP_len (ls : List (List UInt8)) : ls.length ≤ (linesP ls).length := by
  induction ls with
  | nil => simp [linesP]
  | cons x r ih => rw [linesP_cons]; simp; omega

theorem parseV_text {fs : List Fm} (h : (checkV fs).2.2 = 0) (hn : ∀ f ∈ fs, NumF f) : parseV (textP fs) = (fs, 0, 0) := by
  obtain ⟨l', e⟩ := takes_text h hn
  have hp : parseP ((textP fs).length + 1) (textP fs) [] 0 0 = (fs, (saidF fs).length, true) := by
    have hl := linesP_len (saidF fs)
    rw [linesP_said] at hl
    have := parse_lines [] (saidF fs) ((textP fs).length - (saidF fs).length + 1) [] fs 0 l' 0 e (said10 fs)
    rw [linesP_said, parse_end, List.append_nil, show (saidF fs).length + ((textP fs).length - (saidF fs).length + 1) = (textP fs).length + 1 by omega] at this
    simpa using this
  unfold parseV
  rw [hp, if_pos ⟨rfl, h⟩]

theorem parseV_right {s : List UInt8} (h : (parseV s).2.2 = 0) : (parseV s).2.1 = 0 ∧ (checkV (parseV s).1).2.2 = 0 ∧ (∀ f ∈ (parseV s).1, NumF f) ∧ textP (parseV s).1 = s := by
  unfold parseV at h ⊢
  split at h
  · rename_i hc
    rw [if_pos hc]
    obtain ⟨h1, h2⟩ := hc
    obtain ⟨ls, l', e, h10, ht, _⟩ := parse_right (s.length + 1) s [] (parseP (s.length + 1) s [] 0 0).1 0 0 (parseP (s.length + 1) s [] 0 0).2.1 (by rw [← h1])
    obtain ⟨a1, a2, a3⟩ := takes_st ls [] _ 0 l' ht h10 ⟨by simp, by simp, fun h => absurd rfl h⟩
    have := a3 (not_over h2) (fun i t e => by simp at e)
    refine ⟨rfl, h2, a1.num, ?_⟩
    rw [← linesP_said, this, e]
    simp [saidF]
  · simp at h

theorem parseV_err (s : List UInt8) : (parseV s).2.2 = 0 ∨ ((parseV s).2.2 = 8 ∧ (parseV s).1 = [] ∧ (parseV s).2.1 ≤ s.length) := by
  unfold parseV
  split
  · exact .inl rfl
  · refine .inr ⟨rfl, rfl, ?_⟩
    have := parse_count (s.length + 1) s [] 0 0
    simpa using this

end Lp

end Go.Proofs.YtnekcomkochmjaaGreatDoor

namespace Go.Proofs.YtnekcomkochmjaaGreatDoor
set_option linter.unusedVariables false
set_option linter.unusedSimpArgs false
open Go.RowKit

namespace Lp
open Lk

variable {w : World}

set_option maxRecDepth 20000 in
set_option maxHeartbeats 2000000 in
theorem slCut_in (s : List UInt8) (hs : s.length < 4294967281) :
    Calls Tryz.prog 28 #[.string (bs s), .string ⟨#[10]⟩] w fun e w' => e = .returned (.tuple #[.string (bs (Lib.cut s [10]).1), .string (bs (Lib.cut s [10]).2.1), .bool (Lib.cut s [10]).2.2]) ∧ ∃ j, w' = w.drewN j := by
  have HC := Tryz.stringslite_Index_one (bs s) 10 w
  rw [bs_list] at HC
  rcases ten_split s with h | ⟨x, r, rfl, h⟩
  · rw [index_none h] at HC
    rw [cut_none h]
    clear h
    go_enter Tryz.func28, Tryz.ntmps28
    go_wp2_with (first
      | (go_at_call 59; refine HC.mono ?_; clear HC; rintro e w1 ⟨rfl, rfl⟩))
    go_ret3
    exact ⟨rfl, 0, rfl⟩
  · rw [index_at h] at HC
    rw [cut_at r h]
    have hup := bs_upto (x ++ 10 :: r) x.length
    have hfr := bs_from (x ++ 10 :: r) (x.length + 1)
    have t1 : (x ++ 10 :: r).take x.length = x := by simp
    have t2 : (x ++ 10 :: r).drop (x.length + 1) = r := by simp [List.drop_append]
    rw [t1] at hup
    rw [t2] at hfr
    have hsz := bs_size (x ++ 10 :: r)
    have hl : (x ++ 10 :: r).length = x.length + (r.length + 1) := by simp
    rw [hl] at hsz hfr hs
    generalize (bs (x ++ 10 :: r)) = S at *
    have c1 : (0 : Int) ≤ (x.length : Int) := by omega
    have c2 : (x.length : Int) ≤ (S.size : Int) := by omega
    have c3 : (0 : Int) ≤ (x.length : Int) + 1 := by omega
    have c4 : (x.length : Int) + 1 ≤ (S.size : Int) := by omega
    clear h t1 t2 hl
    go_enter Tryz.func28, Tryz.ntmps28
    go_wp2_with (first
      | (go_at_call 59; refine HC.mono ?_; clear HC; rintro e w1 ⟨rfl, rfl⟩))
    go_quiet (fail)
    go_wp2
    try rw [hfr]
    go_ret3
    exact ⟨rfl, _, rfl⟩

set_option maxRecDepth 20000 in
set_option maxHeartbeats 2000000 in
theorem cut_in (s : List UInt8) (hs : s.length < 4294967281) :
    Calls Tryz.prog 18 #[.string (bs s), .string ⟨#[10]⟩] w fun e w' => e = .returned (.tuple #[.string (bs (Lib.cut s [10]).1), .string (bs (Lib.cut s [10]).2.1), .bool (Lib.cut s [10]).2.2]) ∧ ∃ j, w' = w.drewN j := by
  have H := slCut_in (w := w) s hs
  generalize Lib.cut s [10] = q at *
  clear hs
  go_enter Tryz.func18, Tryz.ntmps18
  go_wp2_with (first
    | (go_at_call 28; refine H.mono ?_; clear H; rintro e w1 ⟨rfl, j, rfl⟩))
  go_ret3
  exact ⟨rfl, j, rfl⟩

end Lp

end Go.Proofs.YtnekcomkochmjaaGreatDoor
