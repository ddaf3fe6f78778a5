/- Words written with blanks between them; plainly. -/
import Derived.Test.YtpbempnenjfjdaaDoorLxTold
import Derived.Test.YtpbempnenjfjdaaDoorLxSame
namespace Go.Proofs.YtpbempnenjfjdaaDoor
set_option linter.unusedVariables false
set_option linter.unusedSimpArgs false

/-- A word that may be. -/
def OkW (x : Wd) : Prop :=
  (x.k = 1 ∧ (∃ c r, x.s = c :: r ∧ isL c = true) ∧ (∀ c ∈ x.s, isN c = true) ∧ x.s.length ≤ 4096 ∧ x.n = 0) ∨
  (x.k = 2 ∧ x.s = [] ∧ 0 ≤ x.n ∧ x.n ≤ 9223372036854775807) ∨
  (x.k = 3 ∧ x.s.length ≤ 4096 ∧ x.n = 0) ∨ (x.k = 4 ∧ x.s ∈ sigs ∧ x.n = 0)

theorem numV_range {c : UInt8} {r : List UInt8} {v : Int} (hc : isD c = true) (h : numV (c :: r) = some v) : 0 ≤ v ∧ v ≤ 9223372036854775807 := by
  unfold numV at h
  split at h
  · cases h
  · simp [isD] at hc
    rw [Lib.parseIntB_plain 64 c r (by omega) (by omega)] at h
    cases hp : Lib.parseUintB 64 (c :: r) with
    | ok u =>
      rw [hp] at h
      simp only [Lib.signlessC] at h
      by_cases hu : 2 ^ (64 - 1) ≤ u
      · rw [if_pos hu] at h; cases h
      · rw [if_neg hu] at h; cases h; omega
    | range => rw [hp] at h; cases h
    | _ => rw [hp] at h; cases h

theorem wordAt_okW {x z : List UInt8} {wd : Wd} (h : wordAt x = some (wd, z)) : OkW wd ∧ wd.line = 0 := by
  cases x with
  | nil => simp [wordAt] at h
  | cons c r =>
    cases hL : isL c with
    | true =>
      rw [wordAt_name hL] at h
      split at h
      · cases h
        refine ⟨.inl ⟨rfl, ⟨c, r.takeWhile isN, by simp [List.takeWhile, isN, hL], hL⟩, tw_all isN _, by assumption, rfl⟩, rfl⟩
      · cases h
    | false =>
      cases hD : isD c with
      | true =>
        rw [wordAt_num hL hD, Option.map_eq_some_iff] at h
        obtain ⟨v, hv, he⟩ := h
        cases he
        have e : (c :: r).takeWhile isN = c :: r.takeWhile isN := by simp [List.takeWhile, isN, hD]
        rw [e] at hv
        exact ⟨.inr (.inl ⟨rfl, rfl, numV_range hD hv⟩), rfl⟩
      | false =>
        by_cases h34 : c = 34
        · subst h34
          rw [wordAt_text] at h
          unfold textR at h
          split at h
          · split at h
            · cases h
              exact ⟨.inr (.inr (.inl ⟨rfl, by assumption, rfl⟩)), rfl⟩
            · cases h
          · cases h
        · rw [wordAt_sign hL hD h34, Option.map_eq_some_iff] at h
          obtain ⟨⟨p, y⟩, hp, he⟩ := h
          unfold signAt at hp
          rw [Option.map_eq_some_iff] at hp
          obtain ⟨q, hq, he2⟩ := hp
          cases he2
          cases he
          exact ⟨.inr (.inr (.inr ⟨rfl, List.mem_of_find?_eq_some hq, rfl⟩)), rfl⟩

/-- The words of a text may be, and their lines do not fall. -/
theorem Lex.good {l : List UInt8} {ln : Nat} {rs : Rs} (h : Lex l ln rs) : ∀ ws, rs = .ok ws → (∀ x ∈ ws, OkW x ∧ ln ≤ x.line) ∧ ws.Pairwise (fun a b => a.line ≤ b.line) ∧ ws.length ≤ l.length ∧ ∀ x ∈ ws, x.line ≤ ln + l.length := by
  induction h using Lex.ind with
  | done h => intro ws e; cases e; simp
  | bad h hx hw => intro ws e; cases e
  | @more l ln n x z w r h hw hr ih =>
    intro ws e
    have hs := skip_le false l
    rw [h] at hs
    simp only at hs
    have hz := wordAt_len hw
    cases r with
    | error m => cases e
    | ok ws' =>
      cases e
      obtain ⟨h1, h2, h3, h4⟩ := ih ws' rfl
      have hok : OkW { w with line := ln + n } := (wordAt_okW hw).1
      refine ⟨fun y hy => ?_, ?_, by simp; omega, fun y hy => ?_⟩
      · rcases List.mem_cons.1 hy with rfl | hy
        · exact ⟨hok, by simp⟩
        · have := h1 y hy; exact ⟨this.1, by omega⟩
      · exact List.pairwise_cons.2 ⟨fun y hy => (h1 y hy).2, h2⟩
      · rcases List.mem_cons.1 hy with rfl | hy
        · simp; omega
        · have := h4 y hy; omega

/-- A word as text. -/
def toldW (x : Wd) : List UInt8 := if x.k = 2 then Lib.decDigits x.n.toNat else if x.k = 3 then quo x.s else x.s

theorem told_len {x : Wd} (h : OkW x) : (toldW x).length ≤ 8194 := by
  unfold toldW
  rcases h with ⟨hk, -, -, hl, -⟩ | ⟨hk, -, h0, h1⟩ | ⟨hk, hl, -⟩ | ⟨hk, hs, -⟩
  · rw [hk]; simp; omega
  · rw [hk]
    have := digits_len (n := x.n.toNat) (by omega)
    simp; omega
  · rw [hk]
    have := esc_len x.s
    simp [quo]; omega
  · rw [hk]
    have : ∀ p ∈ sigs, p.length ≤ 2 := by decide
    have := this x.s hs
    simp; omega

/-- What follows: nothing, or a blank. -/
def Blank (rest : List UInt8) : Prop := rest = [] ∨ ∃ r, rest = 32 :: r

theorem Blank.stops {rest : List UInt8} (h : Blank rest) : Stops rest := by
  rcases h with rfl | ⟨r, rfl⟩
  · exact .inl rfl
  · exact .inr ⟨32, r, rfl, by decide⟩

theorem Blank.head {rest : List UInt8} (h : Blank rest) : rest.head? ≠ some 61 ∧ rest.head? ≠ some 47 := by
  rcases h with rfl | ⟨r, rfl⟩ <;> simp <;> decide

def l0 (x : Wd) : Wd := { x with line := 0 }

theorem isL_not_isB {c : UInt8} (h : isL c = true) : isB c = false ∧ c ≠ 47 := by
  simp [isL] at h
  refine ⟨by simp [isB]; omega, fun e => ?_⟩
  have := eq47.1 e
  omega

theorem told_word {x : Wd} (h : OkW x) {rest : List UInt8} (hr : Blank rest) : wordAt (toldW x ++ rest) = some (l0 x, rest) ∧ skip false (toldW x ++ rest) = (toldW x ++ rest, 0) := by
  obtain ⟨k, s, n, line⟩ := x
  rcases h with ⟨hk, ⟨c, r, hs, hc⟩, hall, hl, hn⟩ | ⟨hk, hs, h0, h1⟩ | ⟨hk, hl, hn⟩ | ⟨hk, hs, hn⟩
  · simp only at hk hs hall hl hn
    subst hk hs hn
    have e : toldW ⟨1, c :: r, 0, line⟩ = c :: r := rfl
    obtain ⟨t1, t2⟩ := tw_stop hall hr.stops
    rw [e]
    rw [List.cons_append] at t1 t2 ⊢
    refine ⟨?_, skip_not (isL_not_isB hc).1 (.inl (isL_not_isB hc).2)⟩
    rw [wordAt_name hc, t1, t2, if_pos hl]
    rfl
  · simp only at hk hs h0 h1
    subst hk hs
    have e : toldW ⟨2, [], n, line⟩ = Lib.decDigits n.toNat := rfl
    rw [e]
    refine ⟨?_, skip_dec _ _⟩
    rw [word_num (by omega) hr.stops]
    have : ((n.toNat : Nat) : Int) = n := by omega
    rw [this]
    rfl
  · simp only at hk hl hn
    subst hk hn
    have e : toldW ⟨3, s, 0, line⟩ = quo s := rfl
    rw [e]
    refine ⟨?_, skip_quo _ _⟩
    rw [word_text hl]
    rfl
  · simp only at hk hs hn
    subst hk hn
    have e : toldW ⟨4, s, 0, line⟩ = s := rfl
    rw [e]
    refine ⟨?_, ?_⟩
    · rw [word_sign hs hr.head.1]
      rfl
    · obtain ⟨c, r, rfl, -, -, -, hb⟩ := sigs_sign s hs
      rw [List.cons_append]
      refine skip_not hb ?_
      cases r with
      | nil => exact .inr hr.head.2
      | cons d r =>
        left
        intro e
        subst e
        have : ∀ d r, (47 :: d :: r : List UInt8) ∉ sigs := by intro d r h; simp [sigs] at h
        exact this d r hs

/-- Words behind blanks; words with blanks between. -/
def tails (ws : List Wd) : List UInt8 := ws.flatMap (fun x => 32 :: toldW x)

def tell : List Wd → List UInt8
  | [] => []
  | x :: r => toldW x ++ tails r

theorem tails_blank (ws : List Wd) : Blank (tails ws) := by
  cases ws with
  | nil => exact .inl rfl
  | cons x r => exact .inr ⟨toldW x ++ tails r, by simp [tails]⟩

theorem tell_snoc {l : List Wd} (h : l ≠ []) (x : Wd) : tell (l ++ [x]) = (tell l ++ [32]) ++ toldW x := by
  cases l with
  | nil => exact absurd rfl h
  | cons y r => simp [tell, tails]

theorem tell_one (x : Wd) : tell [x] = toldW x := by simp [tell, tails]

theorem tails_lex {ws : List Wd} (h : ∀ x ∈ ws, OkW x) : Lex (tails ws) 0 (.ok (ws.map l0)) := by
  induction ws with
  | nil => exact .done (n := 0) rfl
  | cons x r ih =>
    obtain ⟨h1, h2⟩ := told_word (h x (by simp)) (tails_blank r)
    have e : tails (x :: r) = 32 :: (toldW x ++ tails r) := by simp [tails]
    have hs : skip false (tails (x :: r)) = (toldW x ++ tails r, 0) := by
      rw [e]
      have : skip false (32 :: (toldW x ++ tails r)) = ((skip false (toldW x ++ tails r)).1, (skip false (toldW x ++ tails r)).2 + 0) := rfl
      rw [this, h2]
    have := Lex.more (ln := 0) hs h1 (ih (fun y hy => h y (by simp [hy])))
    simpa [Rs.cons, l0] using this

theorem tell_lex {ws : List Wd} (h : ∀ x ∈ ws, OkW x) : Lex (tell ws) 0 (.ok (ws.map l0)) := by
  cases ws with
  | nil => exact .done (n := 0) rfl
  | cons x r =>
    obtain ⟨h1, h2⟩ := told_word (h x (by simp)) (tails_blank r)
    have := Lex.more (l := tell (x :: r)) (ln := 0) h2 h1 (tails_lex (fun y hy => h y (by simp [hy])))
    simpa [Rs.cons, l0] using this

end Go.Proofs.YtpbempnenjfjdaaDoor
