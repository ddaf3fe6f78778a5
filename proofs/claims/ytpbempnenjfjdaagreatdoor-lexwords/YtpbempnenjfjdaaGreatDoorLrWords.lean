/- The document's words of a text. -/
import Derived.Test.YtpbempnenjfjdaaGreatDoorLrWord
namespace Go.Proofs.YtpbempnenjfjdaaGreatDoor
set_option linter.unusedVariables false
set_option linter.unusedSimpArgs false
open Go.RowKit

variable {w : World}

theorem Lex.at {l : List UInt8} {ln : Nat} {rs : Rs} (h : Lex l ln rs) : LexAt (skip false l).1 (ln + (skip false l).2) rs := by
  rcases h.inv with ⟨n, h', rfl⟩ | ⟨n, x, h', hx, hw, rfl⟩ | ⟨n, x, z, w, r, h', hw, hr, rfl⟩
  · rw [h']; exact .inl ⟨rfl, rfl⟩
  · rw [h']; exact .inr (.inl ⟨hx, hw, rfl⟩)
  · rw [h']; exact .inr (.inr ⟨_, _, _, hw, hr, rfl⟩)

theorem Lex.go {l l' : List UInt8} {ln ln' : Nat} {rs : Rs} (h : Lex l' ln' rs) (h1 : (skip false l).1 = (skip false l').1) (h2 : ln + (skip false l).2 = ln' + (skip false l').2) : Lex l ln rs := by
  apply LexAt.lex
  rw [h1, h2]
  exact h.at

theorem Lex.nl {r : List UInt8} {ln : Nat} {rs : Rs} (h : Lex r (ln + 1) rs) : Lex (10 :: r) ln rs := by
  refine h.go ?_ ?_
  · simp [skip, isB]
  · simp [skip, isB]; omega

theorem Lex.blank {c : UInt8} {r : List UInt8} {ln : Nat} {rs : Rs} (hb : isB c = true) (h10 : c ≠ 10) (h : Lex r ln rs) : Lex (c :: r) ln rs := by
  refine h.go ?_ ?_
  · simp [skip, hb]
  · simp [skip, hb, h10]

theorem Lex.remark {r : List UInt8} {ln : Nat} {rs : Rs} (h : Lex ((47 :: 47 :: r).dropWhile noNl) ln rs) : Lex (47 :: 47 :: r) ln rs := by
  have e : skip false (47 :: 47 :: r) = skip false ((47 :: 47 :: r).dropWhile noNl) := by
    have e1 : skip false (47 :: 47 :: r) = skip true (47 :: r) := by simp [skip, not_isB47]
    have e2 : (47 :: 47 :: r : List UInt8).dropWhile noNl = (47 :: r : List UInt8).dropWhile noNl := by simp [List.dropWhile, noNl]
    rw [e1, skip_true, e2]
  exact h.go (by rw [e]) (by rw [e])

theorem skip_word {c : UInt8} {r : List UInt8} (hb : isB c = false) (hn : ¬ (c = 47 ∧ r.head? = some 47)) : skip false (c :: r) = (c :: r, 0) := by simp [skip, hb, hn]

theorem textAt_suf {l : List UInt8} : ∀ {t z : List UInt8}, textAt l = some (t, z) → z <:+ l := by
  induction l using textAt.induct with
  | case1 => intro t z h; simp [textAt] at h
  | case2 => intro t z h; simp [textAt] at h; simp [← h.2]
  | case3 c hc => intro t z h; simp [textAt, hc] at h
  | case4 d r => intro t z h; simp [textAt] at h
  | case5 d r h1 => intro t z h; simp [textAt] at h; rw [← h.2]; exact List.suffix_cons _ _
  | case6 d r hd h1 h2 ih =>
    intro t z h
    rw [textAt, if_neg h1, if_neg h2, if_pos rfl, if_pos hd, Option.map_eq_some_iff] at h
    obtain ⟨⟨y1, y2⟩, hy, he⟩ := h
    cases he
    exact (ih hy).trans ((List.suffix_cons _ _).trans (List.suffix_cons _ _))
  | case7 r h1 h2 h3 ih =>
    intro t z h
    rw [textAt, if_neg h1, if_neg h2, if_pos rfl, if_neg h3, if_pos rfl, Option.map_eq_some_iff] at h
    obtain ⟨⟨y1, y2⟩, hy, he⟩ := h
    cases he
    exact (ih hy).trans ((List.suffix_cons _ _).trans (List.suffix_cons _ _))
  | case8 d r h3 h4 h1 h2 =>
    intro t z h
    rw [textAt, if_neg h1, if_neg h2, if_pos rfl, if_neg h3, if_neg h4] at h
    cases h
  | case9 c d r h1 h2 h3 ih =>
    intro t z h
    rw [textAt_plain h1 h2 h3, Option.map_eq_some_iff] at h
    obtain ⟨⟨y1, y2⟩, hy, he⟩ := h
    cases he
    exact (ih hy).trans (List.suffix_cons _ _)

theorem wordAt_suf {x z : List UInt8} {wd : Wd} (h : wordAt x = some (wd, z)) : z <:+ x := by
  cases x with
  | nil => simp [wordAt] at h
  | cons c r =>
    cases hL : isL c with
    | true =>
      rw [wordAt_name hL] at h
      split at h
      · cases h; exact List.dropWhile_suffix _
      · cases h
    | false =>
      cases hD : isD c with
      | true =>
        rw [wordAt_num hL hD, Option.map_eq_some_iff] at h
        obtain ⟨v, _, he⟩ := h
        cases he
        exact List.dropWhile_suffix _
      | false =>
        by_cases h34 : c = 34
        · subst h34
          rw [wordAt_text] at h
          unfold textR at h
          split at h
          · rename_i s y hx
            split at h
            · cases h
              exact (textAt_suf hx).trans (List.suffix_cons _ _)
            · cases h
          · cases h
        · rw [wordAt_sign hL hD h34, Option.map_eq_some_iff] at h
          obtain ⟨⟨p, y⟩, hp, he⟩ := h
          unfold signAt at hp
          rw [Option.map_eq_some_iff] at hp
          obtain ⟨q, hq, he2⟩ := hp
          cases he2
          cases he
          exact List.drop_suffix _ _

/-- What is left of a text, by its length. -/
theorem drop_suf {l z : List UInt8} {a : Nat} (h : z <:+ l.drop a) : l.drop (l.length - z.length) = z := by
  have h2 : z <:+ l := h.trans (List.drop_suffix _ _)
  obtain ⟨p, rfl⟩ := h2
  simp

end Go.Proofs.YtpbempnenjfjdaaGreatDoor
