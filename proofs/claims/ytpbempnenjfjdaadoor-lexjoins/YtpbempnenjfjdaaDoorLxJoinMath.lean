/- Two texts with a line's end between them; plainly. -/
import Derived.Test.YtpbempnenjfjdaaDoorLxSame
namespace Go.Proofs.YtpbempnenjfjdaaDoor
set_option linter.unusedVariables false
set_option linter.unusedSimpArgs false

theorem skip_app (a b : List UInt8) : ∀ m : Bool, ((skip m a).1 = [] → skip m (a ++ 10 :: b) = ((skip false b).1, (skip m a).2 + 1 + (skip false b).2)) ∧ ((skip m a).1 ≠ [] → skip m (a ++ 10 :: b) = ((skip m a).1 ++ 10 :: b, (skip m a).2)) := by
  induction a with
  | nil =>
    intro m
    refine ⟨fun _ => ?_, fun h => absurd (by cases m <;> rfl) h⟩
    have e : skip m (10 :: b) = ((skip false b).1, (skip false b).2 + 1) := by cases m <;> simp [skip, isB]
    have e2 : skip m [] = ([], 0) := by cases m <;> rfl
    rw [List.nil_append, e, e2]
    simp only
    congr 1
    omega
  | cons c r ih =>
    intro m
    cases m with
    | true =>
      by_cases h10 : c = 10
      · have e1 : skip true (c :: r) = ((skip false r).1, (skip false r).2 + 1) := by simp [skip, h10]
        have e2 : skip true (c :: r ++ 10 :: b) = ((skip false (r ++ 10 :: b)).1, (skip false (r ++ 10 :: b)).2 + 1) := by simp [skip, h10]
        rw [e1, e2]
        refine ⟨fun h => ?_, fun h => ?_⟩
        · rw [(ih false).1 h]; simp only; congr 1; omega
        · rw [(ih false).2 h]
      · have e1 : skip true (c :: r) = skip true r := by simp [skip, h10]
        have e2 : skip true (c :: r ++ 10 :: b) = skip true (r ++ 10 :: b) := by simp [skip, h10]
        rw [e1, e2]
        exact ih true
    | false =>
      by_cases hb : isB c = true
      · have e1 : skip false (c :: r) = ((skip false r).1, (skip false r).2 + (if c = 10 then 1 else 0)) := by simp [skip, hb]
        have e2 : skip false (c :: r ++ 10 :: b) = ((skip false (r ++ 10 :: b)).1, (skip false (r ++ 10 :: b)).2 + (if c = 10 then 1 else 0)) := by simp [skip, hb]
        rw [e1, e2]
        refine ⟨fun h => ?_, fun h => ?_⟩
        · rw [(ih false).1 h]; simp only; congr 1; omega
        · rw [(ih false).2 h]
      · by_cases h47 : c = 47 ∧ r.head? = some 47
        · have hh : (r ++ 10 :: b).head? = some 47 := by
            cases r with
            | nil => simp at h47
            | cons d r => simpa using h47.2
          have e1 : skip false (c :: r) = skip true r := by simp only [skip]; rw [if_neg hb, if_pos h47]
          have e2 : skip false (c :: r ++ 10 :: b) = skip true (r ++ 10 :: b) := by rw [List.cons_append]; simp only [skip]; rw [if_neg hb, if_pos ⟨h47.1, hh⟩]
          rw [e1, e2]
          exact ih true
        · have hh : ¬ (c = 47 ∧ (r ++ 10 :: b).head? = some 47) := by
            cases r with
            | nil => simp
            | cons d r => simpa using h47
          have e1 : skip false (c :: r) = (c :: r, 0) := by simp only [skip]; rw [if_neg hb, if_neg h47]
          have e2 : skip false (c :: r ++ 10 :: b) = (c :: r ++ 10 :: b, 0) := by rw [List.cons_append]; simp only [skip]; rw [if_neg hb, if_neg hh]
          rw [e1, e2]
          exact ⟨fun h => by simp at h, fun _ => rfl⟩

theorem skip_count (m : Bool) (l : List UInt8) : l.count 10 = (skip m l).2 + (skip m l).1.count 10 := by
  induction l generalizing m with
  | nil => cases m <;> rfl
  | cons c r ih =>
    cases m with
    | true =>
      by_cases h10 : c = 10
      · have e1 : skip true (c :: r) = ((skip false r).1, (skip false r).2 + 1) := by simp [skip, h10]
        rw [e1, h10]
        have := ih false
        simp only [List.count_cons_self]
        omega
      · have e1 : skip true (c :: r) = skip true r := by simp [skip, h10]
        rw [e1, List.count_cons_of_ne h10]
        exact ih true
    | false =>
      by_cases hb : isB c = true
      · have e1 : skip false (c :: r) = ((skip false r).1, (skip false r).2 + (if c = 10 then 1 else 0)) := by simp [skip, hb]
        rw [e1]
        have := ih false
        by_cases h10 : c = 10
        · rw [h10, List.count_cons_self]; simp; omega
        · rw [List.count_cons_of_ne h10]; simp [h10]; omega
      · by_cases h47 : c = 47 ∧ r.head? = some 47
        · have e1 : skip false (c :: r) = skip true r := by simp only [skip]; rw [if_neg hb, if_pos h47]
          have h10 : c ≠ 10 := by rw [h47.1]; decide
          rw [e1, List.count_cons_of_ne h10]
          exact ih true
        · have e1 : skip false (c :: r) = (c :: r, 0) := by simp only [skip]; rw [if_neg hb, if_neg h47]
          rw [e1]
          simp

theorem textAt_app (l b : List UInt8) : textAt (l ++ 10 :: b) = (textAt l).map (fun x => (x.1, x.2 ++ 10 :: b)) := by
  induction l using textAt.induct with
  | case1 => cases b <;> simp [textAt]
  | case2 => simp [textAt]
  | case3 c h =>
    have e0 : textAt [c] = none := by simp [textAt, h]
    rw [e0]
    rw [List.cons_append, List.nil_append, textAt]
    by_cases h10 : c = 10
    · simp [h10]
    · by_cases h92 : c = 92
      · rw [if_neg h10, if_neg h, if_pos h92, if_neg (by decide), if_neg (by decide)]; rfl
      · rw [if_neg h10, if_neg h, if_neg h92]
        have : textAt (10 :: b) = none := by cases b <;> simp [textAt]
        rw [this]; rfl
  | case4 d r => simp [textAt]
  | case5 d r h => simp [textAt]
  | case6 d r hd h1 h2 ih =>
    simp only [List.cons_append, textAt, if_neg h1, if_neg h2, if_pos hd, if_true]
    rw [ih]
    cases textAt r <;> rfl
  | case7 r h0 h1 h2 ih =>
    simp only [List.cons_append, textAt, if_neg h1, if_neg h2, if_neg h0, if_true]
    rw [ih]
    cases textAt r <;> rfl
  | case8 d r h3 h4 h1 h2 =>
    simp only [List.cons_append, textAt, if_neg h1, if_neg h2, if_neg h3, if_neg h4, if_true]
    rfl
  | case9 c d r h1 h2 h3 ih =>
    rw [List.cons_append, textAt_plain h1 h2 h3, textAt_plain h1 h2 h3, ih]
    cases textAt (d :: r) <;> rfl

theorem tw_app {p : UInt8 → Bool} {x : UInt8} (hx : p x = false) (l b : List UInt8) : (l ++ x :: b).takeWhile p = l.takeWhile p ∧ (l ++ x :: b).dropWhile p = l.dropWhile p ++ x :: b := by
  induction l with
  | nil => simp [List.takeWhile, List.dropWhile, hx]
  | cons c r ih =>
    by_cases hc : p c = true
    · simp [List.takeWhile, List.dropWhile, hc, ih]
    · simp [List.takeWhile, List.dropWhile, hc]

theorem pre_app {p : List UInt8} (hp : (10 : UInt8) ∉ p) (l b : List UInt8) : p.isPrefixOf (l ++ 10 :: b) = p.isPrefixOf l := by
  induction p generalizing l with
  | nil => simp [List.isPrefixOf]
  | cons c r ih =>
    simp only [List.mem_cons, not_or] at hp
    cases l with
    | nil => simp [List.isPrefixOf]; intro e; exact absurd e.symm hp.1
    | cons d l => simp only [List.cons_append, List.isPrefixOf]; rw [ih hp.2]

theorem sigs_no10 : ∀ p ∈ sigs, (10 : UInt8) ∉ p := by decide

theorem find_congr {f g : List UInt8 → Bool} : ∀ (l : List (List UInt8)), (∀ p ∈ l, f p = g p) → l.find? f = l.find? g
  | [], _ => rfl
  | a :: l, h => by
    simp only [List.find?]
    rw [h a (by simp), find_congr l (fun p hp => h p (by simp [hp]))]

theorem signAt_app (l b : List UInt8) : signAt (l ++ 10 :: b) = (signAt l).map (fun x => (x.1, x.2 ++ 10 :: b)) := by
  unfold signAt
  rw [find_congr (f := fun p => p.isPrefixOf (l ++ 10 :: b)) (g := fun p => p.isPrefixOf l) sigs (fun p hp => pre_app (sigs_no10 p hp) l b)]
  cases hf : sigs.find? (fun p => p.isPrefixOf l) with
  | none => rfl
  | some p =>
    have hpre : p.isPrefixOf l = true := List.find?_some (p := fun (p : List UInt8) => p.isPrefixOf l) hf
    obtain ⟨t, rfl⟩ := List.isPrefixOf_iff_prefix.1 hpre
    simp

theorem wordAt_app {x : List UInt8} (hx : x ≠ []) (b : List UInt8) : wordAt (x ++ 10 :: b) = (wordAt x).map (fun y => (y.1, y.2 ++ 10 :: b)) := by
  cases x with
  | nil => exact absurd rfl hx
  | cons c r =>
    obtain ⟨t1, t2⟩ := tw_app (p := isN) (x := 10) (by decide) (c :: r) b
    rw [List.cons_append] at t1 t2 ⊢
    cases hL : isL c with
    | true =>
      rw [wordAt_name hL, wordAt_name hL, t1, t2]
      split <;> rfl
    | false =>
      cases hD : isD c with
      | true =>
        rw [wordAt_num hL hD, wordAt_num hL hD, t1, t2]
        cases numV ((c :: r).takeWhile isN) <;> rfl
      | false =>
        by_cases h34 : c = 34
        · subst h34
          rw [wordAt_text, wordAt_text]
          unfold textR
          rw [textAt_app]
          cases textAt r with
          | none => rfl
          | some y =>
            obtain ⟨s, z⟩ := y
            simp only [Option.map_some]
            split <;> rfl
        · rw [wordAt_sign hL hD h34, wordAt_sign hL hD h34]
          have := signAt_app (c :: r) b
          rw [List.cons_append] at this
          rw [this]
          cases signAt (c :: r) <;> rfl

theorem tw_count {l : List UInt8} : l.count 10 = (l.dropWhile isN).count 10 := by
  induction l with
  | nil => rfl
  | cons c r ih =>
    by_cases hc : isN c = true
    · have h10 : c ≠ 10 := by rintro rfl; exact absurd hc (by decide)
      rw [List.count_cons_of_ne h10, ih]
      simp [List.dropWhile, hc]
    · simp [List.dropWhile, hc]

theorem textAt_count {r s z : List UInt8} (h : textAt r = some (s, z)) : r.count 10 = z.count 10 := by
  induction r using textAt.induct generalizing s z with
  | case1 => simp [textAt] at h
  | case2 => simp [textAt] at h; simp [h.2]
  | case3 c hc => simp [textAt, hc] at h
  | case4 d r => simp [textAt] at h
  | case5 d r h1 => simp [textAt] at h; rw [← h.2]; simp
  | case6 d r hd h1 h2 ih =>
    simp only [textAt] at h
    simp only [if_neg h1, if_neg h2, if_pos hd, if_true, Option.map_eq_some_iff] at h
    obtain ⟨⟨a, b⟩, hx, he⟩ := h
    cases he
    rw [List.count_cons_of_ne (by decide), List.count_cons_of_ne (by rcases hd with rfl | rfl <;> decide)]
    exact ih hx
  | case7 r h0 h1 h2 ih =>
    simp only [textAt] at h
    simp only [if_neg h1, if_neg h2, if_neg h0, if_true, Option.map_eq_some_iff] at h
    obtain ⟨⟨a, b⟩, hx, he⟩ := h
    cases he
    rw [List.count_cons_of_ne (by decide), List.count_cons_of_ne (by decide)]
    exact ih hx
  | case8 d r h3 h4 h1 h2 =>
    simp only [textAt] at h
    simp only [if_neg h1, if_neg h2, if_neg h3, if_neg h4, if_true] at h
    cases h
  | case9 c d r h1 h2 h3 ih =>
    rw [textAt_plain h1 h2 h3, Option.map_eq_some_iff] at h
    obtain ⟨⟨a, b⟩, hx, he⟩ := h
    cases he
    rw [List.count_cons_of_ne h1]
    exact ih hx

theorem wordAt_count {x z : List UInt8} {wd : Wd} (h : wordAt x = some (wd, z)) : x.count 10 = z.count 10 := by
  cases x with
  | nil => simp [wordAt] at h
  | cons c r =>
    cases hL : isL c with
    | true =>
      rw [wordAt_name hL] at h
      split at h
      · cases h; exact tw_count
      · cases h
    | false =>
      cases hD : isD c with
      | true =>
        rw [wordAt_num hL hD, Option.map_eq_some_iff] at h
        obtain ⟨v, _, he⟩ := h
        cases he
        exact tw_count
      | false =>
        by_cases h34 : c = 34
        · subst h34
          rw [wordAt_text] at h
          unfold textR at h
          split at h
          · rename_i s y hx
            split at h
            · cases h
              rw [List.count_cons_of_ne (by decide)]
              exact textAt_count hx
            · cases h
          · cases h
        · rw [wordAt_sign hL hD h34, Option.map_eq_some_iff] at h
          obtain ⟨⟨p, y⟩, hp, he⟩ := h
          unfold signAt at hp
          rw [Option.map_eq_some_iff] at hp
          obtain ⟨q, hq, he2⟩ := hp
          cases he2
          cases he
          have hpre : p.isPrefixOf (c :: r) = true := List.find?_some (p := fun (p : List UInt8) => p.isPrefixOf (c :: r)) hq
          obtain ⟨t, ht⟩ := List.isPrefixOf_iff_prefix.1 hpre
          have h10 := sigs_no10 p (List.mem_of_find?_eq_some hq)
          rw [← ht]
          simp [List.count_append, List.count_eq_zero.2 h10]

theorem Lex.at {l : List UInt8} {ln : Nat} {rs : Rs} (h : Lex l ln rs) : LexAt (skip false l).1 (ln + (skip false l).2) rs := by
  rcases h.inv with ⟨n, h', rfl⟩ | ⟨n, x, h', hx, hw, rfl⟩ | ⟨n, x, z, w, r, h', hw, hr, rfl⟩
  · rw [h']; exact .inl ⟨rfl, rfl⟩
  · rw [h']; exact .inr (.inl ⟨hx, hw, rfl⟩)
  · rw [h']; exact .inr (.inr ⟨_, _, _, hw, hr, rfl⟩)

/-- Words, some lines further down. -/
def Rs.shift (k : Nat) : Rs → Rs
  | .error n => .bad (n + k)
  | .ok ws => .ok (ws.map (fun x => { x with line := x.line + k }))

theorem Lex.shift {l : List UInt8} {ln : Nat} {rs : Rs} (h : Lex l ln rs) (k : Nat) : Lex l (ln + k) (rs.shift k) := by
  induction h using Lex.ind with
  | done h => exact .done h
  | @bad l ln n x h hx hw =>
    have := Lex.bad (ln := ln + k) h hx hw
    have e : ln + k + n = ln + n + k := by omega
    rw [e] at this
    exact this
  | @more l ln n x z w r h hw hr ih =>
    have e : ln + n + k = ln + k + n := by omega
    rw [e] at ih
    have := Lex.more (ln := ln + k) h hw ih
    have e2 : (r.cons { w with line := ln + n }).shift k = (r.shift k).cons { w with line := ln + k + n } := by cases r <;> simp [Rs.cons, Rs.shift]; omega
    rw [e2]
    exact this

/-- The words of both. -/
def joinRs (ra rb : Rs) : Rs :=
  match ra with
  | .error n => .bad n
  | .ok ws => rb.pre ws

theorem Lex.join {a : List UInt8} {ln : Nat} {ra : Rs} (h : Lex a ln ra) (b : List UInt8) (rb : Rs) (hb : Lex b (ln + a.count 10 + 1) rb) : Lex (a ++ 10 :: b) ln (joinRs ra rb) := by
  induction h using Lex.ind with
  | @done l ln n h =>
    have hc := skip_count false l
    rw [h] at hc
    simp only [List.count_nil, Nat.add_zero] at hc
    have hs := (skip_app l b false).1 (by rw [h])
    rw [h] at hs
    have h2 := hb.at
    simp only [joinRs]
    rw [Rs.pre_nil]
    refine LexAt.lex ?_
    rw [hs]
    simp only
    have e : ln + (n + 1 + (skip false b).2) = ln + l.count 10 + 1 + (skip false b).2 := by omega
    rw [e]
    exact h2
  | @bad l ln n x h hx hw =>
    have hs := (skip_app l b false).2 (by rw [h]; exact hx)
    rw [h] at hs
    simp only at hs
    exact .bad hs (by simp) (by rw [wordAt_app hx, hw]; rfl)
  | @more l ln n x z w r h hw hr ih =>
    have hx : x ≠ [] := fun e => by rw [e] at hw; exact wordAt_nil hw
    have hs := (skip_app l b false).2 (by rw [h]; exact hx)
    rw [h] at hs
    simp only at hs
    have hc := skip_count false l
    rw [h] at hc
    simp only at hc
    have hcz := wordAt_count hw
    have e : ln + l.count 10 + 1 = ln + n + z.count 10 + 1 := by omega
    rw [e] at hb
    have h2 := Lex.more (ln := ln) (w := w) hs (by rw [wordAt_app hx, hw]; rfl) (ih hb)
    cases r with
    | error m => exact h2
    | ok ws =>
      simp only [joinRs, Rs.cons] at h2 ⊢
      rw [← Rs.cons_pre]
      exact h2

end Go.Proofs.YtpbempnenjfjdaaDoor
