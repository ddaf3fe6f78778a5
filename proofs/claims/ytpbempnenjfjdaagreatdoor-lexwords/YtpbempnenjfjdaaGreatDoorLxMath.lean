/- Words of a text, plainly. -/
import Derived.Lib.Strings
import Derived.Lib.ParseIntBCases
import Derived.Lib.ItoaNum
namespace Go.Proofs.YtpbempnenjfjdaaGreatDoor
set_option linter.unusedVariables false
set_option linter.unusedSimpArgs false

/-- Bytes. -/
def isL (c : UInt8) : Bool := decide ((97 ≤ c.toNat ∧ c.toNat ≤ 122) ∨ (65 ≤ c.toNat ∧ c.toNat ≤ 90) ∨ c.toNat = 95)

def isD (c : UInt8) : Bool := decide (48 ≤ c.toNat ∧ c.toNat ≤ 57)

def isN (c : UInt8) : Bool := isL c || isD c

def isB (c : UInt8) : Bool := decide (c.toNat = 32 ∨ c.toNat = 9 ∨ c.toNat = 10)

def noNl (c : UInt8) : Bool := decide (c.toNat ≠ 10)

theorem u8_eq {c : UInt8} {n : Nat} (h : n < 256) : c = UInt8.ofNat n ↔ c.toNat = n := by
  constructor
  · rintro rfl
    simp [Nat.mod_eq_of_lt h]
  · intro e
    rw [← e]
    simp

theorem eq10 {c : UInt8} : c = 10 ↔ c.toNat = 10 := u8_eq (n := 10) (by decide)

theorem eq34 {c : UInt8} : c = 34 ↔ c.toNat = 34 := u8_eq (n := 34) (by decide)

theorem eq92 {c : UInt8} : c = 92 ↔ c.toNat = 92 := u8_eq (n := 92) (by decide)

theorem eq47 {c : UInt8} : c = 47 ↔ c.toNat = 47 := u8_eq (n := 47) (by decide)

theorem eq48 {c : UInt8} : c = 48 ↔ c.toNat = 48 := u8_eq (n := 48) (by decide)

theorem eq110 {c : UInt8} : c = 110 ↔ c.toNat = 110 := u8_eq (n := 110) (by decide)

theorem eq32 {c : UInt8} : c = 32 ↔ c.toNat = 32 := u8_eq (n := 32) (by decide)

/-- A word, and its line. -/
structure Wd where
  k : Nat
  s : List UInt8
  n : Int
  line : Nat

/-- What is idle is passed: what is left, how many lines were. -/
def skip : Bool → List UInt8 → List UInt8 × Nat
  | _, [] => ([], 0)
  | true, c :: r => if c = 10 then ((skip false r).1, (skip false r).2 + 1) else skip true r
  | false, c :: r =>
    if isB c = true then ((skip false r).1, (skip false r).2 + (if c = 10 then 1 else 0))
    else if c = 47 ∧ r.head? = some 47 then skip true r
    else (c :: r, 0)

/-- A text behind its first quote: what it stands for, what is left. -/
def textAt : List UInt8 → Option (List UInt8 × List UInt8)
  | [] => none
  | [c] => if c = 34 then some ([], []) else none
  | c :: d :: r =>
    if c = 10 then none
    else if c = 34 then some ([], d :: r)
    else if c = 92 then
      if d = 34 ∨ d = 92 then (textAt r).map (fun x => (d :: x.1, x.2))
      else if d = 110 then (textAt r).map (fun x => (10 :: x.1, x.2))
      else none
    else (textAt (d :: r)).map (fun x => (c :: x.1, x.2))

def sigs : List (List UInt8) := [[61, 61], [33, 61], [60, 61], [40], [41], [123], [125], [91], [93], [44], [59], [58], [61], [60], [43], [45], [42], [47], [37], [35], [36]]

def signAt (l : List UInt8) : Option (List UInt8 × List UInt8) := (sigs.find? (fun p => p.isPrefixOf l)).map (fun p => (p, l.drop p.length))

/-- The number that letters and digits stand for. -/
def numV (s : List UInt8) : Option Int :=
  if 1 < s.length ∧ s.head? = some 48 then none
  else match Lib.parseIntB 64 s with
    | .ok v => some v
    | _ => none

/-- The word that begins here, and what is left. -/
def wordAt : List UInt8 → Option (Wd × List UInt8)
  | [] => none
  | c :: r =>
    if isL c = true then
      if ((c :: r).takeWhile isN).length ≤ 4096 then some (⟨1, (c :: r).takeWhile isN, 0, 0⟩, (c :: r).dropWhile isN) else none
    else if isD c = true then (numV ((c :: r).takeWhile isN)).map (fun v => (⟨2, [], v, 0⟩, (c :: r).dropWhile isN))
    else if c = 34 then
      match textAt r with
      | some (s, z) => if s.length ≤ 4096 then some (⟨3, s, 0, 0⟩, z) else none
      | none => none
    else (signAt (c :: r)).map (fun x => (⟨4, x.1, 0, 0⟩, x.2))

/-- What comes of a text's words: the line of what is none, or the words. -/
abbrev Rs := Except Nat (List Wd)

abbrev Rs.bad (line : Nat) : Rs := Except.error line

abbrev Rs.ok (ws : List Wd) : Rs := Except.ok ws

def Rs.cons (w : Wd) : Rs → Rs
  | .error n => .bad n
  | .ok ws => .ok (w :: ws)

def Rs.pre (xs : List Wd) : Rs → Rs
  | .error n => .bad n
  | .ok ws => .ok (xs ++ ws)

theorem Rs.pre_nil (r : Rs) : r.pre [] = r := by cases r <;> rfl

theorem Rs.pre_cons (xs : List Wd) (w : Wd) (r : Rs) : (r.cons w).pre xs = r.pre (xs ++ [w]) := by cases r <;> simp [Rs.pre, Rs.cons]

theorem Rs.cons_pre (xs : List Wd) (w : Wd) (r : Rs) : (r.pre xs).cons w = r.pre (w :: xs) := by cases r <;> simp [Rs.pre, Rs.cons]

/-- A text, from a line on, comes to this, in so many words at most. -/
def LexN : Nat → List UInt8 → Nat → Rs → Prop
  | 0, _, _, _ => False
  | k + 1, l, ln, rs => (∃ n, skip false l = ([], n) ∧ rs = .ok []) ∨ (∃ n x, skip false l = (x, n) ∧ x ≠ [] ∧ wordAt x = none ∧ rs = .bad (ln + n)) ∨ ∃ n x z w r, skip false l = (x, n) ∧ wordAt x = some (w, z) ∧ LexN k z (ln + n) r ∧ rs = Rs.cons { w with line := ln + n } r

/-- A text, from a line on, comes to this. -/
def Lex (l : List UInt8) (ln : Nat) (rs : Rs) : Prop := ∃ k, LexN k l ln rs

theorem Lex.done {l : List UInt8} {ln n : Nat} (h : skip false l = ([], n)) : Lex l ln (.ok []) := ⟨1, .inl ⟨n, h, rfl⟩⟩

theorem Lex.bad {l : List UInt8} {ln n : Nat} {x : List UInt8} (h : skip false l = (x, n)) (hx : x ≠ []) (hw : wordAt x = none) : Lex l ln (.bad (ln + n)) := ⟨1, .inr (.inl ⟨n, x, h, hx, hw, rfl⟩)⟩

theorem Lex.more {l : List UInt8} {ln n : Nat} {x z : List UInt8} {w : Wd} {r : Rs} (h : skip false l = (x, n)) (hw : wordAt x = some (w, z)) (hr : Lex z (ln + n) r) : Lex l ln (r.cons { w with line := ln + n }) := by
  obtain ⟨k, hk⟩ := hr
  exact ⟨k + 1, .inr (.inr ⟨n, x, z, w, r, h, hw, hk, rfl⟩)⟩

theorem Lex.inv {l : List UInt8} {ln : Nat} {rs : Rs} (h : Lex l ln rs) : (∃ n, skip false l = ([], n) ∧ rs = .ok []) ∨ (∃ n x, skip false l = (x, n) ∧ x ≠ [] ∧ wordAt x = none ∧ rs = .bad (ln + n)) ∨ ∃ n x z w r, skip false l = (x, n) ∧ wordAt x = some (w, z) ∧ Lex z (ln + n) r ∧ rs = Rs.cons { w with line := ln + n } r := by
  obtain ⟨k, hk⟩ := h
  cases k with
  | zero => exact hk.elim
  | succ k =>
    rcases hk with h | h | ⟨n, x, z, w, r, h1, h2, h3, h4⟩
    · exact .inl h
    · exact .inr (.inl h)
    · exact .inr (.inr ⟨n, x, z, w, r, h1, h2, ⟨k, h3⟩, h4⟩)

theorem Lex.ind {motive : (l : List UInt8) → (ln : Nat) → (rs : Rs) → Lex l ln rs → Prop}
    (done : ∀ {l : List UInt8} {ln n : Nat} (h : skip false l = ([], n)), motive l ln (.ok []) (Lex.done h))
    (bad : ∀ {l : List UInt8} {ln n : Nat} {x : List UInt8} (h : skip false l = (x, n)) (hx : x ≠ []) (hw : wordAt x = none), motive l ln (.bad (ln + n)) (Lex.bad h hx hw))
    (more : ∀ {l : List UInt8} {ln n : Nat} {x z : List UInt8} {w : Wd} {r : Rs} (h : skip false l = (x, n)) (hw : wordAt x = some (w, z)) (hr : Lex z (ln + n) r) (_ : motive z (ln + n) r hr), motive l ln (r.cons { w with line := ln + n }) (Lex.more h hw hr))
    {l : List UInt8} {ln : Nat} {rs : Rs} (h : Lex l ln rs) : motive l ln rs h := by
  obtain ⟨k, hk⟩ := h
  induction k generalizing l ln rs with
  | zero => exact hk.elim
  | succ k ih =>
    rcases hk with ⟨n, h1, rfl⟩ | ⟨n, x, h1, h2, h3, rfl⟩ | ⟨n, x, z, w, r, h1, h2, h3, rfl⟩
    · exact done h1
    · exact bad h1 h2 h3
    · exact more h1 h2 ⟨k, h3⟩ (ih h3)

theorem wordAt_nil {w : Wd} {z : List UInt8} (h : wordAt [] = some (w, z)) : False := by simp [wordAt] at h

theorem Lex.same {l : List UInt8} {ln : Nat} {a : Rs} (h : Lex l ln a) : ∀ {b : Rs}, Lex l ln b → a = b := by
  induction h using Lex.ind with
  | done h =>
    intro b hb
    rcases hb.inv with ⟨n, h', rfl⟩ | ⟨n, x, h', hx, hw, rfl⟩ | ⟨n, x, z, w, r, h', hw, hr, rfl⟩
    · rfl
    · rw [h] at h'; cases h'; exact absurd rfl hx
    · rw [h] at h'; cases h'; exact (wordAt_nil hw).elim
  | bad h hx hw =>
    intro b hb
    rcases hb.inv with ⟨n, h', rfl⟩ | ⟨n, x, h', hx', hw', rfl⟩ | ⟨n, x, z, w, r, h', hw', hr, rfl⟩
    · rw [h] at h'; cases h'; exact absurd rfl hx
    · rw [h] at h'; cases h'; rfl
    · rw [h] at h'; cases h'; rw [hw] at hw'; cases hw'
  | more h hw hr ih =>
    intro b hb
    rcases hb.inv with ⟨n, h', rfl⟩ | ⟨n, x, h', hx, hw', rfl⟩ | ⟨n, x, z, w, r, h', hw', hr', rfl⟩
    · rw [h] at h'; cases h'; exact (wordAt_nil hw).elim
    · rw [h] at h'; cases h'; rw [hw] at hw'; cases hw'
    · rw [h] at h'; cases h'
      rw [hw] at hw'; cases hw'
      rw [ih hr']

/-! ### What is idle, as the program passes it -/

theorem skip_true (l : List UInt8) : skip true l = skip false (l.dropWhile noNl) := by
  induction l with
  | nil => rfl
  | cons c r ih =>
    by_cases h : c = 10
    · subst h
      simp [skip, noNl, isB, List.dropWhile]
    · have hn : c.toNat ≠ 10 := fun e => h (eq10.2 e)
      simp [skip, noNl, h, hn, List.dropWhile, ih]

theorem not_isB47 : isB 47 = false := by decide

theorem skip_blanks (l : List UInt8) : skip false l = ((skip false (l.dropWhile isB)).1, (l.takeWhile isB).count 10 + (skip false (l.dropWhile isB)).2) := by
  induction l with
  | nil => rfl
  | cons c r ih =>
    by_cases h : isB c = true
    · simp only [skip, h, if_true, List.dropWhile, List.takeWhile]
      rw [ih]
      simp only [List.count_cons]
      congr 1
      by_cases h10 : c = 10
      · simp [h10]; omega
      · simp [h10]
    · simp [List.dropWhile, List.takeWhile, h]

theorem skip_step (l : List UInt8) (d : List UInt8) (n : Nat) (hd : d = l.dropWhile isB) (hn : n = (l.takeWhile isB).count 10) :
    skip false l = if ([47, 47] : List UInt8).isPrefixOf d = true then ((skip false (d.dropWhile noNl)).1, n + (skip false (d.dropWhile noNl)).2) else (d, n) := by
  rw [skip_blanks, ← hd, ← hn]
  have hb : d = [] ∨ ∃ c r, d = c :: r ∧ isB c = false := by
    cases hdd : d with
    | nil => exact .inl rfl
    | cons c r =>
      refine .inr ⟨c, r, rfl, ?_⟩
      have := List.head?_dropWhile_not isB l
      rw [← hd, hdd] at this
      simpa using this
  rcases hb with rfl | ⟨c, r, rfl, hc⟩
  · simp [skip, List.isPrefixOf]
  · by_cases h : c = 47 ∧ r.head? = some 47
    · obtain ⟨rfl, hr⟩ := h
      cases r with
      | nil => simp at hr
      | cons a r =>
        simp at hr
        subst hr
        have e : skip false (47 :: 47 :: r) = skip true (47 :: r) := by simp [skip, not_isB47]
        have e2 : (47 :: 47 :: r : List UInt8).dropWhile noNl = (47 :: r : List UInt8).dropWhile noNl := by simp [List.dropWhile, noNl]
        rw [e, skip_true, e2]
        simp [List.isPrefixOf]
    · have e : skip false (c :: r) = (c :: r, 0) := by simp [skip, hc, h]
      rw [e]
      have : ¬ (([47, 47] : List UInt8).isPrefixOf (c :: r) = true) := by
        intro e2
        apply h
        cases r with
        | nil => simp [List.isPrefixOf] at e2
        | cons a r =>
          simp [List.isPrefixOf] at e2
          exact ⟨e2.1.symm, by simp [e2.2]⟩
      rw [if_neg this]
      simp

/-! ### A text, as the program takes it -/

/-- The bytes of a text up to its quote or its line's end. -/
def inside : Bool → List UInt8 → List UInt8 × List UInt8
  | _, [] => ([], [])
  | e, c :: r => if c = 10 ∨ (c = 34 ∧ e = false) then ([], c :: r) else (c :: (inside (decide (c = 92) && !e) r).1, (inside (decide (c = 92) && !e) r).2)

/-- What bytes stand for. -/
def unesc : List UInt8 → Option (List UInt8)
  | [] => some []
  | [c] => if c = 92 then none else some [c]
  | c :: d :: r =>
    if c = 92 then
      if d = 34 ∨ d = 92 then (unesc r).map (fun x => d :: x)
      else if d = 110 then (unesc r).map (fun x => 10 :: x)
      else none
    else (unesc (d :: r)).map (fun x => c :: x)

theorem unesc_plain {c : UInt8} (h : c ≠ 92) (l : List UInt8) : unesc (c :: l) = (unesc l).map (fun x => c :: x) := by
  cases l with
  | nil => simp [unesc, h]
  | cons d r => simp [unesc, h]

theorem unesc_app {a : List UInt8} (h : (92 : UInt8) ∉ a) (l : List UInt8) : unesc (a ++ l) = (unesc l).map (fun x => a ++ x) := by
  induction a with
  | nil => simp
  | cons c r ih =>
    simp only [List.mem_cons, not_or] at h
    rw [List.cons_append, unesc_plain (Ne.symm h.1), ih h.2]
    cases unesc l <;> rfl

theorem textAt_plain {c : UInt8} (h1 : c ≠ 10) (h2 : c ≠ 34) (h3 : c ≠ 92) (l : List UInt8) : textAt (c :: l) = (textAt l).map (fun x => (c :: x.1, x.2)) := by
  cases l with
  | nil => simp [textAt, h2]
  | cons d r => simp [textAt, h1, h2, h3]

theorem textAt_eq (l : List UInt8) : textAt l = if (inside false l).2.head? = some 34 then (unesc (inside false l).1).map (fun s => (s, (inside false l).2.tail)) else none := by
  induction l using textAt.induct with
  | case1 => rfl
  | case2 => simp [textAt, inside, unesc]
  | case3 c h =>
    by_cases h10 : c = 10
    · subst h10; simp [textAt, inside]
    · simp [textAt, inside, h, h10]
  | case4 d r => simp [textAt, inside]
  | case5 d r h => simp [textAt, inside, unesc]
  | case6 d r hd h1 h2 ih =>
    rcases hd with rfl | rfl
    · simp only [textAt, inside]
      simp only [ih]
      simp [unesc]
      split
      · cases unesc (inside false r).1 <;> rfl
      · rfl
    · simp only [textAt, inside]
      simp only [ih]
      simp [unesc]
      split
      · cases unesc (inside false r).1 <;> rfl
      · rfl
  | case7 r h1 h2 h3 ih =>
    simp only [textAt, inside]
    simp only [ih]
    simp [unesc]
    split
    · cases unesc (inside false r).1 <;> rfl
    · rfl
  | case8 d r h3 h4 h1 h2 =>
    by_cases h10 : d = 10
    · subst h10
      simp [textAt, inside]
    · have : ¬ (d = 34 ∨ d = 92) := h3
      simp only [not_or] at this
      simp [textAt, inside, unesc, h10, this.1, this.2, h4]
  | case9 c d r h1 h2 h3 ih =>
    rw [textAt_plain h1 h2 h3, ih]
    have e : inside false (c :: d :: r) = (c :: (inside false (d :: r)).1, (inside false (d :: r)).2) := by
      rw [inside]
      simp [h1, h2, h3]
    rw [e]
    simp only
    rw [unesc_plain h3]
    split
    · cases unesc (inside false (d :: r)).1 <;> rfl
    · rfl

end Go.Proofs.YtpbempnenjfjdaaGreatDoor
