/- What is reached, and how many words it has, when an object is made or changed. -/
import Derived.Test.YtgokofomoachaaaGreatDoorPnList
import Derived.Test.YtgokofomoachaaaGreatDoorPbTexts
import Derived.Test.YtgokofomoachaaaGreatDoorPwMap
import Derived.Test.YtgokofomoachaaaGreatDoorPoShow
namespace Go.Proofs.YtgokofomoachaaaGreatDoor
set_option linter.unusedVariables false
set_option linter.unusedSimpArgs false

variable {S : List Om} {R : List Vl} {o' : Om}

theorem lead_of {v : Vl} {i : Nat} {o : Om} (h3 : 3 ≤ v.k) (h7 : v.k ≤ 7) (hn : v.n = (i : Int) + 1) (hS : S[i]? = some o) (hk : o.k = v.k) : leadO S v = some o := by
  have hi := (List.getElem?_eq_some_iff.1 hS).1
  unfold leadO
  rw [if_pos ⟨h3, h7, by omega, by omega⟩, show (v.n - 1).toNat = i by omega, hS]
  simp [hk]

theorem leadA {v : Vl} {o : Om} (h : leadO S v = some o) : leadO (S ++ [o']) v = some o := by
  obtain ⟨h3, h7, hk, i, hn, hi, hS⟩ := leadO_some h
  exact lead_of h3 h7 hn (by rw [List.getElem?_append_left hi]; exact hS) hk

theorem objAt_A {x : Int} (h : x ≤ S.length) : objAt (S ++ [o']) x = objAt S x := by
  unfold objAt
  by_cases h1 : 1 ≤ x
  · rw [if_pos h1, if_pos h1, List.getElem?_append_left (by omega)]
  · rw [if_neg h1, if_neg h1]

theorem objAt_N : objAt (S ++ [o']) ((S.length : Int) + 1) = some o' := by
  unfold objAt
  rw [if_pos (by omega), show ((S.length : Int) + 1 - 1).toNat = S.length by omega, List.getElem?_append_right (Nat.le_refl _)]
  simp

theorem lead_three {v : Vl} (h : leadO S v ≠ none) : 3 ≤ v.k := by
  cases hl : leadO S v with
  | none => exact (h hl).elim
  | some o => exact (leadO_some hl).1

theorem lead_back {T : List Om} {v : Vl} (hv : valP S v) (h : leadO T v ≠ none) : leadO S v ≠ none := hv.2.2 (lead_three h)

/-- All roots may be. -/
def RootsOk (S : List Om) (R : List Vl) : Prop := ∀ v ∈ R, checkP S v

theorem roots_obj (h : RootsOk S R) {x : Int} {o : Om} (hx : Reach S R x) (ho : objAt S x = some o) : objP S o := by
  obtain ⟨v, hv, hr⟩ := reach_any hx
  exact (h v hv).2 x o hr ho

/-- An object is made. -/
theorem reach_A (h : RootsOk S R) (hl : ∀ v ∈ o'.l, v ∈ R) {nv : Vl} (hn : nv.n = (S.length : Int) + 1) {y : Int} (hy : Reach (S ++ [o']) (nv :: R) y) : y = (S.length : Int) + 1 ∨ Reach S R y := by
  refine hy (fun y => y = (S.length : Int) + 1 ∨ Reach S R y) ?_ ?_
  · intro v hv hlv
    rcases List.mem_cons.1 hv with rfl | hv
    · exact .inl hn
    · exact .inr (Reach.root hv (lead_back (h v hv).1 hlv))
  · intro x o hx ho v hv hlv
    rcases hx with rfl | hx
    · rw [objAt_N] at ho; cases ho
      exact .inr (Reach.root (hl v hv) (lead_back (h v (hl v hv)).1 hlv))
    · rw [objAt_A (reach_le hx)] at ho
      exact .inr (Reach.next hx ho hv (lead_back ((roots_obj h hx ho).2.1 v hv).1 hlv))

theorem sumIf_snoc' {f : Int → Bool} : ∀ {l : List Nat} {b : Int} {a : Nat}, sumIf f b (l ++ [a]) = sumIf f b l + (if f (b + l.length) then a else 0)
  | [], b, a => by simp [sumIf]
  | x :: l, b, a => by
    simp only [List.cons_append, sumIf, sumIf_snoc' (l := l), List.length_cons]
    rw [show b + 1 + (l.length : Int) = b + ((l.length + 1 : Nat) : Int) by omega]
    omega

theorem sumIf_monoR {f g : Int → Bool} : ∀ {b : Int} {l : List Nat}, (∀ x, b ≤ x → x < b + l.length → f x = true → g x = true) → sumIf f b l ≤ sumIf g b l
  | _, [], _ => Nat.le_refl _
  | b, a :: r, h => by
    have ih := sumIf_monoR (f := f) (g := g) (b := b + 1) (l := r) (fun x h1 h2 => h x (by omega) (by simp; omega))
    simp only [sumIf]
    cases hf : f b
    · simp; omega
    · simp [h b (by omega) (by simp; omega) hf]; omega

theorem sumIf_set {f : Int → Bool} {n m' : Nat} : ∀ {b : Int} {l : List Nat} {i m : Nat}, l[i]? = some m → m' ≤ m + n → sumIf f b (l.set i m') ≤ sumIf f b l + n
  | b, [], i, m, h, _ => by simp at h
  | b, a :: r, 0, m, h, hm => by
    simp at h; subst h
    simp only [List.set_cons_zero, sumIf]
    cases f b
    · simp
    · simp; omega
  | b, a :: r, i + 1, m, h, hm => by
    have ih := sumIf_set (f := f) (b := b + 1) (l := r) (i := i) (m := m) (by simpa using h) hm
    simp only [List.set_cons_succ, sumIf]
    omega

theorem sumIf_leR {f : Int → Bool} {m : Nat} : ∀ {b : Int} {l : List Nat}, (∀ (j : Nat) (a : Nat), l[j]? = some a → f (b + j) = true → a ≤ m) → sumIf f b l ≤ l.length * m
  | _, [], _ => by simp [sumIf]
  | b, a :: r, h => by
    have ih := sumIf_leR (f := f) (m := m) (b := b + 1) (l := r) (fun j c hj hf => h (j + 1) c (by simpa using hj) (by rw [show b + ((j + 1 : Nat) : Int) = b + 1 + (j : Int) by omega]; exact hf))
    have e : (a :: r).length * m = r.length * m + m := by simp [Nat.succ_mul]
    rw [e]
    simp only [sumIf]
    cases hf : f b
    · simp; omega
    · have := h 0 a (by simp) (by simpa using hf)
      simp; omega

open Classical in
theorem words_A (h : RootsOk S R) (hl : ∀ v ∈ o'.l, v ∈ R) {nv : Vl} (hn : nv.n = (S.length : Int) + 1) : wordsR (S ++ [o']) (nv :: R) ≤ wordsR S R + wordsO o' := by
  unfold wordsR
  rw [List.map_append, List.map_singleton, sumIf_snoc']
  have h1 : sumIf (fun y => decide (Reach (S ++ [o']) (nv :: R) y)) 1 (S.map wordsO) ≤ sumIf (fun y => decide (Reach S R y)) 1 (S.map wordsO) := sumIf_monoR (fun x hx1 hx2 hx => by
    simp at hx hx2 ⊢
    rcases reach_A h hl hn hx with e | e
    · omega
    · exact e)
  split <;> omega

open Classical in
theorem words_S {x : Vl} (hg : leadO S x ≠ none → Reach S R x.n) : wordsR S (x :: R) ≤ wordsR S R := by
  unfold wordsR
  refine sumIf_monoR (fun y _ _ hy => ?_)
  simp at hy ⊢
  exact hy (Reach S R) (fun v hv hlv => by
    rcases List.mem_cons.1 hv with rfl | hv
    · exact hg hlv
    · exact Reach.root hv hlv) (fun z o hz ho v hv hlv => Reach.next hz ho hv hlv)

theorem reach_S {x : Vl} (hg : leadO S x ≠ none → Reach S R x.n) {y : Int} (hy : Reach S [x] y) : Reach S R y :=
  hy (Reach S R) (fun v hv hlv => by simp at hv; subst hv; exact hg hlv) (fun z o hz ho v hv hlv => Reach.next hz ho hv hlv)

theorem check_S (h : RootsOk S R) {x : Vl} (hv : valP S x) (hg : leadO S x ≠ none → Reach S R x.n) : checkP S x := ⟨hv, fun y o hr ho => roots_obj h (reach_S hg hr) ho⟩

theorem val_A {v : Vl} (h : valP S v) : valP (S ++ [o']) v := ⟨h.1, h.2.1, fun h3 => by
  obtain ⟨o, ho⟩ := Option.ne_none_iff_exists'.1 (h.2.2 h3)
  rw [leadA ho]; simp⟩

theorem same_A {a b : Vl} (ha : valP S a) (hb : valP S b) (h : sameP (S ++ [o']) a b) : sameP S a b := by
  obtain ⟨hk, h1 | h1 | ⟨h3, u, u', hu, hu', he⟩⟩ := h
  · exact ⟨hk, .inl h1⟩
  · exact ⟨hk, .inr (.inl h1)⟩
  · obtain ⟨x, hx⟩ := Option.ne_none_iff_exists'.1 (ha.2.2 (by omega))
    obtain ⟨x', hx'⟩ := Option.ne_none_iff_exists'.1 (hb.2.2 (by omega))
    rw [leadA hx] at hu; cases hu
    rw [leadA hx'] at hu'; cases hu'
    exact ⟨hk, .inr (.inr ⟨h3, _, _, hx, hx', he⟩)⟩

theorem obj_A {o : Om} (h : objP S o) : objP (S ++ [o']) o :=
  ⟨h.1, fun v hv => ⟨val_A (h.2.1 v hv).1, (h.2.1 v hv).2⟩, fun h5 i j a b ha hb hj hs => h.2.2 h5 i j a b ha hb hj (same_A (h.2.1 a (List.mem_of_getElem? ha)).1 (h.2.1 b (List.mem_of_getElem? hb)).1 hs)⟩

theorem check_A (h : RootsOk S R) (hl : ∀ v ∈ o'.l, v ∈ R) (h3 : 3 ≤ o'.k) (h7 : o'.k ≤ 7) (ho : objP (S ++ [o']) o') : checkP (S ++ [o']) ⟨o'.k, (S.length : Int) + 1⟩ := by
  have hlead : leadO (S ++ [o']) ⟨o'.k, (S.length : Int) + 1⟩ = some o' := lead_of (i := S.length) h3 h7 rfl (by rw [List.getElem?_append_right (Nat.le_refl _)]; simp) rfl
  refine ⟨⟨fun e => by simp only at e; omega, fun e => by simp only at e; omega, fun _ => by rw [hlead]; simp⟩, fun x o hr hox => ?_⟩
  rcases reach_A h hl (nv := ⟨o'.k, (S.length : Int) + 1⟩) rfl (reach_sub (by simp) hr) with rfl | hx
  · rw [objAt_N] at hox; cases hox; exact ho
  · rw [objAt_A (reach_le hx)] at hox
    exact obj_A (roots_obj h hx hox)

/-- An object is another one. -/
theorem leadT {i : Nat} {o o2 : Om} (ho : S[i]? = some o) (hk : o2.k = o.k) {v : Vl} (h : leadO (S.set i o2) v ≠ none) : leadO S v ≠ none := by
  obtain ⟨u, hu⟩ := Option.ne_none_iff_exists'.1 h
  obtain ⟨h3, h7, hku, j, hn, hj, hS⟩ := leadO_some hu
  by_cases e : j = i
  · subst e
    rw [List.getElem?_set_self (List.getElem?_eq_some_iff.1 ho).1] at hS
    cases hS
    rw [lead_of h3 h7 hn ho (by omega)]; simp
  · rw [List.getElem?_set_ne (fun e2 => e e2.symm)] at hS
    rw [lead_of h3 h7 hn hS hku]; simp

theorem objAt_T {i : Nat} {o2 : Om} (hi : i < S.length) {x : Int} (hx : x ≠ (i : Int) + 1) : objAt (S.set i o2) x = objAt S x := by
  unfold objAt
  by_cases h1 : 1 ≤ x
  · rw [if_pos h1, if_pos h1, List.getElem?_set_ne (by omega)]
  · rw [if_neg h1, if_neg h1]

theorem objAt_i {i : Nat} (hi : i < S.length) : objAt S ((i : Int) + 1) = S[i]? := by
  unfold objAt
  rw [if_pos (by omega), show ((i : Int) + 1 - 1).toNat = i by omega]

theorem reach_T {i : Nat} {o o2 : Om} (ho : S[i]? = some o) (hk : o2.k = o.k) (hr : Reach S R ((i : Int) + 1)) (hl : ∀ v ∈ o2.l, v ∈ o.l ∨ v ∈ R) {y : Int} (hy : Reach (S.set i o2) (⟨0, 0⟩ :: R) y) : Reach S R y := by
  have hi := (List.getElem?_eq_some_iff.1 ho).1
  refine hy (Reach S R) ?_ ?_
  · intro v hv hlv
    rcases List.mem_cons.1 hv with rfl | hv
    · have := lead_three hlv; simp at this
    · exact Reach.root hv (leadT ho hk hlv)
  · intro x u hx hu v hv hlv
    by_cases e : x = (i : Int) + 1
    · subst e
      rw [objAt_i (by simpa using hi), List.getElem?_set_self hi] at hu
      cases hu
      rcases hl v hv with h | h
      · exact Reach.next hr (by rw [objAt_i hi]; exact ho) h (leadT ho hk hlv)
      · exact Reach.root h (leadT ho hk hlv)
    · rw [objAt_T hi e] at hu
      exact Reach.next hx hu hv (leadT ho hk hlv)

open Classical in
theorem words_T {i : Nat} {o o2 : Om} (ho : S[i]? = some o) (hk : o2.k = o.k) (hr : Reach S R ((i : Int) + 1)) (hl : ∀ v ∈ o2.l, v ∈ o.l ∨ v ∈ R) {n : Nat} (hn : wordsO o2 ≤ wordsO o + n) : wordsR (S.set i o2) (⟨0, 0⟩ :: R) ≤ wordsR S R + n := by
  unfold wordsR
  have h1 : sumIf (fun y => decide (Reach (S.set i o2) (⟨0, 0⟩ :: R) y)) 1 ((S.set i o2).map wordsO) ≤ sumIf (fun y => decide (Reach S R y)) 1 ((S.set i o2).map wordsO) := sumIf_monoR (fun x _ _ hx => by
    simp at hx ⊢
    exact reach_T ho hk hr hl hx)
  rw [List.map_set] at h1 ⊢
  exact Nat.le_trans h1 (sumIf_set (m := wordsO o) (by rw [List.getElem?_map, ho]; rfl) hn)

theorem check_nil (T : List Om) : checkP T ⟨0, 0⟩ :=
  ⟨⟨fun _ => rfl, fun e => by simp at e, fun e => by simp at e⟩, fun x o hr _ => (hr (fun _ => False) (fun v hv hlv => by simp at hv; subst hv; have := lead_three hlv; simp at this) (fun _ _ h _ => h.elim)).elim⟩

theorem obj_words {o : Om} (h : formP o) (h3 : 3 ≤ o.k) (h7 : o.k ≤ 7) (hl : o.l.length ≤ 50002) : wordsO o ≤ 600000 := by
  obtain ⟨f3, f4, f5, f6, f7⟩ := h
  unfold wordsO
  by_cases k3 : o.k = 3
  · rw [if_pos k3]; have := (f3 k3).1; omega
  · rw [if_neg k3]
    by_cases k6 : o.k = 6
    · rw [if_pos k6]; omega
    · rw [if_neg k6]
      split
      · rename_i hh
        have : roomP o := by
          rcases hh.1 with e | e
          · exact (f4 e).2.1
          · exact (f5 e).2.2.1
        unfold roomP at this
        omega
      · omega

open Classical in
theorem words_bound (h : RootsOk S R) (hl : ∀ o ∈ S, o.l.length ≤ 50000) : wordsR S R ≤ S.length * 600000 := by
  unfold wordsR
  refine Nat.le_trans (sumIf_leR (m := 600000) (fun j a hj hf => ?_)) (by simp)
  simp at hf
  rw [List.getElem?_map] at hj
  obtain ⟨o, ho, rfl⟩ := Option.map_eq_some_iff.1 hj
  have hi := (List.getElem?_eq_some_iff.1 ho).1
  have e : (1 : Int) + j = (j : Int) + 1 := by omega
  rw [e] at hf
  have hat : objAt S ((j : Int) + 1) = some o := by rw [objAt_i hi]; exact ho
  obtain ⟨-, -, u, hu, k3, k7⟩ := hf.num
  rw [hat] at hu; cases hu
  have := hl o (List.mem_of_getElem? ho)
  exact obj_words (roots_obj h hf hat).1 k3 k7 (by omega)

end Go.Proofs.YtgokofomoachaaaGreatDoor

namespace Go.Proofs.YtgokofomoachaaaGreatDoor
set_option linter.unusedVariables false
set_option linter.unusedSimpArgs false
open Go.RowKit

variable {S : List Om} {R : List Vl}

/-- A store and its roots, as they are asked about. -/
structure RootS (S : List Om) (R : List Vl) : Prop where
  ok : RootsOk S R
  len : S.length ≤ 50000
  vals : ∀ o ∈ S, o.l.length ≤ 50000
  str : ∀ o ∈ S, o.s.size ≤ 50000
  fit : ∀ o ∈ S, o.fits
  rfit : ∀ v ∈ R, v.fits

/-- What an operation comes to, held against the store and the roots. -/
structure KeepD (S : List Om) (R : List Vl) (D : Dv) : Prop where
  len : D.S.length ≤ S.length + 1
  vals : ∀ y ∈ D.S, y.l.length ≤ 50002
  str : ∀ y ∈ D.S, y.s.size ≤ 50000
  fit : ∀ y ∈ D.S, y.fits
  how : (D.t ≠ ⟨#[]⟩ ∧ D.S = S ∧ D.n = 0 ∧ D.v = ⟨0, 0⟩) ∨ (D.t = ⟨#[]⟩ ∧ 0 ≤ D.n ∧ D.n ≤ 1000000 ∧ (wordsR D.S (D.v :: R) : Int) ≤ (wordsR S R : Int) + D.n ∧ checkP D.S D.v)

theorem keep_thr (h : RootS S R) {t : ByteArray} (ht : t ≠ ⟨#[]⟩) : KeepD S R ⟨S, ⟨0, 0⟩, t, 0⟩ :=
  ⟨by simp, fun y hy => by have := h.vals y hy; omega, fun y hy => h.str y hy, h.fit, .inl ⟨ht, rfl, rfl, rfl⟩⟩

theorem keep_val (h : RootS S R) {x : Vl} (hv : valP S x) (hg : leadO S x ≠ none → Reach S R x.n) : KeepD S R ⟨S, x, ⟨#[]⟩, 0⟩ :=
  ⟨by simp, fun y hy => by have := h.vals y hy; omega, fun y hy => h.str y hy, h.fit, .inr ⟨rfl, by simp, by simp, by have := words_S (S := S) (R := R) hg; simp; omega, check_S h.ok hv hg⟩⟩

theorem keep_plain (h : RootS S R) {x : Vl} (h0 : x.k = 0 → x.n = 0) (h1 : x.k = 1 → x.n = 0 ∨ x.n = 1) (h3 : x.k < 3) : KeepD S R ⟨S, x, ⟨#[]⟩, 0⟩ :=
  keep_val h ⟨h0, h1, fun e => by omega⟩ (fun e => by have := lead_three e; omega)

theorem keep_new (h : RootS S R) {o' : Om} (h3 : 3 ≤ o'.k) (h7 : o'.k ≤ 7) (ho : objP (S ++ [o']) o') (hl : ∀ v ∈ o'.l, v ∈ R) (hf : o'.fits) (hll : o'.l.length ≤ 50000) (hs : o'.s.size ≤ 50000) : KeepD S R ⟨S ++ [o'], ⟨o'.k, (S.length : Int) + 1⟩, ⟨#[]⟩, (wordsO o' : Nat)⟩ := by
  refine ⟨by simp, fun y hy => ?_, fun y hy => ?_, fun y hy => ?_, .inr ⟨rfl, by simp, ?_, ?_, check_A h.ok hl h3 h7 ho⟩⟩
  · rcases List.mem_append.1 hy with hy | hy
    · have := h.vals y hy; omega
    · simp at hy; subst hy; omega
  · rcases List.mem_append.1 hy with hy | hy
    · exact h.str y hy
    · simp at hy; subst hy; exact hs
  · rcases List.mem_append.1 hy with hy | hy
    · exact h.fit y hy
    · simp at hy; subst hy; exact hf
  · have := obj_words ho.1 h3 h7 (by omega)
    show ((wordsO o' : Nat) : Int) ≤ 1000000
    omega
  · have := words_A h.ok hl (nv := ⟨o'.k, (S.length : Int) + 1⟩) rfl
    show ((wordsR (S ++ [o']) (⟨o'.k, (S.length : Int) + 1⟩ :: R) : Nat) : Int) ≤ (wordsR S R : Int) + (wordsO o' : Nat)
    omega

theorem keep_set (h : RootS S R) {i : Nat} {o o2 : Om} (ho : S[i]? = some o) (hk : o2.k = o.k) (hr : Reach S R ((i : Int) + 1)) (hl : ∀ v ∈ o2.l, v ∈ o.l ∨ v ∈ R) {n : Nat} (hn : wordsO o2 ≤ wordsO o + n) (hn1 : n ≤ 1000000) (hs : o2.s = o.s) (hll : o2.l.length ≤ 50002) (hroom : -9223372036854775808 ≤ o2.room ∧ o2.room ≤ 9223372036854775807) (hfn : o2.fn = o.fn) : KeepD S R ⟨S.set i o2, ⟨0, 0⟩, ⟨#[]⟩, n⟩ := by
  have hom := List.mem_of_getElem? ho
  refine ⟨by simp, fun y hy => ?_, fun y hy => ?_, fun y hy => ?_, .inr ⟨rfl, by simp, by show (n : Int) ≤ 1000000; omega, ?_, check_nil _⟩⟩
  · rcases List.mem_or_eq_of_mem_set hy with hy | rfl
    · have := h.vals y hy; omega
    · exact hll
  · rcases List.mem_or_eq_of_mem_set hy with hy | rfl
    · exact h.str y hy
    · rw [hs]; exact h.str o hom
  · rcases List.mem_or_eq_of_mem_set hy with hy | rfl
    · exact h.fit y hy
    · have hf := h.fit o hom
      refine ⟨by rw [hk]; exact hf.1, fun v hv => ?_, hroom, by rw [hfn]; exact hf.2.2.2⟩
      rcases hl v hv with e | e
      · exact hf.2.1 v e
      · exact h.rfit v e
  · have := words_T (R := R) ho hk hr hl hn
    show ((wordsR (S.set i o2) (⟨0, 0⟩ :: R) : Nat) : Int) ≤ (wordsR S R : Int) + (n : Int)
    omega

theorem tKind_ne : tKind ≠ ⟨#[]⟩ := by unfold tKind; simp

theorem tGreat_ne : tGreat ≠ ⟨#[]⟩ := by unfold tGreat; simp

theorem tItems_ne : tItems ≠ ⟨#[]⟩ := by unfold tItems; simp

theorem tBounds_ne : tBounds ≠ ⟨#[]⟩ := by unfold tBounds; simp

theorem keep_ref (h : RootS S R) : KeepD S R (refD S) := keep_thr h tKind_ne

theorem keep_text (h : RootS S R) {t : ByteArray} (ht : t.size ≤ 4096) : KeepD S R ⟨S ++ [txtO t], ⟨3, (S.length : Int) + 1⟩, ⟨#[]⟩, (wordsO (txtO t) : Nat)⟩ :=
  keep_new (o' := txtO t) h (by simp [txtO]) (by simp [txtO])
    ⟨⟨fun _ => ⟨by show (t.size : Int) ≤ 4096; omega, by simp [txtO], rfl, rfl⟩, fun e => by simp [txtO] at e, fun e => by simp [txtO] at e, fun e => by simp [txtO] at e, fun e => by simp [txtO] at e⟩, fun v hv => by simp [txtO] at hv, fun e => by simp [txtO] at e⟩
    (fun v hv => by simp [txtO] at hv) ⟨by simp [txtO], fun v hv => by simp [txtO] at hv, by simp [txtO], by simp [txtO], by simp [txtO]⟩ (by simp [txtO]) (by show t.size ≤ 50000; omega)

theorem bin_keep (h : RootS S R) {a b : Vl} {D : Dv} (hD : BinR S 1 a b D) : KeepD S R D := by
  rcases hD with ⟨-, rfl⟩ | ⟨-, x, y, r, -, -, -, rfl⟩
  · exact keep_ref h
  · unfold binP
    rw [if_neg (by decide), if_neg (by decide)]
    split
    · unfold intsR
      rw [if_pos rfl]
      exact keep_plain h (fun e => by simp at e) (fun e => by simp at e) (by simp)
    · split
      · rw [if_pos rfl]
        split
        · exact keep_thr h tGreat_ne
        · rename_i hz
          exact keep_text h (by omega)
      · exact keep_ref h

theorem show_keep (h : RootS S R) (v : Vl) (hz : ¬ 4096 < (textB S v).length → (txV S v).size ≤ 4096) : KeepD S R (showP S v) := by
  unfold showP
  split
  · exact keep_ref h
  · split
    · exact keep_thr h tGreat_ne
    · rename_i hn
      exact keep_text h (hz hn)

theorem list_keep (h : RootS S R) {D : Dv} (hl : R.length ≤ 3) (hD : ListR S R D) : KeepD S R D := by
  rcases hD with ⟨-, rfl⟩ | ⟨hf, rfl⟩
  · exact keep_ref h
  · exact keep_new (o' := lstO R) h (by simp [lstO]) (by simp [lstO]) ((obj_list (by omega)).2 (fun v hv => ⟨val_A (hf v hv).2.1, (hf v hv).1⟩)) (fun v hv => hv) ⟨by simp [lstO], h.rfit, ⟨by show (-9223372036854775808 : Int) ≤ (R.length : Int); omega, by show (R.length : Int) ≤ 9223372036854775807; omega⟩, by simp [lstO], by simp [lstO]⟩ (by show R.length ≤ 50000; omega) (by show (0 : Nat) ≤ 50000; omega)

theorem map_keep (h : RootS S R) {a b : Vl} (ha : a ∈ R) (hb : b ∈ R) {D : Dv} (hD : MapR S [a, b] D) : KeepD S R D := by
  rcases hD with ⟨-, rfl⟩ | ⟨hf, -, out, ho, rfl⟩
  · exact keep_ref h
  · have hout : out = [a, b] := by
      refine each_one ho ?_
      rw [show [a, b].length / 2 = 1 by simp]
      exact ⟨[], none, a, b, rfl, rfl, rfl, fun j y _ hy => by simp at hy, rfl⟩
    subst hout
    have hfa := hf a (by simp)
    have hfb := hf b (by simp)
    refine keep_new (o' := mapM [a, b] 2) h (by simp [mapM]) (by simp [mapM]) ⟨⟨fun e => by simp [mapM] at e, fun e => by simp [mapM] at e, fun _ => ⟨by simp [mapM], by simp [mapM], ⟨by simp [mapM], by simp [mapM]⟩, rfl, rfl⟩, fun e => by simp [mapM] at e, fun e => by simp [mapM] at e⟩, fun v hv => ?_, fun _ i j u u' hi hj hlt hs => ?_⟩ (fun v hv => ?_) ⟨by simp [mapM], fun v hv => ?_, by simp [mapM], by simp [mapM], by simp [mapM]⟩ (by simp [mapM]) (by show (0 : Nat) ≤ 50000; omega)
    · have hv' : v = a ∨ v = b := by simpa [mapM] using hv
      rcases hv' with rfl | rfl
      · exact ⟨val_A hfa.2.1, by simp [mapM, hfa.1]⟩
      · exact ⟨val_A hfb.2.1, by simp [mapM, hfb.1]⟩
    · have := (List.getElem?_eq_some_iff.1 hi).1
      simp [mapM] at this
      omega
    · have hv' : v = a ∨ v = b := by simpa [mapM] using hv
      rcases hv' with rfl | rfl
      · exact ha
      · exact hb
    · have hv' : v = a ∨ v = b := by simpa [mapM] using hv
      rcases hv' with rfl | rfl
      · exact h.rfit _ ha
      · exact h.rfit _ hb

theorem root_reach (h : RootS S R) {a : Vl} (ha : a ∈ R) {o : Om} (ho : leadO S a = some o) : Reach S R a.n ∧ objAt S a.n = some o ∧ objP S o := by
  have hr : Reach S R a.n := Reach.root ha (by rw [ho]; simp)
  exact ⟨hr, (leadO_at ho).1, roots_obj h.ok hr (leadO_at ho).1⟩

theorem item_keep (h : RootS S R) {a : Vl} (ha : a ∈ R) {o : Om} (ho : leadO S a = some o) {x : Vl} (hx : x ∈ o.l) : KeepD S R ⟨S, x, ⟨#[]⟩, 0⟩ := by
  obtain ⟨hr, hat, hob⟩ := root_reach h ha ho
  exact keep_val h (hob.2.1 x hx).1 (fun hl => Reach.next hr hat hx hl)

theorem get_keep (h : RootS S R) {a k : Vl} (ha : a ∈ R) {D : Dv} (hD : GetR S a k D) : KeepD S R D := by
  have hnil : KeepD S R ⟨S, ⟨0, 0⟩, ⟨#[]⟩, 0⟩ := keep_plain h (fun _ => rfl) (fun e => by simp at e) (by simp)
  rcases hD with ⟨-, rfl⟩ | ⟨-, o, r, ho, -, rfl⟩
  · exact keep_ref h
  · unfold getP
    split
    · rename_i h5
      have ho := ho (by omega)
      cases r with
      | none => exact hnil
      | some i =>
        show KeepD S R ⟨S, o.l.getD (i + 1) ⟨0, 0⟩, ⟨#[]⟩, 0⟩
        rw [List.getD_eq_getElem?_getD]
        cases hx : o.l[i + 1]? with
        | none => exact hnil
        | some x => exact item_keep h ha ho (List.mem_of_getElem? hx)
    · split
      · rename_i h4
        have ho := ho (by omega)
        split
        · exact keep_thr h tBounds_ne
        · rw [List.getD_eq_getElem?_getD]
          cases hx : o.l[k.n.toNat]? with
          | none => exact hnil
          | some x => exact item_keep h ha ho (List.mem_of_getElem? hx)
      · split
        · rename_i h3
          have ho := ho (by omega)
          split
          · exact keep_thr h tBounds_ne
          · refine keep_text h ?_
            rw [ByteArray.size_extract]
            omega
        · exact keep_ref h

theorem added_keep (h : RootS S R) {a : Vl} (ha : a ∈ R) {i : Nat} {o : Om} (ho : leadO S a = some o) (hn : a.n = (i : Int) + 1) (h45 : o.k = 4 ∨ o.k = 5) {least : Int} (hle : least = 4 ∨ least = 8) {more : List Vl} (hm : ∀ v ∈ more, v ∈ R) (hm2 : more.length ≤ 2) (hm0 : 0 < more.length) : KeepD S R (addedP S i o least more) := by
  obtain ⟨hr, hat, hob⟩ := root_reach h ha ho
  obtain ⟨-, -, -, j, hj, -, hS⟩ := leadO_some ho
  have e : j = i := by omega
  subst e
  rw [hn] at hr
  have hom := List.mem_of_getElem? hS
  have hvl := h.vals o hom
  have hroom : roomP o := by
    rcases h45 with e | e
    · exact (hob.1.2.1 e).2.1
    · exact (hob.1.2.2.1 e).2.2.1
  unfold roomP at hroom
  unfold addedP
  split
  · rename_i hlt
    have hw : wordsO { o with l := o.l ++ more, room := max least (2 * o.room) } ≤ wordsO o + (1 + 2 * max least (2 * o.room)).toNat := by
      unfold wordsO
      have k3 : ¬ (o.k = 3) := by omega
      have k6 : ¬ (o.k = 6) := by omega
      simp only [k3, k6, if_false]
      rw [if_pos ⟨h45, by omega⟩]
      split <;> omega
    have := keep_set (n := (1 + 2 * max least (2 * o.room)).toNat) h hS (o2 := { o with l := o.l ++ more, room := max least (2 * o.room) }) rfl hr (fun v hv => by
      rcases List.mem_append.1 hv with e | e
      · exact .inl e
      · exact .inr (hm v e)) hw (by omega) rfl (by simp; omega) ⟨by show (-9223372036854775808 : Int) ≤ max least (2 * o.room); omega, by show max least (2 * o.room) ≤ 9223372036854775807; omega⟩ rfl
    have e2 : (((1 + 2 * max least (2 * o.room)).toNat : Nat) : Int) = 1 + 2 * max least (2 * o.room) := by omega
    rw [e2] at this
    exact this
  · rename_i hlt
    have hw : wordsO { o with l := o.l ++ more, room := o.room } ≤ wordsO o + 0 := by
      unfold wordsO
      have k6 : ¬ (o.k = 6) := by omega
      simp only [k6, if_false]
      omega
    exact keep_set (n := 0) h hS (o2 := { o with l := o.l ++ more, room := o.room }) rfl hr (fun v hv => by
      rcases List.mem_append.1 hv with e | e
      · exact .inl e
      · exact .inr (hm v e)) hw (by omega) rfl (by simp; omega) (h.fit o hom).2.2.1 rfl

theorem set_keep (h : RootS S R) {a : Vl} (ha : a ∈ R) {i : Nat} {o : Om} (ho : leadO S a = some o) (hn : a.n = (i : Int) + 1) (h45 : o.k = 4 ∨ o.k = 5) (j : Nat) {x : Vl} (hx : x ∈ R) : KeepD S R ⟨S.set i { o with l := o.l.set j x }, ⟨0, 0⟩, ⟨#[]⟩, 0⟩ := by
  obtain ⟨hr, hat, hob⟩ := root_reach h ha ho
  obtain ⟨-, -, -, j', hj, -, hS⟩ := leadO_some ho
  have e : j' = i := by omega
  subst e
  rw [hn] at hr
  have hom := List.mem_of_getElem? hS
  have hvl := h.vals o hom
  have hw : wordsO { o with l := o.l.set j x } ≤ wordsO o + 0 := by
    unfold wordsO
    have k6 : ¬ (o.k = 6) := by omega
    simp only [k6, if_false]
    omega
  exact keep_set (n := 0) h hS (o2 := { o with l := o.l.set j x }) rfl hr (fun v hv => by
    rcases List.mem_or_eq_of_mem_set hv with e | rfl
    · exact .inl e
    · exact .inr hx) hw (by omega) rfl (by simp; omega) (h.fit o hom).2.2.1 rfl

theorem put_keep (h : RootS S R) {a k x : Vl} (ha : a ∈ R) (hk : k ∈ R) (hx : x ∈ R) {D : Dv} (hD : PutQ S a k x D) : KeepD S R D := by
  rcases hD with ⟨-, rfl⟩ | ⟨-, i, o, r, ho, -, rfl⟩
  · exact keep_ref h
  · unfold putP
    split
    · exact keep_ref h
    · split
      · rename_i h5
        obtain ⟨ho, hn⟩ := ho (by omega)
        have hk5 : o.k = 5 := by have := (leadO_some ho).2.2.1; omega
        cases r with
        | some j => exact set_keep h ha ho hn (.inr hk5) (j + 1) hx
        | none =>
          show KeepD S R (if o.l.length = 131072 then ⟨S, ⟨0, 0⟩, tItems, 0⟩ else addedP S i o 8 [k, x])
          split
          · exact keep_thr h tItems_ne
          · exact added_keep h ha ho hn (.inr hk5) (.inr rfl) (fun v hv => by simp at hv; rcases hv with rfl | rfl; exact hk; exact hx) (by simp) (by simp)
      · split
        · rename_i h4
          obtain ⟨ho, hn⟩ := ho (by omega)
          have hk4 : o.k = 4 := by have := (leadO_some ho).2.2.1; omega
          unfold putItemP
          split
          · exact keep_thr h tBounds_ne
          · split
            · exact set_keep h ha ho hn (.inl hk4) _ hx
            · split
              · exact keep_thr h tItems_ne
              · exact added_keep h ha ho hn (.inl hk4) (.inl rfl) (fun v hv => by simp at hv; subst hv; exact hx) (by simp) (by simp)
        · exact keep_ref h

theorem get_exP (S : List Om) (v k : Vl) : ∃ D, GetR S v k D := by
  by_cases hm : mayL S [v, k]
  · by_cases h3 : 3 ≤ v.k
    · obtain ⟨o, ho, -⟩ := may_obj hm (v := v) (by simp) h3
      obtain ⟨r, hr⟩ := keyAt_ex S o.l k
      exact ⟨_, .inr ⟨hm, o, r, fun _ => ho, fun _ => hr, rfl⟩⟩
    · exact ⟨_, .inr ⟨hm, ⟨0, ⟨#[]⟩, [], 0, 0⟩, none, fun h => absurd h h3, fun h => absurd h (by omega), rfl⟩⟩
  · exact ⟨_, .inl ⟨hm, rfl⟩⟩

theorem put_exP (S : List Om) (v k x : Vl) : ∃ D, PutQ S v k x D := by
  by_cases hm : mayL S [v, k, x]
  · by_cases h3 : 3 ≤ v.k
    · obtain ⟨o, ho, -⟩ := may_obj hm (v := v) (by simp) h3
      obtain ⟨r, hr⟩ := keyAt_ex S o.l k
      obtain ⟨-, -, -, i, hn, -, -⟩ := leadO_some ho
      exact ⟨_, .inr ⟨hm, i, o, r, fun _ => ⟨ho, hn⟩, fun _ => hr, rfl⟩⟩
    · exact ⟨_, .inr ⟨hm, 0, ⟨0, ⟨#[]⟩, [], 0, 0⟩, none, fun h => absurd h h3, fun h => absurd h (by omega), rfl⟩⟩
  · exact ⟨_, .inl ⟨hm, rfl⟩⟩

theorem listR_exP (S : List Om) (l : List Vl) : ∃ d, ListR S l d := by
  by_cases h : fineP S l
  · exact ⟨_, .inr ⟨h, rfl⟩⟩
  · exact ⟨_, .inl ⟨h, rfl⟩⟩

end Go.Proofs.YtgokofomoachaaaGreatDoor
