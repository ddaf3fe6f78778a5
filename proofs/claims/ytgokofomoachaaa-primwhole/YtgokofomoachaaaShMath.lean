/- What values of a store lead to, plainly; a tour's state. -/
import Derived.Test.YtgokofomoachaaaShTour
namespace Go.Proofs.Ytgokofomoachaaa
set_option linter.unusedVariables false
set_option linter.unusedSimpArgs false

/-- The object with a number. -/
def objAt (S : List Om) (x : Int) : Option Om := if 1 ≤ x then S[(x - 1).toNat]? else none

/-- A set of numbers that holds what values lead to. -/
def Takes (S : List Om) (P : Int → Prop) (l : List Vl) : Prop := ∀ v ∈ l, leadO S v ≠ none → P v.n

/-- A set of numbers that holds what its objects lead to. -/
def Closed (S : List Om) (P : Int → Prop) : Prop := ∀ x o, P x → objAt S x = some o → Takes S P o.l

/-- What values lead to: the least such set. -/
def Reach (S : List Om) (roots : List Vl) (x : Int) : Prop := ∀ P : Int → Prop, Takes S P roots → Closed S P → P x

theorem Reach.root {S : List Om} {roots : List Vl} {v : Vl} (hv : v ∈ roots) (h : leadO S v ≠ none) : Reach S roots v.n := fun _ hR _ => hR v hv h

theorem Reach.next {S : List Om} {roots : List Vl} {x : Int} (hx : Reach S roots x) {o : Om} (ho : objAt S x = some o) {v : Vl} (hv : v ∈ o.l) (h : leadO S v ≠ none) : Reach S roots v.n :=
  fun P hR hC => hC x o (hx P hR hC) ho v hv h

theorem leadO_at {S : List Om} {v : Vl} {o : Om} (h : leadO S v = some o) : objAt S v.n = some o ∧ 1 ≤ v.n ∧ v.n ≤ S.length ∧ 3 ≤ o.k ∧ o.k ≤ 7 ∧ o.k = v.k := by
  obtain ⟨h1, h2, h3, i, hi, hl, hs⟩ := leadO_some h
  refine ⟨?_, by omega, by omega, by omega, by omega, h3⟩
  unfold objAt
  rw [if_pos (by omega), show (v.n - 1).toNat = i by omega]
  exact hs

/-- The numbers of objects. -/
def Num (S : List Om) (x : Int) : Prop := 1 ≤ x ∧ x ≤ S.length ∧ ∃ o, objAt S x = some o ∧ 3 ≤ o.k ∧ o.k ≤ 7

theorem lead_num {S : List Om} {v : Vl} (h : leadO S v ≠ none) : Num S v.n := by
  cases ho : leadO S v with
  | none => exact (h ho).elim
  | some o =>
    obtain ⟨h1, h2, h3, h4, h5, _⟩ := leadO_at ho
    exact ⟨h2, h3, o, h1, h4, h5⟩

theorem Reach.num {S : List Om} {roots : List Vl} {x : Int} (h : Reach S roots x) : Num S x :=
  h (Num S) (fun v _ hv => lead_num hv) (fun _ _ _ _ v _ hv => lead_num hv)

/-- What meeting values does. -/
theorem meetL_spec (S : List Om) : ∀ (l : List Vl) (t : Tr), (∀ x, t.cnt x = 0 → x ∉ t.todo) → t.todo.Nodup →
    ∃ new : List Int, (meetL S t l).todo = t.todo ++ new ∧ new.Nodup ∧ (∀ x ∈ new, t.cnt x = 0 ∧ ∃ v ∈ l, leadO S v ≠ none ∧ v.n = x) ∧ (∀ x, (meetL S t l).cnt x ≠ 0 ↔ t.cnt x ≠ 0 ∨ x ∈ new) ∧ (∀ v ∈ l, leadO S v ≠ none → (meetL S t l).cnt v.n ≠ 0) := by
  intro l
  induction l with
  | nil => intro t h0 hn; exact ⟨[], by simp [meetL], by simp, by simp, by simp [meetL], by simp⟩
  | cons v r ih =>
    intro t h0 hn
    have hstep : meetL S t (v :: r) = meetL S (meet1 S t v) r := rfl
    cases hl : leadO S v with
    | none =>
      have e : meet1 S t v = t := by simp [meet1, hl]
      rw [hstep, e]
      obtain ⟨new, h1, h2, h3, h4, h5⟩ := ih t h0 hn
      refine ⟨new, h1, h2, fun x hx => ⟨(h3 x hx).1, ?_⟩, h4, ?_⟩
      · obtain ⟨u, hu, hq⟩ := (h3 x hx).2
        exact ⟨u, by simp [hu], hq⟩
      · intro u hu hq
        rcases List.mem_cons.1 hu with rfl | hu
        · exact (hq hl).elim
        · exact h5 u hu hq
    | some o =>
      by_cases hc : t.cnt v.n = 0
      · have e : meet1 S t v = ⟨fun x => if x = v.n then t.cnt x + 1 else t.cnt x, t.todo ++ [v.n]⟩ := by simp [meet1, hl, hc]
        have hcnt : ∀ x, (meet1 S t v).cnt x ≠ 0 ↔ t.cnt x ≠ 0 ∨ x = v.n := by
          intro x; rw [e]; by_cases hx : x = v.n <;> simp [hx]
        obtain ⟨new, h1, h2, h3, h4, h5⟩ := ih (meet1 S t v) (by
          intro x hx
          rw [e]
          have hx' := hx
          have : ¬ (t.cnt x ≠ 0 ∨ x = v.n) := fun q => (hcnt x).2 q hx'
          simp only [List.mem_append, List.mem_singleton, not_or]
          simp only [not_or] at this
          exact ⟨h0 x (by have := this.1; omega), this.2⟩) (by
          rw [e]
          simp only [List.nodup_append]
          refine ⟨hn, by simp, ?_⟩
          intro a ha b hb
          simp at hb
          rintro rfl
          rw [hb] at ha
          exact h0 _ hc ha)
        rw [hstep]
        refine ⟨v.n :: new, ?_, ?_, ?_, ?_, ?_⟩
        · rw [h1, e]; simp
        · rw [List.nodup_cons]
          refine ⟨fun hm => ?_, h2⟩
          exact (hcnt v.n).2 (.inr rfl) (h3 _ hm).1
        · intro x hx
          rcases List.mem_cons.1 hx with rfl | hx
          · exact ⟨hc, v, by simp, by rw [hl]; simp, rfl⟩
          · obtain ⟨q1, u, hu, q2⟩ := h3 x hx
            have : ¬ (t.cnt x ≠ 0 ∨ x = v.n) := fun q => (hcnt x).2 q q1
            simp only [not_or] at this
            exact ⟨by have := this.1; omega, u, by simp [hu], q2⟩
        · intro x
          rw [h4 x, hcnt x]
          simp only [List.mem_cons]
          constructor
          · rintro ((q | q) | q)
            · exact .inl q
            · exact .inr (.inl q)
            · exact .inr (.inr q)
          · rintro (q | q | q)
            · exact .inl (.inl q)
            · exact .inl (.inr q)
            · exact .inr q
        · intro u hu hq
          rcases List.mem_cons.1 hu with rfl | hu
          · exact (h4 _).2 (.inl ((hcnt _).2 (.inr rfl)))
          · exact h5 u hu hq
      · have e : meet1 S t v = ⟨fun x => if x = v.n then t.cnt x + 1 else t.cnt x, t.todo⟩ := by simp [meet1, hl, hc]
        have hcnt : ∀ x, (meet1 S t v).cnt x ≠ 0 ↔ t.cnt x ≠ 0 := by
          intro x; rw [e]; by_cases hx : x = v.n
          · subst hx; simp [hc]
          · simp [hx]
        obtain ⟨new, h1, h2, h3, h4, h5⟩ := ih (meet1 S t v) (by
          intro x hx
          rw [e]
          exact h0 x (by have := mt (hcnt x).2; simp only [ne_eq, Classical.not_not] at this; exact this hx)) (by rw [e]; exact hn)
        rw [hstep]
        refine ⟨new, ?_, h2, ?_, ?_, ?_⟩
        · rw [h1, e]
        · intro x hx
          obtain ⟨q1, u, hu, q2⟩ := h3 x hx
          exact ⟨by have := mt (hcnt x).2; simp only [ne_eq, Classical.not_not] at this; exact this q1, u, by simp [hu], q2⟩
        · intro x; rw [h4 x, hcnt x]
        · intro u hu hq
          rcases List.mem_cons.1 hu with rfl | hu
          · exact (h4 _).2 (.inl ((hcnt _).2 hc))
          · exact h5 u hu hq

/-- A tour on its way: what was gone to, what is to be. -/
structure Way (S : List Om) (roots : List Vl) (t : Tr) (done : List Int) : Prop where
  nod : (t.todo ++ done).Nodup
  cnt : ∀ x, t.cnt x ≠ 0 ↔ x ∈ t.todo ++ done
  rch : ∀ x ∈ t.todo ++ done, Reach S roots x
  root : Takes S (fun x => x ∈ t.todo ++ done) roots
  clo : ∀ x ∈ done, ∀ o, objAt S x = some o → Takes S (fun x => x ∈ t.todo ++ done) o.l

theorem nodup_add {a new d : List Int} (h1 : (a ++ d).Nodup) (h2 : new.Nodup) (h3 : ∀ x ∈ new, x ∉ a ++ d) : ((a ++ new) ++ d).Nodup := by
  rw [List.nodup_append] at h1
  obtain ⟨q1, q2, q3⟩ := h1
  rw [List.nodup_append, List.nodup_append]
  refine ⟨⟨q1, h2, ?_⟩, q2, ?_⟩
  · rintro x hx y hy rfl
    exact h3 x hy (by simp [hx])
  · rintro x hx y hy rfl
    rcases List.mem_append.1 hx with hx | hx
    · exact q3 x hx x hy rfl
    · exact h3 x hx (by simp [hy])

/-- The first values are met. -/
theorem Way.start (S : List Om) (roots : List Vl) : Way S roots (meetL S ⟨fun _ => 0, []⟩ roots) [] := by
  obtain ⟨new, h1, h2, h3, h4, h5⟩ := meetL_spec S roots ⟨fun _ => 0, []⟩ (by simp) (by simp)
  simp only [List.nil_append] at h1
  have hc : ∀ x, (meetL S ⟨fun _ => 0, []⟩ roots).cnt x ≠ 0 ↔ x ∈ (meetL S ⟨fun _ => 0, []⟩ roots).todo ++ [] := by
    intro x; rw [h4 x, h1]; simp
  refine ⟨by rw [h1]; simpa using h2, hc, ?_, fun v hv hl => (hc _).1 (h5 v hv hl), by simp⟩
  intro x hx
  rw [h1] at hx
  obtain ⟨_, v, hv, hl, rfl⟩ := h3 x (by simpa using hx)
  exact Reach.root hv hl

/-- One more is gone to. -/
theorem Way.step {S : List Om} {roots : List Vl} {cnt : Int → Nat} {todo : List Int} {x : Int} {done : List Int} (h : Way S roots ⟨cnt, todo ++ [x]⟩ done) {o : Om} (ho : objAt S x = some o) : Way S roots (meetL S ⟨cnt, todo⟩ o.l) (x :: done) := by
  obtain ⟨nod, hc, hr, hro, hcl⟩ := h
  simp only at nod hc hr hro hcl
  have hc0 : ∀ y, y ∉ todo ++ [x] ++ done → cnt y = 0 := fun y hy => by
    have := mt (hc y).1 hy
    simpa using this
  have nt : todo.Nodup := by
    rw [List.nodup_append, List.nodup_append] at nod
    exact nod.1.1
  have nod' : (todo ++ (x :: done)).Nodup := by simpa using nod
  obtain ⟨new, h1, h2, h3, h4, h5⟩ := meetL_spec S o.l ⟨cnt, todo⟩ (fun y hy hm => (hc y).2 (by simp [hm]) hy) nt
  simp only at h1 h3 h4
  have hnew : ∀ y ∈ new, y ∉ todo ++ (x :: done) := fun y hy hm => (hc y).2 (by simpa using hm) (h3 y hy).1
  have hmem : ∀ y, y ∈ (meetL S ⟨cnt, todo⟩ o.l).todo ++ x :: done ↔ y ∈ todo ++ [x] ++ done ∨ y ∈ new := by
    intro y; rw [h1]
    simp only [List.mem_append, List.mem_cons, List.not_mem_nil, or_false]
    constructor
    · rintro ((q | q) | q | q)
      · exact .inl (.inl (.inl q))
      · exact .inr q
      · exact .inl (.inl (.inr q))
      · exact .inl (.inr q)
    · rintro (((q | q) | q) | q)
      · exact .inl (.inl q)
      · exact .inr (.inl q)
      · exact .inr (.inr q)
      · exact .inl (.inr q)
  have hcc : ∀ y, (meetL S ⟨cnt, todo⟩ o.l).cnt y ≠ 0 ↔ y ∈ (meetL S ⟨cnt, todo⟩ o.l).todo ++ x :: done := by
    intro y; rw [h4 y, hmem y, hc y]
  refine ⟨by rw [h1]; exact nodup_add nod' h2 hnew, hcc, ?_, ?_, ?_⟩
  · intro y hy
    rcases (hmem y).1 hy with q | q
    · exact hr y q
    · obtain ⟨_, v, hv, hl, rfl⟩ := h3 y q
      exact Reach.next (hr x (by simp)) ho hv hl
  · intro v hv hl
    exact (hmem _).2 (.inl (hro v hv hl))
  · intro y hy p hp v hv hl
    rcases List.mem_cons.1 hy with rfl | hy
    · rw [ho] at hp
      cases hp
      exact (hcc _).1 (h5 v hv hl)
    · exact (hmem _).2 (.inl (hcl y hy p hp v hv hl))

/-- At the end all that is led to was gone to, and nothing else. -/
theorem Way.end {S : List Om} {roots : List Vl} {cnt : Int → Nat} {done : List Int} (h : Way S roots ⟨cnt, []⟩ done) (x : Int) : x ∈ done ↔ Reach S roots x := by
  obtain ⟨nod, hc, hr, hro, hcl⟩ := h
  simp only [List.nil_append] at nod hc hr hro hcl
  exact ⟨hr x, fun hx => hx (fun x => x ∈ done) hro (fun y o hy ho => hcl y hy o ho)⟩

/-- The sum of those whose numbers are asked for. -/
def sumIf (f : Int → Bool) : Int → List Nat → Nat
  | _, [] => 0
  | b, a :: r => (if f b then a else 0) + sumIf f (b + 1) r

theorem sumIf_congr {f g : Int → Bool} : ∀ {b : Int} {l : List Nat}, (∀ x, f x = g x) → sumIf f b l = sumIf g b l
  | _, [], _ => rfl
  | b, a :: r, h => by simp only [sumIf, h b, sumIf_congr (b := b + 1) (l := r) h]

theorem sumIf_none {f : Int → Bool} : ∀ {b : Int} {l : List Nat}, (∀ x, b ≤ x → f x = false) → sumIf f b l = 0
  | _, [], _ => rfl
  | b, a :: r, h => by simp [sumIf, h b (by omega), sumIf_none (b := b + 1) (l := r) (fun x hx => h x (by omega))]

theorem sumIf_insert {f : Int → Bool} {x : Int} (hx : f x = false) : ∀ {b : Int} {l : List Nat} {a : Nat}, b ≤ x → l[(x - b).toNat]? = some a → sumIf (fun y => decide (y = x) || f y) b l = a + sumIf f b l
  | b, [], a, _, h => by simp at h
  | b, c :: r, a, hb, h => by
    by_cases e : b = x
    · subst e
      simp only [Int.sub_self, Int.toNat_zero, List.getElem?_cons_zero, Option.some.injEq] at h
      subst h
      have : sumIf (fun y => decide (y = b) || f y) (b + 1) r = sumIf f (b + 1) r := by
        have key : ∀ (l : List Nat) (d : Int), b < d → sumIf (fun y => decide (y = b) || f y) d l = sumIf f d l := by
          intro l
          induction l with
          | nil => intro d _; rfl
          | cons c r ih =>
            intro d hd
            have : decide (d = b) = false := by simp; omega
            simp only [sumIf, this, Bool.false_or, ih (d + 1) (by omega)]
        exact key r (b + 1) (by omega)
      simp [sumIf, hx, this]
    · have h' : r[(x - (b + 1)).toNat]? = some a := by
        rw [show (x - b).toNat = (x - (b + 1)).toNat + 1 by omega] at h
        simpa using h
      have ih := sumIf_insert hx (b := b + 1) (l := r) (by omega) h'
      simp only [sumIf, ih]
      simp [e]; omega

theorem sumIf_mono {f g : Int → Bool} (h : ∀ x, f x = true → g x = true) : ∀ {b : Int} {l : List Nat}, sumIf f b l ≤ sumIf g b l
  | _, [] => Nat.le_refl _
  | b, a :: r => by
    have ih := sumIf_mono h (b := b + 1) (l := r)
    simp only [sumIf]
    cases hf : f b
    · simp; omega
    · simp [h b hf]; omega

theorem sumIf_or {f g : Int → Bool} : ∀ {b : Int} {l : List Nat}, sumIf (fun x => f x || g x) b l ≤ sumIf f b l + sumIf g b l
  | _, [] => Nat.le_refl _
  | b, a :: r => by
    have ih := sumIf_or (f := f) (g := g) (b := b + 1) (l := r)
    simp only [sumIf]
    rcases Bool.eq_false_or_eq_true (f b) with hf | hf <;> rcases Bool.eq_false_or_eq_true (g b) with hg | hg <;> simp [hf, hg] <;> omega

theorem sumIf_le {f : Int → Bool} {m : Nat} : ∀ {b : Int} {l : List Nat}, (∀ a ∈ l, a ≤ m) → sumIf f b l ≤ l.length * m
  | _, [], _ => by simp [sumIf]
  | b, a :: r, h => by
    have ih := sumIf_le (f := f) (b := b + 1) (l := r) (fun x hx => h x (by simp [hx]))
    have := h a (by simp)
    have e : (a :: r).length * m = r.length * m + m := by simp [Nat.succ_mul]
    rw [e]
    simp only [sumIf]
    split <;> omega

/-- The words of what was gone to. -/
def sumAt (S : List Om) (done : List Int) : Nat := sumIf (fun y => decide (y ∈ done)) 1 (S.map wordsO)

theorem sumAt_nil (S : List Om) : sumAt S [] = 0 := sumIf_none (by simp)

theorem sumAt_cons {S : List Om} {done : List Int} {x : Int} {o : Om} (hx : x ∉ done) (ho : objAt S x = some o) : sumAt S (x :: done) = wordsO o + sumAt S done := by
  unfold objAt at ho
  split at ho
  · rename_i h1
    unfold sumAt
    rw [← sumIf_insert (f := fun y => decide (y ∈ done)) (x := x) (b := 1) (l := S.map wordsO) (a := wordsO o) (by simpa using hx) h1 (by rw [List.getElem?_map, ho]; rfl)]
    refine sumIf_congr (fun y => ?_)
    simp [Bool.decide_or]
  · cases ho

/-- The words of what values lead to. -/
def wordsR (S : List Om) (roots : List Vl) (dec : (y : Int) → Decidable (Reach S roots y) := fun _ => Classical.propDecidable _) : Nat := sumIf (fun y => @decide (Reach S roots y) (dec y)) 1 (S.map wordsO)

open Classical in
theorem Way.sum {S : List Om} {roots : List Vl} {cnt : Int → Nat} {done : List Int} (h : Way S roots ⟨cnt, []⟩ done) : sumAt S done = wordsR S roots := by
  unfold sumAt wordsR
  refine sumIf_congr (fun y => ?_)
  have := h.end y
  by_cases hy : y ∈ done
  · simp [hy, this.1 hy]
  · simp [hy, mt this.2 hy]

/-- No more can be gone to than there are. -/
theorem nums_len : ∀ (n : Nat) (l : List Int), l.Nodup → (∀ x ∈ l, 1 ≤ x ∧ x ≤ n) → l.length ≤ n
  | 0, l, _, h => by
    cases l with
    | nil => simp
    | cons a r => have := h a (by simp); omega
  | n + 1, l, hn, h => by
    by_cases hm : ((n + 1 : Nat) : Int) ∈ l
    · have := nums_len n (l.erase ((n + 1 : Nat) : Int)) (hn.erase _) (fun x hx => by
        have hx' := (List.Nodup.mem_erase_iff hn).1 hx
        have := h x hx'.2
        have hne := hx'.1
        omega)
      rw [List.length_erase_of_mem hm] at this
      omega
    · have := nums_len n l hn (fun x hx => by
        have := h x hx
        have : x ≠ ((n + 1 : Nat) : Int) := fun e => hm (e ▸ hx)
        omega)
      omega

theorem Way.len {S : List Om} {roots : List Vl} {t : Tr} {done : List Int} (h : Way S roots t done) : (t.todo ++ done).length ≤ S.length :=
  nums_len _ _ h.nod (fun x hx => ⟨(h.rch x hx).num.1, (h.rch x hx).num.2.1⟩)

/-- The least number of which something is true. -/
theorem exists_least {P : Nat → Prop} (h : ∃ m, P m) : ∃ m, P m ∧ ∀ k, P k → m ≤ k := by
  obtain ⟨m, hm⟩ := h
  induction m using Nat.strongRecOn with
  | _ m ih =>
    by_cases hk : ∃ k, k < m ∧ P k
    · obtain ⟨k, hk, hp⟩ := hk
      exact ih k hk hp
    · exact ⟨m, hm, fun k hp => Nat.le_of_not_lt (fun q => hk ⟨k, q, hp⟩)⟩

def least (P : Nat → World → Prop) (w : World) (ch : (∃ m, P m w) → Nat := fun h => Classical.choose (exists_least h)) (dec : Decidable (∃ m, P m w) := Classical.propDecidable _) : Nat := @dite _ (∃ m, P m w) dec (fun h => ch h) (fun _ => 0)

theorem least_at {P : Nat → World → Prop} {w : World} (h : ∃ m, P m w) : P (least P w) w := by
  unfold least
  rw [dif_pos h]
  exact (Classical.choose_spec (exists_least h)).1

theorem least_le {P : Nat → World → Prop} {w : World} {m : Nat} (h : P m w) : least P w ≤ m := by
  unfold least
  rw [dif_pos ⟨m, h⟩]
  exact (Classical.choose_spec (exists_least ⟨m, h⟩)).2 m h

end Go.Proofs.Ytgokofomoachaaa
