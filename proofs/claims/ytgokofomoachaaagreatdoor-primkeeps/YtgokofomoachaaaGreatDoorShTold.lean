/- The document's Leads and reached. -/
import Derived.Test.YtgokofomoachaaaGreatDoorShTour
import Derived.Laws.AppendOwnNone
import Derived.BigQuiet
import Derived.Test.YtgokofomoachaaaGreatDoorShLead
import Derived.WalkKit
import Derived.ProofKit
import Derived.OpenShut
import Derived.ShutString
import Derived.ChangeOld
import Derived.Below
import Derived.SizedLaws
import Derived.Deep.Slices
namespace Go.Proofs.YtgokofomoachaaaGreatDoor
set_option linter.unusedVariables false
set_option linter.unusedSimpArgs false
open Go.RowKit

variable {w : World}

end Go.Proofs.YtgokofomoachaaaGreatDoor

namespace Go.Proofs.YtgokofomoachaaaGreatDoor
set_option linter.unusedVariables false
set_option linter.unusedSimpArgs false

/-- The object with a number. -/
def objAt (S : List Om) (x : Int) : Option Om := if 1 ≤ x then S[(x - 1).toNat]? else none

/-- A set of numbers that holds what values lead to. -/
def Takes (S : List Om) (P : Int → Prop) (l : List Vl) : Prop := ∀ v ∈ l, leadO S v ≠ none → P v.n

/-- A set of numbers that holds what its objects lead to. -/
def Closed (S : List Om) (P : Int → Prop) : Prop := ∀ x o, P x → objAt S x = some o → Takes S P o.l

/-- What values lead to: the least such set. -/
def Reach (S : List Om) (roots : List Vl) (x : Int) : Prop := ∀ P : Int → Prop, Takes S P roots → Closed S P → P x

theorem Reach.root {S : List Om} {roots : List Vl} {v : Vl} (hv : v ∈ roots) (h : leadO S v ≠ none) : Reach S roots v.n := fun _ hR _ => hR v hv h

theorem Reach.next {S : List Om} {roots : List Vl} {x : Int} (hx : Reach S roots x) {o : Om} (ho : objAt S x = some o) {v : Vl} (hv : v ∈ o.l) (h : leadO S v ≠ none) : Reach S roots v.n :=
  fun P hR hC => hC x o (hx P hR hC) ho v hv h

theorem leadO_at {S : List Om} {v : Vl} {o : Om} (h : leadO S v = some o) : objAt S v.n = some o ∧ 1 ≤ v.n ∧ v.n ≤ S.length ∧ 3 ≤ o.k ∧ o.k ≤ 7 ∧ o.k = v.k := by
  obtain ⟨h1, h2, h3, i, hi, hl, hs⟩ := leadO_some h
  refine ⟨?_, by omega, by omega, by omega, by omega, h3⟩
  unfold objAt
  rw [if_pos (by omega), show (v.n - 1).toNat = i by omega]
  exact hs

/-- The numbers of objects. -/
def Num (S : List Om) (x : Int) : Prop := 1 ≤ x ∧ x ≤ S.length ∧ ∃ o, objAt S x = some o ∧ 3 ≤ o.k ∧ o.k ≤ 7

theorem lead_num {S : List Om} {v : Vl} (h : leadO S v ≠ none) : Num S v.n := by
  cases ho : leadO S v with
  | none => exact (h ho).elim
  | some o =>
    obtain ⟨h1, h2, h3, h4, h5, _⟩ := leadO_at ho
    exact ⟨h2, h3, o, h1, h4, h5⟩

theorem Reach.num {S : List Om} {roots : List Vl} {x : Int} (h : Reach S roots x) : Num S x :=
  h (Num S) (fun v _ hv => lead_num hv) (fun _ _ _ _ v _ hv => lead_num hv)

/-- What meeting values does. -/
theorem meetL_spec (S : List Om) : ∀ (l : List Vl) (t : Tr), (∀ x, t.cnt x = 0 → x ∉ t.todo) → t.todo.Nodup →
    ∃ new : List Int, (meetL S t l).todo = t.todo ++ new ∧ new.Nodup ∧ (∀ x ∈ new, t.cnt x = 0 ∧ ∃ v ∈ l, leadO S v ≠ none ∧ v.n = x) ∧ (∀ x, (meetL S t l).cnt x ≠ 0 ↔ t.cnt x ≠ 0 ∨ x ∈ new) ∧ (∀ v ∈ l, leadO S v ≠ none → (meetL S t l).cnt v.n ≠ 0) := by
  intro l
  induction l with
  | nil => intro t h0 hn; exact ⟨[], by simp [meetL], by simp, by simp, by simp [meetL], by simp⟩
  | cons v r ih =>
    intro t h0 hn
    have hstep : meetL S t (v :: r) = meetL S (meet1 S t v) r := rfl
    cases hl : leadO S v with
    | none =>
      have e : meet1 S t v = t := by simp [meet1, hl]
      rw [hstep, e]
      obtain ⟨new, h1, h2, h3, h4, h5⟩ := ih t h0 hn
      refine ⟨new, h1, h2, fun x hx => ⟨(h3 x hx).1, ?_⟩, h4, ?_⟩
      · obtain ⟨u, hu, hq⟩ := (h3 x hx).2
        exact ⟨u, by simp [hu], hq⟩
      · intro u hu hq
        rcases List.mem_cons.1 hu with rfl | hu
        · exact (hq hl).elim
        · exact h5 u hu hq
    | some o =>
      by_cases hc : t.cnt v.n = 0
      · have e : meet1 S t v = ⟨fun x => if x = v.n then t.cnt x + 1 else t.cnt x, t.todo ++ [v.n]⟩ := by simp [meet1, hl, hc]
        have hcnt : ∀ x, (meet1 S t v).cnt x ≠ 0 ↔ t.cnt x ≠ 0 ∨ x = v.n := by
          intro x; rw [e]; by_cases hx : x = v.n <;> simp [hx]
        obtain ⟨new, h1, h2, h3, h4, h5⟩ := ih (meet1 S t v) (by
          intro x hx
          rw [e]
          have hx' := hx
          have : ¬ (t.cnt x ≠ 0 ∨ x = v.n) := fun q => (hcnt x).2 q hx'
          simp only [List.mem_append, List.mem_singleton, not_or]
          simp only [not_or] at this
          exact ⟨h0 x (by have := this.1; omega), this.2⟩) (by
          rw [e]
          simp only [List.nodup_append]
          refine ⟨hn, by simp, ?_⟩
          intro a ha b hb
          simp at hb
          rintro rfl
          rw [hb] at ha
          exact h0 _ hc ha)
        rw [hstep]
        refine ⟨v.n :: new, ?_, ?_, ?_, ?_, ?_⟩
        · rw [h1, e]; simp
        · rw [List.nodup_cons]
          refine ⟨fun hm => ?_, h2⟩
          exact (hcnt v.n).2 (.inr rfl) (h3 _ hm).1
        · intro x hx
          rcases List.mem_cons.1 hx with rfl | hx
          · exact ⟨hc, v, by simp, by rw [hl]; simp, rfl⟩
          · obtain ⟨q1, u, hu, q2⟩ := h3 x hx
            have : ¬ (t.cnt x ≠ 0 ∨ x = v.n) := fun q => (hcnt x).2 q q1
            simp only [not_or] at this
            exact ⟨by have := this.1; omega, u, by simp [hu], q2⟩
        · intro x
          rw [h4 x, hcnt x]
          simp only [List.mem_cons]
          constructor
          · rintro ((q | q) | q)
            · exact .inl q
            · exact .inr (.inl q)
            · exact .inr (.inr q)
          · rintro (q | q | q)
            · exact .inl (.inl q)
            · exact .inl (.inr q)
            · exact .inr q
        · intro u hu hq
          rcases List.mem_cons.1 hu with rfl | hu
          · exact (h4 _).2 (.inl ((hcnt _).2 (.inr rfl)))
          · exact h5 u hu hq
      · have e : meet1 S t v = ⟨fun x => if x = v.n then t.cnt x + 1 else t.cnt x, t.todo⟩ := by simp [meet1, hl, hc]
        have hcnt : ∀ x, (meet1 S t v).cnt x ≠ 0 ↔ t.cnt x ≠ 0 := by
          intro x; rw [e]; by_cases hx : x = v.n
          · subst hx; simp [hc]
          · simp [hx]
        obtain ⟨new, h1, h2, h3, h4, h5⟩ := ih (meet1 S t v) (by
          intro x hx
          rw [e]
          exact h0 x (by have := mt (hcnt x).2; simp only [ne_eq, Classical.not_not] at this; exact this hx)) (by rw [e]; exact hn)
        rw [hstep]
        refine ⟨new, ?_, h2, ?_, ?_, ?_⟩
        · rw [h1, e]
        · intro x hx
          obtain ⟨q1, u, hu, q2⟩ := h3 x hx
          exact ⟨by have := mt (hcnt x).2; simp only [ne_eq, Classical.not_not] at this; exact this q1, u, by simp [hu], q2⟩
        · intro x; rw [h4 x, hcnt x]
        · intro u hu hq
          rcases List.mem_cons.1 hu with rfl | hu
          · exact (h4 _).2 (.inl ((hcnt _).2 hc))
          · exact h5 u hu hq

/-- A tour on its way: what was gone to, what is to be. -/
structure Way (S : List Om) (roots : List Vl) (t : Tr) (done : List Int) : Prop where
  nod : (t.todo ++ done).Nodup
  cnt : ∀ x, t.cnt x ≠ 0 ↔ x ∈ t.todo ++ done
  rch : ∀ x ∈ t.todo ++ done, Reach S roots x
  root : Takes S (fun x => x ∈ t.todo ++ done) roots
  clo : ∀ x ∈ done, ∀ o, objAt S x = some o → Takes S (fun x => x ∈ t.todo ++ done) o.l

theorem nodup_add {a new d : List Int} (h1 : (a ++ d).Nodup) (h2 : new.Nodup) (h3 : ∀ x ∈ new, x ∉ a ++ d) : ((a ++ new) ++ d).Nodup := by
  rw [List.nodup_append] at h1
  obtain ⟨q1, q2, q3⟩ := h1
  rw [List.nodup_append, List.nodup_append]
  refine ⟨⟨q1, h2, ?_⟩, q2, ?_⟩
  · rintro x hx y hy rfl
    exact h3 x hy (by simp [hx])
  · rintro x hx y hy rfl
    rcases List.mem_append.1 hx with hx | hx
    · exact q3 x hx x hy rfl
    · exact h3 x hx (by simp [hy])

/-- The first values are met. -/
theorem Way.start (S : List Om) (roots : List Vl) : Way S roots (meetL S ⟨fun _ => 0, []⟩ roots) [] := by
  obtain ⟨new, h1, h2, h3, h4, h5⟩ := meetL_spec S roots ⟨fun _ => 0, []⟩ (by simp) (by simp)
  simp only [List.nil_append] at h1
  have hc : ∀ x, (meetL S ⟨fun _ => 0, []⟩ roots).cnt x ≠ 0 ↔ x ∈ (meetL S ⟨fun _ => 0, []⟩ roots).todo ++ [] := by
    intro x; rw [h4 x, h1]; simp
  refine ⟨by rw [h1]; simpa using h2, hc, ?_, fun v hv hl => (hc _).1 (h5 v hv hl), by simp⟩
  intro x hx
  rw [h1] at hx
  obtain ⟨_, v, hv, hl, rfl⟩ := h3 x (by simpa using hx)
  exact Reach.root hv hl

/-- One more is gone to. -/
theorem Way.step {S : List Om} {roots : List Vl} {cnt : Int → Nat} {todo : List Int} {x : Int} {done : List Int} (h : Way S roots ⟨cnt, todo ++ [x]⟩ done) {o : Om} (ho : objAt S x = some o) : Way S roots (meetL S ⟨cnt, todo⟩ o.l) (x :: done) := by
  obtain ⟨nod, hc, hr, hro, hcl⟩ := h
  simp only at nod hc hr hro hcl
  have hc0 : ∀ y, y ∉ todo ++ [x] ++ done → cnt y = 0 := fun y hy => by
    have := mt (hc y).1 hy
    simpa using this
  have nt : todo.Nodup := by
    rw [List.nodup_append, List.nodup_append] at nod
    exact nod.1.1
  have nod' : (todo ++ (x :: done)).Nodup := by simpa using nod
  obtain ⟨new, h1, h2, h3, h4, h5⟩ := meetL_spec S o.l ⟨cnt, todo⟩ (fun y hy hm => (hc y).2 (by simp [hm]) hy) nt
  simp only at h1 h3 h4
  have hnew : ∀ y ∈ new, y ∉ todo ++ (x :: done) := fun y hy hm => (hc y).2 (by simpa using hm) (h3 y hy).1
  have hmem : ∀ y, y ∈ (meetL S ⟨cnt, todo⟩ o.l).todo ++ x :: done ↔ y ∈ todo ++ [x] ++ done ∨ y ∈ new := by
    intro y; rw [h1]
    simp only [List.mem_append, List.mem_cons, List.not_mem_nil, or_false]
    constructor
    · rintro ((q | q) | q | q)
      · exact .inl (.inl (.inl q))
      · exact .inr q
      · exact .inl (.inl (.inr q))
      · exact .inl (.inr q)
    · rintro (((q | q) | q) | q)
      · exact .inl (.inl q)
      · exact .inr (.inl q)
      · exact .inr (.inr q)
      · exact .inl (.inr q)
  have hcc : ∀ y, (meetL S ⟨cnt, todo⟩ o.l).cnt y ≠ 0 ↔ y ∈ (meetL S ⟨cnt, todo⟩ o.l).todo ++ x :: done := by
    intro y; rw [h4 y, hmem y, hc y]
  refine ⟨by rw [h1]; exact nodup_add nod' h2 hnew, hcc, ?_, ?_, ?_⟩
  · intro y hy
    rcases (hmem y).1 hy with q | q
    · exact hr y q
    · obtain ⟨_, v, hv, hl, rfl⟩ := h3 y q
      exact Reach.next (hr x (by simp)) ho hv hl
  · intro v hv hl
    exact (hmem _).2 (.inl (hro v hv hl))
  · intro y hy p hp v hv hl
    rcases List.mem_cons.1 hy with rfl | hy
    · rw [ho] at hp
      cases hp
      exact (hcc _).1 (h5 v hv hl)
    · exact (hmem _).2 (.inl (hcl y hy p hp v hv hl))

/-- At the end all that is led to was gone to, and nothing else. -/
theorem Way.end {S : List Om} {roots : List Vl} {cnt : Int → Nat} {done : List Int} (h : Way S roots ⟨cnt, []⟩ done) (x : Int) : x ∈ done ↔ Reach S roots x := by
  obtain ⟨nod, hc, hr, hro, hcl⟩ := h
  simp only [List.nil_append] at nod hc hr hro hcl
  exact ⟨hr x, fun hx => hx (fun x => x ∈ done) hro (fun y o hy ho => hcl y hy o ho)⟩

/-- The sum of those whose numbers are asked for. -/
def sumIf (f : Int → Bool) : Int → List Nat → Nat
  | _, [] => 0
  | b, a :: r => (if f b then a else 0) + sumIf f (b + 1) r

theorem sumIf_congr {f g : Int → Bool} : ∀ {b : Int} {l : List Nat}, (∀ x, f x = g x) → sumIf f b l = sumIf g b l
  | _, [], _ => rfl
  | b, a :: r, h => by simp only [sumIf, h b, sumIf_congr (b := b + 1) (l := r) h]

theorem sumIf_none {f : Int → Bool} : ∀ {b : Int} {l : List Nat}, (∀ x, b ≤ x → f x = false) → sumIf f b l = 0
  | _, [], _ => rfl
  | b, a :: r, h => by simp [sumIf, h b (by omega), sumIf_none (b := b + 1) (l := r) (fun x hx => h x (by omega))]

theorem sumIf_insert {f : Int → Bool} {x : Int} (hx : f x = false) : ∀ {b : Int} {l : List Nat} {a : Nat}, b ≤ x → l[(x - b).toNat]? = some a → sumIf (fun y => decide (y = x) || f y) b l = a + sumIf f b l
  | b, [], a, _, h => by simp at h
  | b, c :: r, a, hb, h => by
    by_cases e : b = x
    · subst e
      simp only [Int.sub_self, Int.toNat_zero, List.getElem?_cons_zero, Option.some.injEq] at h
      subst h
      have : sumIf (fun y => decide (y = b) || f y) (b + 1) r = sumIf f (b + 1) r := by
        have key : ∀ (l : List Nat) (d : Int), b < d → sumIf (fun y => decide (y = b) || f y) d l = sumIf f d l := by
          intro l
          induction l with
          | nil => intro d _; rfl
          | cons c r ih =>
            intro d hd
            have : decide (d = b) = false := by simp; omega
            simp only [sumIf, this, Bool.false_or, ih (d + 1) (by omega)]
        exact key r (b + 1) (by omega)
      simp [sumIf, hx, this]
    · have h' : r[(x - (b + 1)).toNat]? = some a := by
        rw [show (x - b).toNat = (x - (b + 1)).toNat + 1 by omega] at h
        simpa using h
      have ih := sumIf_insert hx (b := b + 1) (l := r) (by omega) h'
      simp only [sumIf, ih]
      simp [e]; omega

theorem sumIf_le {f : Int → Bool} {m : Nat} : ∀ {b : Int} {l : List Nat}, (∀ a ∈ l, a ≤ m) → sumIf f b l ≤ l.length * m
  | _, [], _ => by simp [sumIf]
  | b, a :: r, h => by
    have ih := sumIf_le (f := f) (b := b + 1) (l := r) (fun x hx => h x (by simp [hx]))
    have := h a (by simp)
    have e : (a :: r).length * m = r.length * m + m := by simp [Nat.succ_mul]
    rw [e]
    simp only [sumIf]
    split <;> omega

/-- The words of what was gone to. -/
def sumAt (S : List Om) (done : List Int) : Nat := sumIf (fun y => decide (y ∈ done)) 1 (S.map wordsO)

theorem sumAt_nil (S : List Om) : sumAt S [] = 0 := sumIf_none (by simp)

theorem sumAt_cons {S : List Om} {done : List Int} {x : Int} {o : Om} (hx : x ∉ done) (ho : objAt S x = some o) : sumAt S (x :: done) = wordsO o + sumAt S done := by
  unfold objAt at ho
  split at ho
  · rename_i h1
    unfold sumAt
    rw [← sumIf_insert (f := fun y => decide (y ∈ done)) (x := x) (b := 1) (l := S.map wordsO) (a := wordsO o) (by simpa using hx) h1 (by rw [List.getElem?_map, ho]; rfl)]
    refine sumIf_congr (fun y => ?_)
    simp [Bool.decide_or]
  · cases ho

/-- The words of what values lead to. -/
def wordsR (S : List Om) (roots : List Vl) (dec : (y : Int) → Decidable (Reach S roots y) := fun _ => Classical.propDecidable _) : Nat := sumIf (fun y => @decide (Reach S roots y) (dec y)) 1 (S.map wordsO)

open Classical in
theorem Way.sum {S : List Om} {roots : List Vl} {cnt : Int → Nat} {done : List Int} (h : Way S roots ⟨cnt, []⟩ done) : sumAt S done = wordsR S roots := by
  unfold sumAt wordsR
  refine sumIf_congr (fun y => ?_)
  have := h.end y
  by_cases hy : y ∈ done
  · simp [hy, this.1 hy]
  · simp [hy, mt this.2 hy]

/-- No more can be gone to than there are. -/
theorem nums_len : ∀ (n : Nat) (l : List Int), l.Nodup → (∀ x ∈ l, 1 ≤ x ∧ x ≤ n) → l.length ≤ n
  | 0, l, _, h => by
    cases l with
    | nil => simp
    | cons a r => have := h a (by simp); omega
  | n + 1, l, hn, h => by
    by_cases hm : ((n + 1 : Nat) : Int) ∈ l
    · have := nums_len n (l.erase ((n + 1 : Nat) : Int)) (hn.erase _) (fun x hx => by
        have hx' := (List.Nodup.mem_erase_iff hn).1 hx
        have := h x hx'.2
        have hne := hx'.1
        omega)
      rw [List.length_erase_of_mem hm] at this
      omega
    · have := nums_len n l hn (fun x hx => by
        have := h x hx
        have : x ≠ ((n + 1 : Nat) : Int) := fun e => hm (e ▸ hx)
        omega)
      omega

theorem Way.len {S : List Om} {roots : List Vl} {t : Tr} {done : List Int} (h : Way S roots t done) : (t.todo ++ done).length ≤ S.length :=
  nums_len _ _ h.nod (fun x hx => ⟨(h.rch x hx).num.1, (h.rch x hx).num.2.1⟩)

/-- The least number of which something is true. -/
theorem exists_least {P : Nat → Prop} (h : ∃ m, P m) : ∃ m, P m ∧ ∀ k, P k → m ≤ k := by
  obtain ⟨m, hm⟩ := h
  induction m using Nat.strongRecOn with
  | _ m ih =>
    by_cases hk : ∃ k, k < m ∧ P k
    · obtain ⟨k, hk, hp⟩ := hk
      exact ih k hk hp
    · exact ⟨m, hm, fun k hp => Nat.le_of_not_lt (fun q => hk ⟨k, q, hp⟩)⟩

def least (P : Nat → World → Prop) (w : World) (ch : (∃ m, P m w) → Nat := fun h => Classical.choose (exists_least h)) (dec : Decidable (∃ m, P m w) := Classical.propDecidable _) : Nat := @dite _ (∃ m, P m w) dec (fun h => ch h) (fun _ => 0)

theorem least_at {P : Nat → World → Prop} {w : World} (h : ∃ m, P m w) : P (least P w) w := by
  unfold least
  rw [dif_pos h]
  exact (Classical.choose_spec (exists_least h)).1

theorem least_le {P : Nat → World → Prop} {w : World} {m : Nat} (h : P m w) : least P w ≤ m := by
  unfold least
  rw [dif_pos ⟨m, h⟩]
  exact (Classical.choose_spec (exists_least ⟨m, h⟩)).2 m h

end Go.Proofs.YtgokofomoachaaaGreatDoor

namespace Go.Proofs.YtgokofomoachaaaGreatDoor
set_option linter.unusedVariables false
set_option linter.unusedSimpArgs false
open Go.RowKit

variable {w : World}

/-- A row without its last. -/
theorem row_less {w : World} {base g c n : Nat} {xs ys : List Value} (h : w.ownsRow base 2 1 (.slice (some ⟨g, 0, none⟩) (n + 1) c) (n + 1) (xs ++ ys)) (hx : xs.length = n) : w.ownsRow base 2 1 (.slice (some ⟨g, 0, none⟩) n c) n xs := by
  refine ⟨by simpa using hx, ?_⟩
  rcases h.2 with ⟨h1, _⟩ | ⟨g', cap, cur, h1, hb, hg, hnc, hcm, hcs, htake⟩
  · simp at h1
  · simp only [Value.slice.injEq, Option.some.injEq, Addr.mk.injEq, and_true, true_and] at h1
    obtain ⟨rfl, rfl⟩ := h1
    refine .inr ⟨_, _, cur, rfl, hb, hg, by omega, hcm, hcs, ?_⟩
    have e2 : (xs ++ ys).take n = xs := by rw [← hx]; simp
    have e := congrArg (List.take n) htake
    rw [e2] at e
    rw [← e, List.take_take]
    congr 1
    omega

/-- The last one that is to be gone to is taken off. -/
theorem IsTo.popped {n₀ bt bM K g c : Nat} {vs : Value} {cnt : Int → Nat} {a : List Int} {x : Int} (h : IsTo n₀ bt bM vs (.slice (some ⟨g, 0, none⟩) (a.length + 1) c) K ⟨cnt, a ++ [x]⟩ w) :
    IsTo n₀ bt bM vs (.slice (some ⟨g, 0, none⟩) a.length c) K ⟨cnt, a⟩ (w.setCell ⟨bt, 2, none⟩ (.slice (some ⟨g, 0, none⟩) a.length c)) ∧ TStep bt bM (.slice (some ⟨g, 0, none⟩) (a.length + 1) c) w (.slice (some ⟨g, 0, none⟩) a.length c) (w.setCell ⟨bt, 2, none⟩ (.slice (some ⟨g, 0, none⟩) a.length c)) := by
  have hr := h.todo
  simp only [List.map_append, List.length_append, List.length_cons, List.length_nil, Nat.zero_add] at hr
  have hr' := row_less hr (by simp)
  have hg : bt ≠ g := by
    rintro rfl
    obtain ⟨cur, hc⟩ := row_obj h.todo (k := bt) rfl
    rw [h.blk] at hc
    cases hc
  refine ⟨⟨h.base, h.baseM, ?_, h.cnt.kept ?_, ?_, by have := h.len; simp at this ⊢; omega⟩, ⟨rfl, rfl, rfl, ?_, ?_, ?_⟩⟩
  · have := heap_setCell_same w bt 2 _ _ (.slice (some ⟨g, 0, none⟩) a.length c) h.blk
    simpa using this
  · rw [heap_setCell_other _ ⟨bt, 2, none⟩ bM _ (Ne.symm h.ne)]
  · exact row_kept hr' (fun k e => heap_setCell_other _ ⟨bt, 2, none⟩ k _ (by simp [Value.ownBlock] at e; subst e; exact Ne.symm hg))
  · simp [World.setCell]
  · intro k hk h1 h2 h3
    exact heap_setCell_other _ ⟨bt, 2, none⟩ k _ h1
  · intro k e; exact .inl e

/-- What is asked of a store's sizes. -/
structure Fair (S : List Om) : Prop where
  len : S.length ≤ 1048576
  vals : ∀ o ∈ S, o.l.length ≤ 100000
  str : ∀ o ∈ S, o.s.size ≤ 1048576
  room : ∀ o ∈ S, o.room ≤ 1099511627776

theorem objAt_mem {S : List Om} {x : Int} {o : Om} (h : objAt S x = some o) : o ∈ S ∧ ∃ i : Nat, x = (i : Int) + 1 ∧ i < S.length ∧ S[i]? = some o := by
  unfold objAt at h
  split at h
  · exact ⟨List.mem_of_getElem? h, (x - 1).toNat, by omega, (List.getElem?_eq_some_iff.1 h).1, h⟩
  · cases h

theorem wordsO_le {S : List Om} (hf : Fair S) {o : Om} (ho : o ∈ S) : wordsO o ≤ 2199023255556 := by
  have h1 := hf.vals o ho; have h2 := hf.str o ho; have h3 := hf.room o ho
  unfold wordsO
  split
  · omega
  · split
    · omega
    · split <;> omega

theorem sumAt_le {S : List Om} (hf : Fair S) (done : List Int) : sumAt S done ≤ 2305843013508661248 := by
  have := sumIf_le (f := fun y => decide (y ∈ done)) (b := 1) (l := S.map wordsO) (m := 2199023255556) (by
    intro a ha
    obtain ⟨o, ho, rfl⟩ := List.mem_map.1 ha
    exact wordsO_le hf ho)
  unfold sumAt
  have h2 := hf.len
  rw [List.length_map] at this
  have : S.length * 2199023255556 ≤ 1048576 * 2199023255556 := Nat.mul_le_mul_right _ h2
  omega

set_option maxRecDepth 20000 in
set_option maxHeartbeats 2000000 in
/-- What is done at an object. -/
theorem visitW_in {w0 : World} {bt bM bn bp K c qc : Nat} {vt : Value} {t : Tr} {p q : Option Addr} {S : List Om} {o : Om} {n : Nat} (hs : IsSt w0 p S) (hl : S.length ≤ maxLen) (hv : Vals w0 q o.l) (hB : Below w0.heap.size w0 w) (ht : IsTo w0.heap.size bt bM (.slice p S.length c) vt K t w) (hK : K + o.l.length ≤ 1099511627776)
    (h1 : o.s.size ≤ 1048576) (h2 : o.l.length ≤ 1048576) (h3 : o.room ≤ 1099511627776) (hn : n + wordsO o ≤ 9223372036854775807)
    (hbase : w0.heap.size ≤ bn) (hbn : w.heap[bn]? = some (.cells #[.int .i64 n] 3 (0, 0))) (hbp : w.heap[bp]? = some (.cells #[.pointer (some ⟨bt, 0, none⟩)] 132 (0, 0))) :
    Calls Tryz.prog 149 #[objV o q qc, .pointer (some ⟨bn, 0, none⟩), .pointer (some ⟨bp, 0, none⟩)] w fun e w' => e = .returned (.bool true) ∧ ∃ vt', IsTo w0.heap.size bt bM (.slice p S.length c) vt' (K + o.l.length) (meetL S t o.l) w' ∧
      w'.heap[bn]? = some (.cells #[.int .i64 (n + wordsO o : Nat)] 3 (0, 0)) ∧ w'.heap[bp]? = some (.cells #[.pointer (some ⟨bt, 0, none⟩)] 132 (0, 0)) ∧ Below w0.heap.size w w' := by
  have hW := words_in o q qc (w.alloc (.cells #[.int .u8 o.k, .string o.s, .slice q o.l.length qc, .int .i64 o.room, .int .i64 o.fn] 96)).drew h1 h2 h3
  unfold objV at hW ⊢
  have hob := heap_alloc_new w (.cells #[.int .u8 o.k, .string o.s, .slice q o.l.length qc, .int .i64 o.room, .int .i64 o.fn] 96)
  have hbn1 := (Below.heap_alloc w (.cells #[.int .u8 o.k, .string o.s, .slice q o.l.length qc, .int .i64 o.room, .int .i64 o.fn] 96) bn (Array.getElem?_eq_some_iff.1 hbn).1).trans hbn
  have hbp1 := (Below.heap_alloc w (.cells #[.int .u8 o.k, .string o.s, .slice q o.l.length qc, .int .i64 o.room, .int .i64 o.fn] 96) bp (Array.getElem?_eq_some_iff.1 hbp).1).trans hbp
  have ht1 := ht.below (below1 w (.cells #[.int .u8 o.k, .string o.s, .slice q o.l.length qc, .int .i64 o.room, .int .i64 o.fn] 96))
  have hB1 := hB.trans ((below1 w (.cells #[.int .u8 o.k, .string o.s, .slice q o.l.length qc, .int .i64 o.room, .int .i64 o.fn] 96)).mono hB.size)
  have hbo : (w.alloc (.cells #[.int .u8 o.k, .string o.s, .slice q o.l.length qc, .int .i64 o.room, .int .i64 o.fn] 96)).heap.size = w.heap.size + 1 := by simp
  have hnl := (Array.getElem?_eq_some_iff.1 hbn).1
  have hpl := (Array.getElem?_eq_some_iff.1 hbp).1
  generalize hWA : w.alloc (.cells #[.int .u8 o.k, .string o.s, .slice q o.l.length qc, .int .i64 o.room, .int .i64 o.fn] 96) = WA at *
  obtain ⟨c1, f1⟩ := cell_row1 hbn1
  obtain ⟨⟨o0, o1, o2, o3, o4⟩, -⟩ := cell_row5 hob
  have hwr : IntKind.i64.wrap ((n : Int) + (wordsO o : Nat)) = ((n + wordsO o : Nat) : Int) := by rw [IntKind.wrap_i64]; omega
  go_enter Tryz.func149, Tryz.ntmps149
  go_wp2
  go_region_with
    ((go_at_call 150; refine hW.mono ?_; rintro e w1 ⟨hBw, rfl⟩; have hbn2 := (hBw.block _ (Array.getElem?_eq_some_iff.1 hbn1).1).trans hbn1; obtain ⟨d1, g1⟩ := cell_row1 hbn2))
  all_goals
    have hBw' : Below WA.heap.size WA w1 := (below_drew (Below.refl _ WA)).trans hBw
    have hne1 : bn ≠ w.heap.size := by omega
    have hob2 := (hBw.block _ (Array.getElem?_eq_some_iff.1 hob).1).trans hob
    have hbp2 := (hBw.block _ (Array.getElem?_eq_some_iff.1 hbp1).1).trans hbp1
    have hpn : bp ≠ bn := by rintro rfl; rw [hbn] at hbp; cases hbp
    have hbt : bt ≠ bn := by rintro rfl; rw [ht.blk] at hbn; cases hbn
    have hMn : bM ≠ bn := fun e => ht.cnt.other hbn e.symm
    have hvn : vt.ownBlock ≠ some bn := fun e => by
      obtain ⟨cur, hc⟩ := row_obj ht.todo e
      rw [hbn] at hc
      cases hc
    have hbt2 : bt ≠ bp := by rintro rfl; rw [ht.blk] at hbp; cases hbp
    have hMp : bM ≠ bp := fun e => ht.cnt.other hbp e.symm
    have hvp : vt.ownBlock ≠ some bp := fun e => by
      obtain ⟨cur, hc⟩ := row_obj ht.todo e
      rw [hbp] at hc
      cases hc
    have ht2 := (ht1.below hBw').kept (w' := w1.setCell ⟨bn, 0, none⟩ (.int .i64 ((n : Int) + (wordsO o : Nat)))) (fun k hk => heap_setCell_other _ ⟨bn, 0, none⟩ k _ (by
      rintro rfl
      rcases hk with e | e | e
      · exact hbt e.symm
      · exact hMn e.symm
      · exact hvn e))
    have hob3 := (heap_setCell_other w1 ⟨bn, 0, none⟩ w.heap.size (.int .i64 ((n : Int) + (wordsO o : Nat))) (Ne.symm hne1)).trans hob2
    have hbp3 := (heap_setCell_other w1 ⟨bn, 0, none⟩ bp (.int .i64 ((n : Int) + (wordsO o : Nat))) hpn).trans hbp2
    have hbn3 : (w1.setCell ⟨bn, 0, none⟩ (.int .i64 ((n : Int) + (wordsO o : Nat)))).heap[bn]? = some (.cells #[.int .i64 ((n : Int) + (wordsO o : Nat))] 3 (0, 0)) := by
      have := heap_setCell_same w1 bn 0 _ _ (.int .i64 ((n : Int) + (wordsO o : Nat))) hbn2
      simpa using this
    have hsz0 : w0.heap.size ≤ w.heap.size := hB.size
    have hB3 : w0.heap.size ≤ bn → Below w0.heap.size WA (w1.setCell ⟨bn, 0, none⟩ (.int .i64 ((n : Int) + (wordsO o : Nat)))) := fun h0 => below_set (hBw'.mono hB1.size) h0 _
    have hB4 : Below w0.heap.size w0 (w1.setCell ⟨bn, 0, none⟩ (.int .i64 ((n : Int) + (wordsO o : Nat)))) := hB1.trans (hB3 hbase)
    have hBA : Below w0.heap.size w WA := by rw [← hWA]; exact (below1 w (.cells #[.int .u8 o.k, .string o.s, .slice q o.l.length qc, .int .i64 o.room, .int .i64 o.fn] 96)).mono hsz0
    have hsz3 : w.heap.size < (w1.setCell ⟨bn, 0, none⟩ (.int .i64 ((n : Int) + (wordsO o : Nat)))).heap.size := (Array.getElem?_eq_some_iff.1 hob3).1
    generalize w1.setCell ⟨bn, 0, none⟩ (.int .i64 ((n : Int) + (wordsO o : Nat))) = W2 at *
    have hM := meet_in (cq := qc) hs hl hv hB4 ht2 hK
    obtain ⟨p0, -⟩ := cell_row1 hbp3
    obtain ⟨⟨o0', o1', o2', o3', o4'⟩, -⟩ := cell_row5 hob3
    clear hW hob hbn1 hbp1 ht1 hBw hbn2 d1 g1 c1 f1 o0 o1 o2 o3 o4 hob2 hbp2 hBw' hWA
    go_wp2_with (first
      | (go_at_call 148; refine hM.mono ?_; clear hM; rintro e w3 ⟨rfl, vt', hto', hS'⟩))
    go_ret
    refine ⟨rfl, vt', hto', ?_, ?_, hBA.trans ((hB3 hbase).trans (ht2.below0 hS'))⟩
    · rw [hS'.block bn (by omega) (Ne.symm hbt) (Ne.symm hMn) (Ne.symm hvn), hbn3]; simp
    · rw [hS'.block bp (by omega) (Ne.symm hbt2) (Ne.symm hMp) (Ne.symm hvp), hbp3]

end Go.Proofs.YtgokofomoachaaaGreatDoor

namespace Go.Proofs.YtgokofomoachaaaGreatDoor
set_option linter.unusedVariables false
set_option linter.unusedSimpArgs false

/-- A number is marked. -/
def Marked (In : List Bool) (x : Int) : Prop := 1 ≤ x ∧ In[(x - 1).toNat]? = some true

/-- The document's way: what is marked, what is to be looked at. -/
structure WayR (S : List Om) (roots : List Vl) (In : List Bool) (todo : List Vl) : Prop where
  len : In.length = S.length
  rch : ∀ x, Marked In x → Reach S roots x
  trc : ∀ v ∈ todo, leadO S v ≠ none → Reach S roots v.n
  root : ∀ v ∈ roots, leadO S v ≠ none → Marked In v.n ∨ v ∈ todo
  clo : ∀ x o, Marked In x → objAt S x = some o → ∀ v ∈ o.l, leadO S v ≠ none → Marked In v.n ∨ v ∈ todo

theorem WayR.start (S : List Om) (roots : List Vl) : WayR S roots (List.replicate S.length false) roots := by
  have no : ∀ x, ¬ Marked (List.replicate S.length false) x := by
    rintro x ⟨_, h⟩
    rw [List.getElem?_replicate] at h
    split at h <;> simp at h
  exact ⟨by simp, fun x h => (no x h).elim, fun v hv hl => Reach.root hv hl, fun v hv _ => .inr hv, fun x o h => (no x h).elim⟩

theorem WayR.end {S : List Om} {roots : List Vl} {In : List Bool} (h : WayR S roots In []) (x : Int) : Marked In x ↔ Reach S roots x :=
  ⟨h.rch x, fun hx => hx (Marked In) (fun v hv hl => by simpa using h.root v hv hl) (fun y o hy ho v hv hl => by simpa using h.clo y o hy ho v hv hl)⟩

/-- The sum of those that are marked. -/
def sumB : List Bool → List Om → Nat
  | b :: r, o :: s => (if b then wordsO o else 0) + sumB r s
  | _, _ => 0

theorem sumB_if {f : Int → Bool} : ∀ {In : List Bool} {S : List Om} {b : Int}, In.length = S.length → (∀ (i : Nat) (c : Bool), In[i]? = some c → f (b + i) = c) → sumB In S = sumIf f b (S.map wordsO)
  | [], [], b, _, _ => rfl
  | [], o :: s, b, h, _ => by simp at h
  | c :: r, [], b, h, _ => by simp at h
  | c :: r, o :: s, b, h, hf => by
    have h0 := hf 0 c (by simp)
    have ih := sumB_if (f := f) (In := r) (S := s) (b := b + 1) (by simpa using h) (fun i d hd => by
      have := hf (i + 1) d (by simpa using hd)
      rw [← this]; congr 1; omega)
    simp only [sumB, List.map_cons, sumIf, ih]
    rw [show b + ((0 : Nat) : Int) = b by omega] at h0
    rw [h0]

open Classical in
theorem WayR.sum {S : List Om} {roots : List Vl} {In : List Bool} (h : WayR S roots In []) : sumB In S = wordsR S roots := by
  unfold wordsR
  refine sumB_if h.len (fun i c hc => ?_)
  have he := h.end (1 + (i : Int))
  have hmk : Marked In (1 + (i : Int)) ↔ c = true := by
    unfold Marked
    rw [show ((1 : Int) + (i : Int) - 1).toNat = i by omega, hc]
    simp; omega
  cases c
  · have : ¬ Reach S roots (1 + (i : Int)) := fun q => by have := hmk.1 (he.2 q); cases this
    simp [this]
  · have : Reach S roots (1 + (i : Int)) := he.1 (hmk.2 rfl)
    simp [this]

end Go.Proofs.YtgokofomoachaaaGreatDoor

namespace Go.Proofs.YtgokofomoachaaaGreatDoor
set_option linter.unusedVariables false
set_option linter.unusedSimpArgs false
open Go.RowKit

variable {w : World}

def vcells : List Vl → List Value
  | [] => []
  | v :: r => .int .u8 v.k :: .int .i64 v.n :: vcells r

theorem vcells_len : ∀ (l : List Vl), (vcells l).length = l.length * 2
  | [] => rfl
  | v :: r => by simp [vcells, vcells_len r]; omega

theorem vcells_append : ∀ (l r : List Vl), vcells (l ++ r) = vcells l ++ vcells r
  | [], _ => rfl
  | v :: l, r => by simp [vcells, vcells_append l r]

theorem vcells_get : ∀ (l : List Vl) (j : Nat) (v : Vl), l[j]? = some v → (vcells l)[j * 2]? = some (.int .u8 v.k) ∧ (vcells l)[j * 2 + 1]? = some (.int .i64 v.n)
  | [], j, v, h => by simp at h
  | u :: r, 0, v, h => by simp at h; subst h; simp [vcells]
  | u :: r, j + 1, v, h => by
    have := vcells_get r j v (by simpa using h)
    rw [show (j + 1) * 2 = j * 2 + 2 by omega]
    simpa [vcells] using this

theorem vcells_one (l : List Vl) : ∀ u ∈ vcells l, u.oneCell' = true := by
  induction l with
  | nil => simp [vcells]
  | cons v r ih => simp [vcells, Value.oneCell']; exact ih

theorem vcells_at : ∀ (l : List Vl) (j : Nat) (u : Value), (vcells l)[j]? = some u → ∃ i v, l[i]? = some v ∧ ((j = i * 2 ∧ u = .int .u8 v.k) ∨ (j = i * 2 + 1 ∧ u = .int .i64 v.n))
  | [], j, u, h => by simp [vcells] at h
  | v :: r, 0, u, h => by simp [vcells] at h; exact ⟨0, v, by simp, .inl ⟨rfl, h.symm⟩⟩
  | v :: r, 1, u, h => by simp [vcells] at h; exact ⟨0, v, by simp, .inr ⟨rfl, h.symm⟩⟩
  | v :: r, j + 2, u, h => by
    obtain ⟨i, x, h1, h2⟩ := vcells_at r j u (by simpa [vcells] using h)
    refine ⟨i + 1, x, by simpa using h1, ?_⟩
    rcases h2 with ⟨q, e⟩ | ⟨q, e⟩
    · exact .inl ⟨by omega, e⟩
    · exact .inr ⟨by omega, e⟩

theorem infoV : (Tryz.prog.info? 27).map (fun i => (i.zero, i.size, i.bytes)) = some (some (.agg #[.int .u8 0, .int .i64 0]), 2, 16) := by kernel_rfl

/-- Marks in memory. -/
def IsIn (w : World) (bi : Nat) (In : List Bool) : Prop := w.heap[bi]? = some (.cells (In.map Value.bool).toArray 4 (0, 0))

theorem IsIn.kept {bi : Nat} {In : List Bool} (h : IsIn w bi In) {w' : World} (hk : w'.heap[bi]? = w.heap[bi]?) : IsIn w' bi In := hk.trans h

theorem IsIn.cell {bi : Nat} {In : List Bool} (h : IsIn w bi In) {i : Nat} {b : Bool} (hb : In[i]? = some b) : w.cell? ⟨bi, i, none⟩ = some (.bool b) ∧ w.frozen? ⟨bi, i, none⟩ = false := by
  refine ⟨?_, frozen_of_row w bi i _ _ h⟩
  rw [cell_of_row w bi i _ _ _ h]
  simp [hb]

theorem IsIn.set {bi : Nat} {In : List Bool} (h : IsIn w bi In) {i : Nat} (b : Bool) : IsIn (w.setCell ⟨bi, i, none⟩ (.bool b)) bi (In.set i b) := by
  unfold IsIn
  have := heap_setCell_same w bi i _ _ (.bool b) h
  rw [this]
  simp

/-- A row of values, with its cells. -/
theorem row_vals {base g c n : Nat} {vs : List Vl} (h : w.ownsRow base 27 2 (.slice (some ⟨g, 0, none⟩) n c) n (vcells vs)) (hn : vs.length = n) {j : Nat} {v : Vl} (hj : vs[j]? = some v) : w.cell? ⟨g, j * 2, none⟩ = some (.int .u8 v.k) ∧ w.cell? ⟨g, j * 2 + 1, none⟩ = some (.int .i64 v.n) := by
  have hlt := (List.getElem?_eq_some_iff.1 hj).1
  obtain ⟨h1, h2⟩ := vcells_get vs j v hj
  exact ⟨by rw [h.cellAt _ (by omega)]; exact h1, by rw [h.cellAt _ (by omega)]; exact h2⟩

end Go.Proofs.YtgokofomoachaaaGreatDoor

namespace Go.Proofs.YtgokofomoachaaaGreatDoor
set_option linter.unusedVariables false
set_option linter.unusedSimpArgs false
open Go.ChangeShapes Go.WideShapes Go.ChangeAt Go.RowKit

theorem nat_u8 {n : Int} (h : (Lit.int .u8 n).wf = true) : ∃ m : Nat, n = m ∧ m < 256 := by
  simp only [Lit.wf, IntKind.min, IntKind.max, IntKind.signed, IntKind.bits, Bool.and_eq_true] at h
  simp at h
  exact ⟨n.toNat, by omega, by omega⟩

theorem i64_wf {n : Int} (h : (Lit.int .i64 n).wf = true) : -9223372036854775808 ≤ n ∧ n ≤ 9223372036854775807 := by
  simp only [Lit.wf, IntKind.min, IntKind.max, IntKind.signed, IntKind.bits, Bool.and_eq_true] at h
  simp at h
  exact ⟨by omega, by omega⟩

theorem list_of {α : Type} {P : Nat → α → Prop} : ∀ (n : Nat), (∀ j, j < n → ∃ v, P j v) → ∃ l : List α, l.length = n ∧ ∀ (j : Nat) (v : α), l[j]? = some v → P j v
  | 0, _ => ⟨[], rfl, by simp⟩
  | n + 1, h => by
    obtain ⟨l, hl, hP⟩ := list_of n (fun j hj => h j (by omega))
    obtain ⟨v, hv⟩ := h n (by omega)
    refine ⟨l ++ [v], by simp [hl], ?_⟩
    intro j u hu
    by_cases hj : j < l.length
    · rw [List.getElem?_append_left hj] at hu; exact hP j u hu
    · rw [List.getElem?_append_right (by omega)] at hu
      have hj2 : j - l.length = 0 := by
        have := (List.getElem?_eq_some_iff.1 hu).1; simp at this; omega
      rw [hj2] at hu
      simp at hu
      subst hu
      rw [show j = n by omega]; exact hv

theorem weightsAll_mem {H : Type} {P : Program} {e : TypeId} {n : Nat} : ∀ {l : List (DataW H)} {d : DataW H}, d ∈ l → n ∈ d.weights P e → n ∈ DataW.weightsAll P e l
  | d0 :: l, d, hd, hn => by
    simp only [DataW.weightsAll, List.mem_append]
    rcases List.mem_cons.1 hd with rfl | hd
    · exact .inl hn
    · exact .inr (weightsAll_mem hd hn)

theorem cellsVal : Tryz.prog.cellsOf 27 = 2 := by kernel_rfl

theorem cellsObj : Tryz.prog.cellsOf 96 = 5 := by kernel_rfl

theorem bytesVal : Tryz.prog.bytesOf 27 = 16 := by kernel_rfl

theorem bytesObj : Tryz.prog.bytesOf 96 = 64 := by kernel_rfl

/-- A value's numbers fit. -/
def Vl.fits (v : Vl) : Prop := v.k < 256 ∧ -9223372036854775808 ≤ v.n ∧ v.n ≤ 9223372036854775807

/-- An object's numbers fit. -/
def Om.fits (o : Om) : Prop := o.k < 256 ∧ (∀ v ∈ o.l, v.fits) ∧ (-9223372036854775808 ≤ o.room ∧ o.room ≤ 9223372036854775807) ∧ -9223372036854775808 ≤ o.fn ∧ o.fn ≤ 9223372036854775807

set_option maxRecDepth 20000 in
theorem vals_told {H : Type} {enc : TypeId × Value → H} {W : World} {fuel : Nat} {p : Option Addr} {len cap : Nat} {x : DataW H × List MemPlace}
    (h : DataW.trod enc Tryz.prog W 0 (fun _ => true) true fuel 47 [.slice p len cap] = some x) :
    ∃ vs : List Vl, vs.length = len ∧ Vals W p vs ∧ (∀ v ∈ vs, v.fits) ∧ (p = none → cap = 0) ∧ ((∀ n ∈ x.1.weights Tryz.prog 47, n ≤ reachBytes) → len * 16 ≤ reachBytes) := by
  rcases Go.Deep.open_slice Tryz.underlying47 h with ⟨hcs, _⟩ | ⟨a, l, c, m, n, D, Pl, hcs, _, hl, hm, hmm, hx, hall⟩
  · simp at hcs
    obtain ⟨rfl, rfl, rfl⟩ := hcs
    exact ⟨[], rfl, by intro j v hj; simp at hj, by simp, fun _ => rfl, fun _ => by simp⟩
  · simp at hcs
    obtain ⟨rfl, rfl, rfl⟩ := hcs
    simp at hmm
    subst hmm
    have key : ∀ j, j < len → ∃ v : Vl, v.fits ∧ ∃ b0 off : Nat, some a = some ⟨b0, off, none⟩ ∧ W.cell? ⟨b0, off + j * 2, none⟩ = some (.int .u8 v.k) ∧ W.cell? ⟨b0, off + j * 2 + 1, none⟩ = some (.int .i64 v.n) := by
      intro j hj
      obtain ⟨cs, hc, ht⟩ := hall j (by omega)
      rw [cellsVal] at hc
      obtain ⟨xs, n', _, _, hl6, hx6, hf⟩ := DataW.trod_struct Tryz.underlying27 ht
      rw [cellsVal] at hl6
      obtain ⟨_, hcl, hcc⟩ := World.cells?_some hc
      obtain ⟨b0, off, spot⟩ := a
      have hspot : spot = none := by
        obtain ⟨cs0, hc0, _⟩ := hall 0 (by omega)
        rw [cellsVal] at hc0
        obtain ⟨_, hcl0, hcc0⟩ := World.cells?_some hc0
        have h0 := hcc0 0 (by omega)
        rw [List.getElem?_eq_getElem (by omega)] at h0
        simpa [Addr.add] using World.cell?_spot h0
      subst hspot
      match cs, hl6, xs, hx6 with
      | [c0, c1], _, [y0, y1], _ =>
        obtain ⟨x0, h0, _, w0⟩ := DataW.trod_int Tryz.underlying25 (hf 0 _ rfl)
        obtain ⟨x1, h1, _, w1⟩ := DataW.trod_int Tryz.underlying2 (hf 1 _ rfl)
        have k0 : Tryz.prog.cellsOf 25 = 1 := by kernel_rfl
        have k1 : Tryz.prog.cellsOf 2 = 1 := by kernel_rfl
        simp [k0, k1] at h0 h1
        subst h0 h1
        obtain ⟨m0, rfl, b0'⟩ := nat_u8 w0
        refine ⟨⟨m0, x1⟩, ⟨b0', i64_wf w1⟩, b0, off, rfl, ?_, ?_⟩
        · have := hcc 0 (by omega)
          rw [Addr.add_lit, Addr.add_lit] at this
          simpa using this
        · have := hcc 1 (by omega)
          rw [Addr.add_lit, Addr.add_lit] at this
          simpa using this
    obtain ⟨vs, hvl, hvs⟩ := list_of (P := fun j (v : Vl) => v.fits ∧ ∃ b0 off : Nat, some a = some ⟨b0, off, none⟩ ∧ W.cell? ⟨b0, off + j * 2, none⟩ = some (.int .u8 v.k) ∧ W.cell? ⟨b0, off + j * 2 + 1, none⟩ = some (.int .i64 v.n)) len key
    refine ⟨vs, hvl, fun j v hj => (hvs j v hj).2, ?_, (fun e => by cases e), fun hw => ?_⟩
    · intro v hv
      obtain ⟨j, hj⟩ := List.mem_iff_getElem?.1 hv
      exact (hvs j v hj).1
    · have := hw ((len + (m - len)) * 16) (by rw [hx]; simp [DataW.weights, Tryz.underlying47, bytesVal])
      omega

set_option maxRecDepth 20000 in
theorem objs_told {H : Type} {enc : TypeId × Value → H} {W : World} {fuel : Nat} {p : Option Addr} {len cap : Nat} {x : DataW H × List MemPlace}
    (h : DataW.trod enc Tryz.prog W 0 (fun _ => true) true fuel 23 [.slice p len cap] = some x) (hw : ∀ n ∈ x.1.weights Tryz.prog 23, n ≤ reachBytes) :
    ∃ S : List Om, S.length = len ∧ IsSt W p S ∧ (∀ o ∈ S, o.fits ∧ o.s.size ≤ reachBytes ∧ o.l.length * 16 ≤ reachBytes) ∧ (p = none → cap = 0) ∧ len * 64 ≤ reachBytes := by
  rcases Go.Deep.open_slice Tryz.underlying23 h with ⟨hcs, _⟩ | ⟨a, l, c, m, n, D, Pl, hcs, _, hl, hm, hmm, hx, hall⟩
  · simp at hcs
    obtain ⟨rfl, rfl, rfl⟩ := hcs
    exact ⟨[], rfl, by intro j v hj; simp at hj, by simp, fun _ => rfl, by simp⟩
  · simp at hcs
    obtain ⟨rfl, rfl, rfl⟩ := hcs
    simp at hmm
    subst hmm
    have hW2 : ∀ j, j < len → ∀ n ∈ (D j).weights Tryz.prog 96, n ≤ reachBytes := by
      intro j hj n hn
      refine hw n ?_
      rw [hx]
      simp only [DataW.weights, Tryz.underlying23]
      refine List.mem_cons_of_mem _ (List.mem_append_left _ (weightsAll_mem (d := D j) (List.mem_map.2 ⟨j, by simp [hj], rfl⟩) hn))
    have key : ∀ j, j < len → ∃ o : Om, (o.fits ∧ o.s.size ≤ reachBytes ∧ o.l.length * 16 ≤ reachBytes) ∧ ∃ b0 off : Nat, some a = some ⟨b0, off, none⟩ ∧ W.cell? ⟨b0, off + j * 5, none⟩ = some (.int .u8 o.k) ∧ W.cell? ⟨b0, off + j * 5 + 1, none⟩ = some (.string o.s) ∧
        (∃ q c, W.cell? ⟨b0, off + j * 5 + 2, none⟩ = some (.slice q o.l.length c) ∧ Vals W q o.l ∧ (q = none → c = 0)) ∧ W.cell? ⟨b0, off + j * 5 + 3, none⟩ = some (.int .i64 o.room) ∧ W.cell? ⟨b0, off + j * 5 + 4, none⟩ = some (.int .i64 o.fn) := by
      intro j hj
      obtain ⟨cs, hc, ht⟩ := hall j (by omega)
      rw [cellsObj] at hc
      have hDw := hW2 j hj
      generalize D j = dj at *
      obtain ⟨xs, n', _, hdx, hl6, hx6, hf⟩ := DataW.trod_struct Tryz.underlying96 ht
      rw [cellsObj] at hl6
      obtain ⟨_, hcl, hcc⟩ := World.cells?_some hc
      obtain ⟨b0, off, spot⟩ := a
      have hspot : spot = none := by
        obtain ⟨cs0, hc0, _⟩ := hall 0 (by omega)
        rw [cellsObj] at hc0
        obtain ⟨_, hcl0, hcc0⟩ := World.cells?_some hc0
        have h0 := hcc0 0 (by omega)
        rw [List.getElem?_eq_getElem (by omega)] at h0
        simpa [Addr.add] using World.cell?_spot h0
      subst hspot
      match cs, hl6, xs, hx6 with
      | [c0, c1, c2, c3, c4], _, [y0, y1, y2, y3, y4], _ =>
        obtain ⟨x0, h0, _, w0⟩ := DataW.trod_int Tryz.underlying25 (hf 0 _ rfl)
        obtain ⟨s1, h1, hs1, w1⟩ := DataW.trod_string Tryz.underlying9 (hf 1 _ rfl)
        have h2 := hf 2 _ rfl
        obtain ⟨x3, h3, _, w3⟩ := DataW.trod_int Tryz.underlying3 (hf 3 _ rfl)
        obtain ⟨x4, h4, _, w4⟩ := DataW.trod_int Tryz.underlying3 (hf 4 _ rfl)
        have k0 : Tryz.prog.cellsOf 25 = 1 := by kernel_rfl
        have k1 : Tryz.prog.cellsOf 9 = 1 := by kernel_rfl
        have k2 : Tryz.prog.cellsOf 47 = 1 := by kernel_rfl
        have k3 : Tryz.prog.cellsOf 3 = 1 := by kernel_rfl
        simp [k0] at h0
        simp [k1] at h1
        simp [k2] at h2
        simp [k3] at h3 h4
        subst h0 h1 h3 h4
        obtain ⟨q, ln, cp, rfl⟩ : ∃ q ln cp, c2 = .slice q ln cp := by
          rcases Go.Deep.open_slice Tryz.underlying47 h2 with ⟨hcs, _⟩ | ⟨a, l, c, m, n, D, Pl, hcs, _⟩
          · simp at hcs; exact ⟨_, _, _, hcs⟩
          · simp at hcs; exact ⟨_, _, _, hcs⟩
        obtain ⟨vs, rfl, hv1, hv2, hv3, hv4⟩ := vals_told h2
        obtain ⟨m0, rfl, b0'⟩ := nat_u8 w0
        simp only [Prod.mk.injEq] at hdx
        have hwt : ∀ n, n ∈ y1.1.weights Tryz.prog 9 ∨ n ∈ y2.1.weights Tryz.prog 47 → n ≤ reachBytes := by
          intro n hn
          refine hDw n ?_
          rw [hdx.1]
          simp only [DataW.weights, Tryz.underlying96, List.map_cons, List.map_nil, DataW.weightsEach, List.mem_append]
          rcases hn with hn | hn
          · exact .inr (.inl hn)
          · exact .inr (.inr (.inl hn))
        refine ⟨⟨m0, s1, vs, x3, x4⟩, ⟨⟨b0', hv2, i64_wf w3, i64_wf w4⟩, ?_, hv4 (fun n hn => hwt n (.inr hn))⟩, b0, off, rfl, ?_, ?_, ⟨q, cp, ?_, hv1, hv3⟩, ?_, ?_⟩
        · refine hwt _ (.inl ?_)
          rw [hs1]
          simp [DataW.weights]
        · have := hcc 0 (by omega)
          rw [Addr.add_lit, Addr.add_lit] at this
          simpa using this
        · have := hcc 1 (by omega)
          rw [Addr.add_lit, Addr.add_lit] at this
          simpa using this
        · have := hcc 2 (by omega)
          rw [Addr.add_lit, Addr.add_lit] at this
          simpa using this
        · have := hcc 3 (by omega)
          rw [Addr.add_lit, Addr.add_lit] at this
          simpa using this
        · have := hcc 4 (by omega)
          rw [Addr.add_lit, Addr.add_lit] at this
          simpa using this
    obtain ⟨S, hSl, hS⟩ := list_of (P := fun j (o : Om) => (o.fits ∧ o.s.size ≤ reachBytes ∧ o.l.length * 16 ≤ reachBytes) ∧ ∃ b0 off : Nat, some a = some ⟨b0, off, none⟩ ∧ W.cell? ⟨b0, off + j * 5, none⟩ = some (.int .u8 o.k) ∧ W.cell? ⟨b0, off + j * 5 + 1, none⟩ = some (.string o.s) ∧
        (∃ q c, W.cell? ⟨b0, off + j * 5 + 2, none⟩ = some (.slice q o.l.length c) ∧ Vals W q o.l ∧ (q = none → c = 0)) ∧ W.cell? ⟨b0, off + j * 5 + 3, none⟩ = some (.int .i64 o.room) ∧ W.cell? ⟨b0, off + j * 5 + 4, none⟩ = some (.int .i64 o.fn)) len key
    refine ⟨S, hSl, fun j o hj => (hS j o hj).2, ?_, (fun e => by cases e), ?_⟩
    · intro o ho
      obtain ⟨j, hj⟩ := List.mem_iff_getElem?.1 ho
      exact (hS j o hj).1
    · have := hw ((len + (m - len)) * 64) (by rw [hx]; simp [DataW.weights, Tryz.underlying23, bytesObj])
      omega

end Go.Proofs.YtgokofomoachaaaGreatDoor
