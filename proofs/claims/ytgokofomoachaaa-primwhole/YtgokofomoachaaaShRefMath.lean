/- The document's way of what is led to, plainly. -/
import Derived.Test.YtgokofomoachaaaShRef
import Derived.Test.YtgokofomoachaaaShWords
namespace Go.Proofs.Ytgokofomoachaaa
set_option linter.unusedVariables false
set_option linter.unusedSimpArgs false

/-- A number is marked. -/
def Marked (In : List Bool) (x : Int) : Prop := 1 ≤ x ∧ In[(x - 1).toNat]? = some true

/-- The document's way: what is marked, what is to be looked at. -/
structure WayR (S : List Om) (roots : List Vl) (In : List Bool) (todo : List Vl) : Prop where
  len : In.length = S.length
  rch : ∀ x, Marked In x → Reach S roots x
  trc : ∀ v ∈ todo, leadO S v ≠ none → Reach S roots v.n
  root : ∀ v ∈ roots, leadO S v ≠ none → Marked In v.n ∨ v ∈ todo
  clo : ∀ x o, Marked In x → objAt S x = some o → ∀ v ∈ o.l, leadO S v ≠ none → Marked In v.n ∨ v ∈ todo

theorem WayR.start (S : List Om) (roots : List Vl) : WayR S roots (List.replicate S.length false) roots := by
  have no : ∀ x, ¬ Marked (List.replicate S.length false) x := by
    rintro x ⟨_, h⟩
    rw [List.getElem?_replicate] at h
    split at h <;> simp at h
  exact ⟨by simp, fun x h => (no x h).elim, fun v hv hl => Reach.root hv hl, fun v hv _ => .inr hv, fun x o h => (no x h).elim⟩

/-- One is looked at and leads nowhere, or to what is marked. -/
theorem WayR.pass {S : List Om} {roots : List Vl} {In : List Bool} {a : List Vl} {v : Vl} (h : WayR S roots In (a ++ [v])) (hv : leadO S v ≠ none → Marked In v.n) : WayR S roots In a := by
  refine ⟨h.len, h.rch, fun u hu hl => h.trc u (by simp [hu]) hl, fun u hu hl => ?_, fun x o hx ho u hu hl => ?_⟩
  · rcases h.root u hu hl with q | q
    · exact .inl q
    · rcases List.mem_append.1 q with q | q
      · exact .inr q
      · simp at q; subst q; exact .inl (hv hl)
  · rcases h.clo x o hx ho u hu hl with q | q
    · exact .inl q
    · rcases List.mem_append.1 q with q | q
      · exact .inr q
      · simp at q; subst q; exact .inl (hv hl)

theorem marked_set {In : List Bool} {i : Nat} (hi : i < In.length) (x : Int) : Marked (In.set i true) x ↔ Marked In x ∨ x = (i : Int) + 1 := by
  unfold Marked
  by_cases hx : 1 ≤ x
  · simp only [hx, true_and]
    rw [List.getElem?_set]
    by_cases e : i = (x - 1).toNat
    · have : x = (i : Int) + 1 := by omega
      simp [← e, hi, this]
    · have : x ≠ (i : Int) + 1 := by omega
      rw [if_neg e]
      simp [this]
  · have : x ≠ (i : Int) + 1 := by omega
    simp [hx, this]

/-- One is looked at and leads to what was not marked. -/
theorem WayR.mark {S : List Om} {roots : List Vl} {In : List Bool} {a : List Vl} {v : Vl} {o : Om} {i : Nat} (h : WayR S roots In (a ++ [v])) (hl : leadO S v = some o) (hn : v.n = (i : Int) + 1) (hi : i < S.length) : WayR S roots (In.set i true) (a ++ o.l) := by
  have hne : leadO S v ≠ none := by rw [hl]; simp
  have hr := h.trc v (by simp) hne
  have hob := (leadO_at hl).1
  have hm := marked_set (In := In) (i := i) (by rw [h.len]; exact hi)
  refine ⟨by simp [h.len], ?_, ?_, ?_, ?_⟩
  · intro x hx
    rcases (hm x).1 hx with q | q
    · exact h.rch x q
    · rw [q, ← hn]; exact hr
  · intro u hu hul
    rcases List.mem_append.1 hu with q | q
    · exact h.trc u (by simp [q]) hul
    · exact Reach.next hr hob q hul
  · intro u hu hul
    rcases h.root u hu hul with q | q
    · exact .inl ((hm _).2 (.inl q))
    · rcases List.mem_append.1 q with q | q
      · exact .inr (by simp [q])
      · simp at q; subst q; exact .inl ((hm _).2 (.inr hn))
  · intro x p hx hp u hu hul
    rcases (hm x).1 hx with q | q
    · rcases h.clo x p q hp u hu hul with q | q
      · exact .inl ((hm _).2 (.inl q))
      · rcases List.mem_append.1 q with q | q
        · exact .inr (by simp [q])
        · simp at q; subst q; exact .inl ((hm _).2 (.inr hn))
    · rw [q, ← hn, hob] at hp
      cases hp
      exact .inr (by simp [hu])

theorem WayR.end {S : List Om} {roots : List Vl} {In : List Bool} (h : WayR S roots In []) (x : Int) : Marked In x ↔ Reach S roots x :=
  ⟨h.rch x, fun hx => hx (Marked In) (fun v hv hl => by simpa using h.root v hv hl) (fun y o hy ho v hv hl => by simpa using h.clo y o hy ho v hv hl)⟩

/-- How many values are in what is not marked. -/
def leftB : List Bool → List Om → Nat
  | b :: r, o :: s => (if b then 0 else o.l.length) + leftB r s
  | _, _ => 0

theorem leftB_le : ∀ {In : List Bool} {S : List Om}, (∀ o ∈ S, o.l.length ≤ 100000) → leftB In S ≤ 100000 * S.length
  | [], S, _ => by simp [leftB]
  | b :: r, [], _ => by simp [leftB]
  | b :: r, o :: s, h => by
    have ih := leftB_le (In := r) (S := s) (fun x hx => h x (by simp [hx]))
    have := h o (by simp)
    simp only [leftB, List.length_cons]
    split <;> omega

theorem leftB_set : ∀ {In : List Bool} {S : List Om} {i : Nat} {o : Om}, In[i]? = some false → S[i]? = some o → leftB (In.set i true) S + o.l.length = leftB In S
  | [], S, i, o, h, _ => by simp at h
  | b :: r, [], i, o, _, h => by simp at h
  | b :: r, p :: s, 0, o, h1, h2 => by
    simp at h1 h2
    subst h1; subst h2
    simp [leftB]; omega
  | b :: r, p :: s, i + 1, o, h1, h2 => by
    have ih := leftB_set (In := r) (S := s) (i := i) (o := o) (by simpa using h1) (by simpa using h2)
    simp only [List.set_cons_succ, leftB]
    omega

/-- The sum of those that are marked. -/
def sumB : List Bool → List Om → Nat
  | b :: r, o :: s => (if b then wordsO o else 0) + sumB r s
  | _, _ => 0

theorem sumB_if {f : Int → Bool} : ∀ {In : List Bool} {S : List Om} {b : Int}, In.length = S.length → (∀ (i : Nat) (c : Bool), In[i]? = some c → f (b + i) = c) → sumB In S = sumIf f b (S.map wordsO)
  | [], [], b, _, _ => rfl
  | [], o :: s, b, h, _ => by simp at h
  | c :: r, [], b, h, _ => by simp at h
  | c :: r, o :: s, b, h, hf => by
    have h0 := hf 0 c (by simp)
    have ih := sumB_if (f := f) (In := r) (S := s) (b := b + 1) (by simpa using h) (fun i d hd => by
      have := hf (i + 1) d (by simpa using hd)
      rw [← this]; congr 1; omega)
    simp only [sumB, List.map_cons, sumIf, ih]
    rw [show b + ((0 : Nat) : Int) = b by omega] at h0
    rw [h0]

open Classical in
theorem WayR.sum {S : List Om} {roots : List Vl} {In : List Bool} (h : WayR S roots In []) : sumB In S = wordsR S roots := by
  unfold wordsR
  refine sumB_if h.len (fun i c hc => ?_)
  have he := h.end (1 + (i : Int))
  have hmk : Marked In (1 + (i : Int)) ↔ c = true := by
    unfold Marked
    rw [show ((1 : Int) + (i : Int) - 1).toNat = i by omega, hc]
    simp; omega
  cases c
  · have : ¬ Reach S roots (1 + (i : Int)) := fun q => by have := hmk.1 (he.2 q); cases this
    simp [this]
  · have : Reach S roots (1 + (i : Int)) := he.1 (hmk.2 rfl)
    simp [this]

/-- The sum of the first ones. -/
theorem sumB_snoc : ∀ {In : List Bool} {S : List Om} {b : Bool} {o : Om}, In.length = S.length → sumB (In ++ [b]) (S ++ [o]) = sumB In S + (if b then wordsO o else 0)
  | [], [], b, o, _ => by simp [sumB]
  | [], p :: s, b, o, h => by simp at h
  | c :: r, [], b, o, h => by simp at h
  | c :: r, p :: s, b, o, h => by
    have ih := sumB_snoc (In := r) (S := s) (b := b) (o := o) (by simpa using h)
    simp only [List.cons_append, sumB, ih]; omega

theorem sumB_le : ∀ {In : List Bool} {S : List Om}, Fair S → sumB In S ≤ S.length * 2199023255556 := by
  intro In S hf
  have hm : ∀ o ∈ S, wordsO o ≤ 2199023255556 := fun o ho => wordsO_le hf ho
  clear hf
  induction S generalizing In with
  | nil => cases In <;> simp [sumB]
  | cons o s ih =>
    cases In with
    | nil => simp [sumB]
    | cons b r =>
      have := ih (In := r) (fun x hx => hm x (by simp [hx]))
      have h2 := hm o (by simp)
      simp only [sumB, List.length_cons, Nat.succ_mul]
      split <;> omega

end Go.Proofs.Ytgokofomoachaaa
