/- ObjectLists: what a list leads to; plain lists alone. -/
import Derived.Test.YtkombdkhodjckaaGreatLsOps
import Derived.Test.YtkombdkhodjckaaGreatGcSlide
namespace Go.Proofs.YtkombdkhodjckaaGreat
set_option linter.unusedVariables false
set_option linter.unusedSimpArgs false
open Go.RowKit

variable {M : List Ob} {at_ room inn : Nat} {vs : List Vl}

theorem prs_to {M : List Ob} : ∀ {ws : List Nat} {i : Nat} {x : Lk}, x ∈ prs M i ws → ∃ o ∈ M, o.at_ = x.to ∧ 3 ≤ o.kind ∧ o.kind ≤ 7
  | [], _, _, h => by simp [prs] at h
  | [_], _, _, h => by simp [prs] at h
  | k :: n :: r, i, x, h => by
    rw [prs] at h
    rcases List.mem_append.1 h with h | h
    · split at h
      · rename_i hl
        simp at h
        subst h
        obtain ⟨h1, h2, o, ho, e1, e2⟩ := hl
        exact ⟨o, ho, by simp only; omega, by omega, by omega⟩
      · simp at h
    · exact prs_to h

/-- The list, and its Items, and no more. -/
theorem reach_row (hs : Srt 0 M) (r : Rw M at_ 4 vs room inn) (ho : ∀ x ∈ M, x.kind = 8 ∨ x.at_ = at_) {p : Nat} (h : Rch M [⟨4, at_⟩] p) : p = at_ ∨ (p = inn ∧ ∃ q ∈ M, q.at_ = inn ∧ q.kind = 8 ∧ q.ws.length = 2 * room ∧ ∃ o n, o ∈ M ∧ o.at_ = at_ ∧ o.kind = 4 ∧ o.ws = [n, inn + 1]) := by
  refine Rch.ind (P := fun p => p = at_ ∨ (p = inn ∧ ∃ q ∈ M, q.at_ = inn ∧ q.kind = 8 ∧ q.ws.length = 2 * room ∧ ∃ o n, o ∈ M ∧ o.at_ = at_ ∧ o.kind = 4 ∧ o.ws = [n, inn + 1])) ?_ ?_ h
  · intro v p hv hl e
    simp at hv
    subst hv
    simp at e
    exact .inl (by omega)
  · intro o x hom hP hx
    rcases hP with e | ⟨e, q, hq, e1, e2, e3, o', n', h1, h2, h3, h4⟩
    · -- the list itself
      rcases r with ⟨o1, q1, hr, f1, f2, f3, f4, f5⟩ | ⟨h1, h2, h3, h4⟩
      · have : o = o1 := at_inj hs hom hr.mem (by rw [e, f1])
        subst this
        unfold links at hx
        rw [if_pos (.inl f2)] at hx
        unfold itemsL at hx
        rw [hr.ws] at hx
        simp only [List.getElem?_cons_succ, List.getElem?_cons_zero] at hx
        split at hx
        · simp at hx
          subst hx
          exact .inr ⟨f3, q1, hr.memq, f3, hr.kindq, hr.size, o, vs.length, hr.mem, f1, f2, by rw [← f3]; exact hr.ws⟩
        · simp at hx
      · have : o = ⟨at_, 4, [0, 0]⟩ := at_inj hs hom h1 (by rw [e])
        subst this
        simp [links, itemsL] at hx
    · -- its Items
      have : o = q := at_inj hs hom hq (by rw [e, e1])
      subst this
      unfold links at hx
      rw [if_neg (by omega), if_pos e2] at hx
      obtain ⟨y, hy, g1, g2, g3⟩ := prs_to hx
      rcases ho y hy with g | g
      · omega
      · exact .inl (by rw [← g1, g])

theorem sumO_one {L : List Ob} {lo : Nat} (hs : Srt lo L) {o : Ob} (h : ∀ x, x ∈ L ↔ x = o) : sumO L = o.ws.length + 1 := by
  cases L with
  | nil => exact absurd ((h o).2 rfl) (by simp)
  | cons a r =>
    have ha : a = o := (h a).1 (by simp)
    cases r with
    | nil => simp [sumO, ha]
    | cons c r =>
      have hc : c = o := (h c).1 (by simp)
      have h1 := hs.2.1
      rw [ha, hc] at h1
      unfold Ob.end_ at h1
      omega

theorem sumO_two {L : List Ob} {lo : Nat} (hs : Srt lo L) {o q : Ob} (hne : o.at_ < q.at_ ∨ q.at_ < o.at_) (h : ∀ x, x ∈ L ↔ x = o ∨ x = q) : sumO L = o.ws.length + 1 + (q.ws.length + 1) := by
  have hap : ∀ a c r, L = a :: c :: r → a ≠ c := fun a c r e e2 => by
    rw [e] at hs
    have h1 := hs.2.1
    rw [e2] at h1
    unfold Ob.end_ at h1
    omega
  cases L with
  | nil => exact absurd ((h o).2 (.inl rfl)) (by simp)
  | cons a r =>
    cases r with
    | nil =>
      have h1 : o = a := by simpa using (h o).2 (.inl rfl)
      have h2 : q = a := by simpa using (h q).2 (.inr rfl)
      rw [h1, h2] at hne
      omega
    | cons c r =>
      cases r with
      | nil =>
        have h1 : o = a ∨ o = c := by simpa using (h o).2 (.inl rfl)
        have h2 : q = a ∨ q = c := by simpa using (h q).2 (.inr rfl)
        rcases h1 with h1 | h1 <;> rcases h2 with h2 | h2
        · rw [h1, h2] at hne; omega
        · subst h1 h2; simp [sumO]
        · subst h1 h2; simp [sumO]; omega
        · rw [h1, h2] at hne; omega
      | cons d r =>
        have a1 := (h a).1 (by simp)
        have c1 := (h c).1 (by simp)
        have d1 := (h d).1 (by simp)
        have s1 := hs.2.1
        have s2 := hs.2.2.1
        unfold Ob.end_ at s1 s2
        rcases a1 with rfl | rfl <;> rcases c1 with rfl | rfl <;> rcases d1 with rfl | rfl <;> omega

/-- How many words are left behind a collection. -/
theorem left_words (hs : Srt 0 M) (r : Rw M at_ 4 vs room inn) (ho : ∀ x ∈ M, x.kind = 8 ∨ x.at_ = at_) (h0 : room = 0 → ⟨at_, 4, [0, 0]⟩ ∈ M) {f : Ob → Bool} (hf : Reached M [⟨4, at_⟩] f) (hsf : Srt 0 (M.filter f)) : sumO (M.filter f) = if room = 0 then 3 else 4 + 2 * room := by
  have hroot : ∀ o ∈ M, o.at_ = at_ → o.kind = 4 → Rch M [⟨4, at_⟩] at_ := fun o hom e k => Rch.root (v := ⟨4, at_⟩) (by simp) ⟨by simp, by simp, o, hom, by simp only; omega, k⟩ rfl
  by_cases hr0 : room = 0
  · rw [if_pos hr0]
    have hm := h0 hr0
    refine sumO_one hsf (o := ⟨at_, 4, [0, 0]⟩) (fun x => ⟨fun hx => ?_, fun e => ?_⟩)
    · obtain ⟨hxm, hfx⟩ := List.mem_filter.1 hx
      rcases reach_row hs r ho ((hf.iff x hxm).1 hfx) with e | ⟨e, q, hq, e1, e2, e3, o, n, g1, g2, g3, g4⟩
      · exact at_inj hs hxm hm (by rw [e])
      · have : o = ⟨at_, 4, [0, 0]⟩ := at_inj hs g1 hm (by rw [g2])
        rw [this] at g4
        simp at g4
    · subst e
      exact List.mem_filter.2 ⟨hm, (hf.iff _ hm).2 (hroot _ hm rfl rfl)⟩
  · rw [if_neg hr0]
    rcases r with ⟨o, q, hr, f1, f2, f3, f4, f5⟩ | ⟨h1, h2, h3, h4⟩
    · have hrt := hroot o hr.mem f1 f2
      have hq2 : Rch M [⟨4, at_⟩] inn := by
        have hx : (⟨1, q.at_, 1⟩ : Lk) ∈ links M o := by
          unfold links
          rw [if_pos (.inl f2)]
          unfold itemsL
          rw [hr.ws]
          simp only [List.getElem?_cons_succ, List.getElem?_cons_zero]
          rw [if_pos ⟨by omega, q, hr.memq, by omega, hr.kindq⟩]
          simp
        have := Rch.step hr.mem (by rw [f1]; exact hrt) hx
        rw [← f3]; exact this
      have e := sumO_two hsf (o := o) (q := q) (by omega) (fun x => ⟨fun hx => ?_, fun e => ?_⟩)
      · rw [e, hr.ws, hr.size]; simp; omega
      · obtain ⟨hxm, hfx⟩ := List.mem_filter.1 hx
        rcases reach_row hs (.inl ⟨o, q, hr, f1, f2, f3, f4, f5⟩) ho ((hf.iff x hxm).1 hfx) with e | ⟨e, _⟩
        · exact .inl (at_inj hs hxm hr.mem (by rw [e, f1]))
        · exact .inr (at_inj hs hxm hr.memq (by rw [e, f3]))
      · rcases e with rfl | rfl
        · exact List.mem_filter.2 ⟨hr.mem, (hf.iff _ hr.mem).2 (by rw [f1]; exact hrt)⟩
        · exact List.mem_filter.2 ⟨hr.memq, (hf.iff _ hr.memq).2 (by rw [f3]; exact hq2)⟩
    · omega

end Go.Proofs.YtkombdkhodjckaaGreat
