/- Which objects values lead to: gc's tellsObject, leads, held. -/
import Derived.Test.YtampilfebmfhaaaGreatDoorMore
import Derived.Test.YtampilfebmfhaaaGreatDoorGcMath
namespace Go.Proofs.YtampilfebmfhaaaGreatDoor
set_option linter.unusedVariables false
set_option linter.unusedSimpArgs false
open Go.RowKit

variable {n₀ bh b lim used : Nat} {vw vb : Value} {w : World} {M : List Ob}

def vv (k : Nat) (n : Int) : Value := .agg #[.int .u8 k, .int .i64 n]

theorem Srt.uniq {M : List Ob} {lo : Nat} (h : Srt lo M) {o q : Ob} (ho : o ∈ M) (hq : q ∈ M) (e : o.at_ = q.at_) : o = q := by
  induction M generalizing lo with
  | nil => cases ho
  | cons x r ih =>
    obtain ⟨h1, h2⟩ := h
    have hx : ∀ y ∈ r, x.at_ < y.at_ := fun y hy => by have := Srt.lo h2 y hy; unfold Ob.end_ at this; omega
    rcases List.mem_cons.1 ho with e1 | ho <;> rcases List.mem_cons.1 hq with e2 | hq
    · rw [e1, e2]
    · have := hx q hq; rw [← e1] at this; omega
    · have := hx o ho; rw [← e2] at this; omega
    · exact ih h2 ho hq

theorem below1 (w : World) (o : Obj) : Below w.heap.size w (w.alloc o) := (Below.refl _ _).alloc (Nat.le_refl _) _

theorem at_cases (M : List Ob) (i : Int) : (∀ o ∈ M, (o.at_ : Int) ≠ i) ∨ ∃ l o r, M = l ++ o :: r ∧ (o.at_ : Int) = i := by
  by_cases h : ∀ o ∈ M, (o.at_ : Int) ≠ i
  · exact .inl h
  · simp only [Classical.not_forall] at h
    obtain ⟨o, ho, e⟩ := h
    obtain ⟨l, r, rfl⟩ := List.append_of_mem ho
    exact .inr ⟨l, o, r, rfl, by simpa using e⟩

set_option maxHeartbeats 400000 in
theorem tells_in (k : Nat) (w : World) : Calls Tryz.prog 117 #[.int .u8 k] w fun e w' => e = .returned (.bool (decide (3 ≤ k ∧ k ≤ 7))) ∧ w' = w := by
  by_cases h1 : (3 : Int) ≤ (k : Int)
  · by_cases h2 : (k : Int) ≤ 7
    · have e : decide (3 ≤ k ∧ k ≤ 7) = true := by simp; omega
      rw [e]
      clear e
      go_enter Tryz.func117, Tryz.ntmps117
      go_wp2
      go_ret
      exact ⟨rfl, rfl⟩
    · have e : decide (3 ≤ k ∧ k ≤ 7) = false := by simp; omega
      rw [e]
      clear e
      go_enter Tryz.func117, Tryz.ntmps117
      go_wp2
      go_ret
      exact ⟨rfl, rfl⟩
  · have e : decide (3 ≤ k ∧ k ≤ 7) = false := by simp; omega
    rw [e]
    clear e
    go_enter Tryz.func117, Tryz.ntmps117
    go_wp2
    go_ret
    exact ⟨rfl, rfl⟩

theorem leads_iff {M : List Ob} (hs : Srt 0 M) {o : Ob} (ho : o ∈ M) (k : Nat) : Leads M k o.at_ ↔ 3 ≤ k ∧ k ≤ 7 ∧ o.kind = k := by
  constructor
  · rintro ⟨h1, h2, q, hq, e, e2⟩
    obtain rfl := hs.uniq hq ho (by omega)
    exact ⟨h1, h2, e2⟩
  · rintro ⟨h1, h2, e⟩
    exact ⟨h1, h2, o, ho, rfl, e⟩

set_option maxRecDepth 20000 in
set_option maxHeartbeats 1000000 in
theorem leads_in (h : Hp n₀ bh b vw vb w lim used M) (k : Nat) (n : Int) :
    Calls Tryz.prog 118 #[.pointer (some ⟨bh, 0, none⟩), .agg #[.int .u8 k, .int .i64 n]] w fun e w' => e = .returned (.bool (decide (Leads M k n))) ∧ Below w.heap.size w w' := by
  have ht := fun w => tells_in k w
  by_cases hk : 3 ≤ k ∧ k ≤ 7
  · have e0 : decide (3 ≤ k ∧ k ≤ 7) = true := by simpa using hk
    rw [e0] at ht
    rcases at_cases M n with hn | ⟨l, o, r, rfl, rfl⟩
    · have e1 : decide (Leads M k n) = false := by
        simp only [decide_eq_false_iff_not]
        rintro ⟨_, _, o, ho, e, _⟩
        exact hn o ho e
      rw [e1]
      have hq := fun w' (hB : Below w.heap.size w w') => kindM_none (h.below hB) n hn
      clear e0 e1 hn hk
      go_enter Tryz.func118, Tryz.ntmps118
      go_wp2_with (first
        | (go_at_call 117; refine (ht _).mono ?_; rintro e w' ⟨rfl, rfl⟩)
        | (go_at_call 32; refine (hq _ (below1 _ _)).mono ?_; rintro e w' ⟨rfl, rfl⟩))
      go_ret
      exact ⟨rfl, below1 _ _⟩
    · have hm : o ∈ l ++ o :: r := by simp
      have hq := fun w' (hB : Below w.heap.size w w') => kindM (h.below hB)
      by_cases hok : o.kind = k
      · have e1 : decide (Leads (l ++ o :: r) k o.at_) = true := by
          simp only [decide_eq_true_eq]
          exact (leads_iff h.srt.1 hm k).2 ⟨hk.1, hk.2, hok⟩
        rw [e1]
        subst hok
        clear e0 e1 hk
        go_enter Tryz.func118, Tryz.ntmps118
        go_wp2_with (first
          | (go_at_call 117; refine (ht _).mono ?_; rintro e w' ⟨rfl, rfl⟩)
          | (go_at_call 32; refine (hq _ (below1 _ _)).mono ?_; rintro e w' ⟨rfl, rfl⟩))
        go_ret
        exact ⟨rfl, below1 _ _⟩
      · have e1 : decide (Leads (l ++ o :: r) k o.at_) = false := by
          simp only [decide_eq_false_iff_not]
          intro hh
          exact hok ((leads_iff h.srt.1 hm k).1 hh).2.2
        rw [e1]
        have hne : ((o.kind : Int) == (k : Int)) = false := by simp; omega
        clear e0 e1 hk
        go_enter Tryz.func118, Tryz.ntmps118
        go_wp2_with (first
          | (go_at_call 117; refine (ht _).mono ?_; rintro e w' ⟨rfl, rfl⟩)
          | (go_at_call 32; refine (hq _ (below1 _ _)).mono ?_; rintro e w' ⟨rfl, rfl⟩))
        go_ret
        exact ⟨rfl, below1 _ _⟩
  · have e0 : decide (3 ≤ k ∧ k ≤ 7) = false := by simp; omega
    rw [e0] at ht
    have e1 : decide (Leads M k n) = false := by
      simp only [decide_eq_false_iff_not]
      rintro ⟨h1, h2, _⟩
      exact hk ⟨h1, h2⟩
    rw [e1]
    clear e0 e1 hk
    go_enter Tryz.func118, Tryz.ntmps118
    go_wp2_with (first
      | (go_at_call 117; refine (ht _).mono ?_; rintro e w' ⟨rfl, rfl⟩))
    go_ret
    exact ⟨rfl, below1 _ _⟩

end Go.Proofs.YtampilfebmfhaaaGreatDoor
