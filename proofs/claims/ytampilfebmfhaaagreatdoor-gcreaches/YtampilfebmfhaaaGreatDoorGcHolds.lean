/- What an object holds: gc's held, items, pairs, holds, and what they hand back. -/
import Derived.Test.YtampilfebmfhaaaGreatDoorGcLeads
import Derived.Test.YtampilfebmfhaaaGreatDoorGcMarks2
import Derived.Test.YtampilfebmfhaaaGreatDoorStay
namespace Go.Proofs.YtampilfebmfhaaaGreatDoor
set_option linter.unusedVariables false
set_option linter.unusedSimpArgs false
open Go.RowKit Go.Shelf

attribute [local go_sem] Oper.semAt_some

variable {n₀ bh b lim used : Nat} {vw vb : Value} {w : World} {M : List Ob}

theorem infoVal : (Tryz.prog.info? 76).map (·.size) = some 2 := by kernel_rfl

/-- The kind, and the number, of a value held in two words. -/
def heldK (k : Nat) : Nat := if k ≤ 7 then k else 0

def heldN (k n : Nat) : Int := if k ≤ 7 then wrap64 (n : Int) else 0

theorem wrap_at {M : List Ob} (hu : ∀ o ∈ M, o.at_ < 1048576) {n : Nat} (hn : n < 18446744073709551616) (k : Nat) : Is M k (wrap64 (n : Int)) ↔ Is M k (n : Int) := by
  have ew : wrap64 (n : Int) = if n < 9223372036854775808 then (n : Int) else n - 18446744073709551616 := by
    simp only [wrap64]; split <;> omega
  unfold Is
  rw [ew]
  constructor
  · rintro ⟨o, ho, e, e2⟩
    have := hu o ho
    exact ⟨o, ho, by omega, e2⟩
  · rintro ⟨o, ho, e, e2⟩
    have := hu o ho
    exact ⟨o, ho, by omega, e2⟩

theorem held_leads {M : List Ob} (hu : ∀ o ∈ M, o.at_ < 1048576) {k n : Nat} (hn : n < 18446744073709551616) : Leads M (heldK k) (heldN k n) ↔ Leads M k n := by
  unfold heldK heldN
  split
  · unfold Leads
    rw [wrap_at hu hn]
  · constructor
    · rintro ⟨h, _⟩; omega
    · rintro ⟨_, h, _⟩; omega

theorem held_at {M : List Ob} (hu : ∀ o ∈ M, o.at_ < 1048576) {k n : Nat} (hn : n < 18446744073709551616) (h : Leads M k n) : heldN k n = n := by
  obtain ⟨_, h7, o, ho, e, _⟩ := h
  have := hu o ho
  unfold heldN
  rw [if_pos h7]
  simp only [wrap64]
  omega

set_option maxRecDepth 20000 in
set_option maxHeartbeats 1000000 in
theorem held_in {l r : List Ob} {o : Ob} (h : Hp n₀ bh b vw vb w lim used (l ++ o :: r)) (i k n : Nat) (hk : o.ws[i]? = some k) (hn : o.ws[i + 1]? = some n) :
    Calls Tryz.prog 195 #[.pointer (some ⟨bh, 0, none⟩), .int .i64 o.at_, .int .i64 i] w fun e w' => e = .returned (.agg #[.int .u8 (heldK k), .int .i64 (heldN k n)]) ∧ Below w.heap.size w w' := by
  have h1 := fun w' (hB : Below w.heap.size w w') => readM (h.below hB) i k hk
  have h2 := fun w' (hB : Below w.heap.size w w') => readM (h.below hB) (i + 1) n hn
  have hk64 := h.word_lt hk
  have hn64 := h.word_lt hn
  have hi : i + 1 < 1048577 := by
    have := h.srt.2 o (by simp); have := h.le; have := (List.getElem?_eq_some_iff.1 hn).1; unfold Ob.end_ at *; omega
  clear h hk hn
  rw [show ((i + 1 : Nat) : Int) = (i : Int) + 1 by simp] at h2
  by_cases h7 : k ≤ 7
  · have e1 : heldK k = k := by simp [heldK, h7]
    have e2 : heldN k n = wrap64 n := by simp [heldN, h7]
    rw [e1, e2]
    clear e1 e2
    have h7' : ¬ ((7 : Int) < (k : Int)) := by omega
    go_enter Tryz.func195, Tryz.ntmps195
    go_wp2_with (first
      | (go_at_call 34; refine (h1 _ (below1 _ _)).mono ?_; clear h1; rintro e w' ⟨rfl, rfl⟩)
      | (go_at_call 34; refine (h2 _ (below1 _ _)).mono ?_; clear h2; rintro e w' ⟨rfl, rfl⟩))
    refine bodyPost_ret (results_cell_row (by rfl) _ _ w.heap.size 76 _ _ _ (by rfl) (heap_alloc_new w _) Tryz.underlying76 (by rfl) infoVal) (by rfl) ?_
    exact ⟨rfl, below1 _ _⟩
  · have e1 : heldK k = 0 := by simp [heldK, h7]
    have e2 : heldN k n = 0 := by simp [heldN, h7]
    rw [e1, e2]
    clear e1 e2
    have h7' : ((7 : Int) < (k : Int)) := by omega
    go_enter Tryz.func195, Tryz.ntmps195
    go_wp2_with (first
      | (go_at_call 34; refine (h1 _ (below1 _ _)).mono ?_; clear h1; rintro e w' ⟨rfl, rfl⟩))
    refine bodyPost_ret (results_cell_row (by rfl) _ _ w.heap.size 76 _ _ _ (by rfl) (heap_alloc_new w _) Tryz.underlying76 (by rfl) infoVal) (by rfl) ?_
    exact ⟨rfl, below1 _ _⟩

end Go.Proofs.YtampilfebmfhaaaGreatDoor
