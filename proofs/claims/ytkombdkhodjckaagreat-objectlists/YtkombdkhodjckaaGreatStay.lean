/- What a step of a heap leaves as it was. -/
import Derived.Test.YtkombdkhodjckaaGreatModel
namespace Go.Proofs.YtkombdkhodjckaaGreat
set_option linter.unusedVariables false
set_option linter.unusedSimpArgs false
open Go.RowKit

variable {n₀ bh b lim used : Nat} {vw vb : Value} {w : World} {M : List Ob}

/-- A block of another type is none of a heap's. -/
theorem Hp.other (h : Hp n₀ bh b vw vb w lim used M) {k : Nat} {o : Obj} (hk : w.heap[k]? = some o) (ho : ∀ cur t, o = .cells cur t (0, 0) → t ≠ 88 ∧ t ≠ 138 ∧ t ≠ 98 ∧ t ≠ 4) : ¬ (k = bh ∨ k = b ∨ vw.ownBlock = some k ∨ vb.ownBlock = some k) := by
  intro e
  obtain ⟨_, _, cur, t, hc, ht⟩ := h.blocks k e
  rw [hk] at hc
  cases hc
  have := ho cur t rfl
  rcases ht with e | e | e | e
  · exact this.1 e
  · exact this.2.1 e
  · exact this.2.2.1 e
  · exact this.2.2.2 e

theorem Hp.stays (h : Hp n₀ bh b vw vb w lim used M) {vw' vb' : Value} {w' : World} (hS : Step b vw vb w vw' vb' w') {k : Nat} {o : Obj} (hk : w.heap[k]? = some o) (ho : ∀ cur t, o = .cells cur t (0, 0) → t ≠ 88 ∧ t ≠ 138 ∧ t ≠ 98 ∧ t ≠ 4) : w'.heap[k]? = w.heap[k]? := by
  have := h.other hk ho
  refine hS.block k (Array.getElem?_eq_some_iff.1 hk).1 (fun e => this (.inr (.inl e))) (fun e => this (.inr (.inr (.inl e.symm)))) (fun e => this (.inr (.inr (.inr e.symm))))

theorem row_obj {w : World} {base e s n : Nat} {v : Value} {xs : List Value} (h : w.ownsRow base e s v n xs) {k : Nat} (hk : v.ownBlock = some k) : ∃ cur, w.heap[k]? = some (.cells cur e (0, 0)) := by
  rcases h.2 with ⟨rfl, rfl⟩ | ⟨g, cap, cur, rfl, _, hg, _⟩
  · simp [Value.ownBlock] at hk
  · simp [Value.ownBlock] at hk; subst hk; exact ⟨cur, hg⟩

theorem row_kept {w w' : World} {base e s n : Nat} {v : Value} {xs : List Value} (hr : w.ownsRow base e s v n xs) (hk : ∀ k, v.ownBlock = some k → w'.heap[k]? = w.heap[k]?) : w'.ownsRow base e s v n xs := by
  refine ⟨hr.1, ?_⟩
  rcases hr.2 with hn | ⟨g, cap, cur, rfl, hb, hgg, rest⟩
  · exact .inl hn
  · exact .inr ⟨g, cap, cur, rfl, hb, by rw [hk g rfl]; exact hgg, rest⟩

theorem Hp.row (h : Hp n₀ bh b vw vb w lim used M) {vw' vb' : Value} {w' : World} (hS : Step b vw vb w vw' vb' w') {base e s n : Nat} {v : Value} {xs : List Value} (hr : w.ownsRow base e s v n xs) (he : e ≠ 88 ∧ e ≠ 138 ∧ e ≠ 98 ∧ e ≠ 4) : w'.ownsRow base e s v n xs :=
  row_kept hr (fun k hk => by
    obtain ⟨cur, hc⟩ := row_obj hr hk
    exact h.stays hS hc (fun cur t e => by cases e; exact he))

theorem Step.belowL {w1 w' : World} {vw' vb' : Value} (h : Below w.heap.size w w1) (hS : Step b vw vb w1 vw' vb' w') (h1 : ∀ k, vw.ownBlock = some k → k < w.heap.size) : Step b vw vb w vw' vb' w' := by
  refine ⟨hS.os.trans h.os, hS.tape.trans h.tape, hS.output.trans h.output, Nat.le_trans h.size hS.size, ?_, ?_, ?_⟩
  · intro k hk hb hw hv
    exact (hS.block k (Nat.lt_of_lt_of_le hk h.size) hb hw hv).trans (h.block k hk)
  · intro k e
    rcases hS.fw k e with e | e
    · exact .inl e
    · exact .inr (Nat.le_trans h.size e)
  · intro k e
    rcases hS.fb k e with e | e
    · exact .inl e
    · exact .inr (Nat.le_trans h.size e)

theorem row_mono2 {w : World} {base base' e s n : Nat} {v : Value} {xs : List Value} (h : w.ownsRow base e s v n xs) (hb : base' ≤ base) : w.ownsRow base' e s v n xs := by
  refine ⟨h.1, ?_⟩
  rcases h.2 with hn | ⟨g, cap, cur, rfl, hb', rest⟩
  · exact .inl hn
  · exact .inr ⟨g, cap, cur, rfl, by omega, rest⟩

theorem Step.belowR {w1 w' : World} {vw' vb' : Value} (hS : Step b vw vb w vw' vb' w1) (h : Below w1.heap.size w1 w') : Step b vw vb w vw' vb' w' :=
  ⟨h.os.trans hS.os, h.tape.trans hS.tape, h.output.trans hS.output, Nat.le_trans hS.size h.size, fun k hk h1 h2 h3 => (h.block k (Nat.lt_of_lt_of_le hk hS.size)).trans (hS.block k hk h1 h2 h3), hS.fw, hS.fb⟩

theorem Hp.word_lt {l r : List Ob} {o : Ob} (h : Hp n₀ bh b vw vb w lim used (l ++ o :: r)) {i x : Nat} (hx : o.ws[i]? = some x) : x < 18446744073709551616 := by
  obtain ⟨A, h1, h2, rfl, rfl⟩ := h
  have hi : i < o.ws.length := (List.getElem?_eq_some_iff.1 hx).1
  have hc := h2.chn
  rw [Chain_append] at hc
  have := hc.2.2.1 i hi
  rw [hx] at this
  exact h1.ar.val x (List.mem_of_getElem? this)

theorem Hp.getD_lt {l r : List Ob} {o : Ob} (h : Hp n₀ bh b vw vb w lim used (l ++ o :: r)) (i : Nat) : o.ws.getD i 0 < 18446744073709551616 := by
  cases hi : o.ws[i]? with
  | none => simp [List.getD, hi]
  | some x => simpa [List.getD, hi] using h.word_lt hi

end Go.Proofs.YtkombdkhodjckaaGreat
