/- LexJoins: the walk. -/
import Derived.Test.YtpbempnenjfjdaaDoorLxJoinMath
import Derived.Laws.AppendOwnNone
namespace Go.Proofs.YtpbempnenjfjdaaDoor
set_option linter.unusedVariables false
set_option linter.unusedSimpArgs false
open Go.RowKit

variable {w : World}

theorem wcells_at (l : List Wd) (j : Nat) (u : Value) (h : (wcells l)[j]? = some u) : ∃ i y, l[i]? = some y ∧ ((j = i * 4 ∧ u = .int .u8 y.k) ∨ (j = i * 4 + 1 ∧ u = .string (bs y.s)) ∨ (j = i * 4 + 2 ∧ u = .int .i64 y.n) ∨ (j = i * 4 + 3 ∧ u = .int .i64 y.line)) := by
  have hj := (List.getElem?_eq_some_iff.1 h).1
  rw [wcells_len] at hj
  have hi : j / 4 < l.length := by omega
  obtain ⟨y, hy⟩ : ∃ y, l[j / 4]? = some y := ⟨l[j / 4], by simp⟩
  obtain ⟨a0, a1, a2, a3⟩ := wcells_get hy
  refine ⟨j / 4, y, hy, ?_⟩
  have : j % 4 = 0 ∨ j % 4 = 1 ∨ j % 4 = 2 ∨ j % 4 = 3 := by omega
  rcases this with e | e | e | e
  · have e2 : j = j / 4 * 4 := by omega
    rw [← e2, h] at a0; cases a0; exact .inl ⟨e2, rfl⟩
  · have e2 : j = j / 4 * 4 + 1 := by omega
    rw [← e2, h] at a1; cases a1; exact .inr (.inl ⟨e2, rfl⟩)
  · have e2 : j = j / 4 * 4 + 2 := by omega
    rw [← e2, h] at a2; cases a2; exact .inr (.inr (.inl ⟨e2, rfl⟩))
  · have e2 : j = j / 4 * 4 + 3 := by omega
    rw [← e2, h] at a3; cases a3; exact .inr (.inr (.inr ⟨e2, rfl⟩))

theorem wcells_one (l : List Wd) : ∀ u ∈ wcells l, u.oneCell' = true := by
  intro u hu
  obtain ⟨j, hj⟩ := List.getElem?_of_mem hu
  obtain ⟨i, y, -, h⟩ := wcells_at l j u hj
  rcases h with ⟨-, rfl⟩ | ⟨-, rfl⟩ | ⟨-, rfl⟩ | ⟨-, rfl⟩ <;> rfl

/-- Words are put behind a row of one's own. -/
theorem wpList_append_words {ops : Array Oper} {rest : List Oper} {o : Oper} {a : Act} {Q : Exit → Act → World → Prop} (hgd : o.guard = none) (s x : Operand)
    (ho : o.op = .call { callee := .builtin .append, args := #[s, x], argTypes := #[22, 22] })
    (base : Nat) (v : Value) (n : Nat) (xs : List Value) (hs : a.eval s = v) (hown : w.ownsRow base 30 4 v n xs) (l : List Wd) (q : Option Addr) (cq : Nat) (hx : a.eval x = .slice q l.length cq) (hv : IsWs w q l) (hq : q = none → cq = 0)
    (h63 : n + l.length ≤ maxLen) (hbytes : (n + l.length) * 40 ≤ 140737488355328) (hbase : base ≤ w.heap.size)
    (h : ∀ v' w', w'.ownsRow base 30 4 v' (n + l.length) (xs ++ wcells l) → w.grownBy w' v.ownBlock → wpList Tryd.prog ops Q rest (a.put o.dst v') w') : wpList Tryd.prog ops Q (o :: rest) a w := by
  obtain ⟨i0, hi, hz0, hz1, hz2⟩ := infoB_parts infoW4
  cases q with
  | none =>
    have hl : l = [] := by
      cases l with
      | nil => rfl
      | cons u r =>
        obtain ⟨b0, off, e, _⟩ := hv 0 u (by simp)
        cases e
    subst hl
    have hc := hq rfl
    subst hc
    refine wpList_append_own_none hgd s x 22 ho base 30 i0 4 Tryd.underlying22 hi v n xs hs hown hx ?_
    have := h v w (by simpa [wcells] using hown) ⟨rfl, rfl, rfl, Nat.le_refl _, fun _ _ _ => rfl⟩
    exact this
  | some ad =>
    have hlen : (wcells l).length = l.length * 4 := by rw [wcells_len]; omega
    refine wpList_append_own w hgd s x 22 ho base 30 i0 (.agg #[.int .u8 0, .string ⟨#[]⟩, .int .i64 0, .int .i64 0]) 4 40 Tryd.underlying22 hi hz0 hz1 hz2 rfl (by decide) v n xs hs hown ad l.length cq (wcells l) hx hlen ?_ (wcells_one l) h63 hbytes hbase (fun v' w' h1 h2 _ => h v' w' h1 h2)
    intro j u hj
    obtain ⟨i, y, hy, hu⟩ := wcells_at l j u hj
    obtain ⟨b0, off, e, h1, h2, h3, h4⟩ := hv i y hy
    cases e
    rcases hu with ⟨rfl, rfl⟩ | ⟨rfl, rfl⟩ | ⟨rfl, rfl⟩ | ⟨rfl, rfl⟩
    · rw [Addr.add_mid]; exact h1
    · rw [Addr.add_mid, ← Nat.add_assoc]; exact h2
    · rw [Addr.add_mid, ← Nat.add_assoc]; exact h3
    · rw [Addr.add_mid, ← Nat.add_assoc]; exact h4

/-- What is answered of a text, whatever it is. -/
theorem words_any {l : List UInt8} (hl : l.length ≤ 65536) (h : Lx w) : Calls Tryd.prog 6 #[.string (bs l)] w fun e w' => ∃ rs, Lex l 0 rs ∧ Below w.heap.size w w' ∧ WsRes w.heap.size rs e w' :=
  words_in l hl h.errs h.sgn h.size

/-- A row of one's own, one of its lines turned. -/
theorem row_line {base g c j : Nat} {ms : List Wd} {x : Wd} {n : Nat} (h : w.ownsRow base 30 4 (.slice (some ⟨g, 0, none⟩) ms.length c) ms.length (wcells ms)) (hx : ms[j]? = some x) :
    (w.setCell ⟨g, j * 4 + 3, none⟩ (.int .i64 n)).ownsRow base 30 4 (.slice (some ⟨g, 0, none⟩) ms.length c) ms.length (wcells (ms.set j { x with line := n })) := by
  have hjl := (List.getElem?_eq_some_iff.1 hx).1
  rcases h.2 with ⟨h1, _⟩ | ⟨g', cap, cur, h1, hb, hg, hnc, hcm, hcs, htake⟩
  · cases h1
  · simp only [Value.slice.injEq, Option.some.injEq, Addr.mk.injEq, and_true, true_and] at h1
    obtain ⟨rfl, rfl⟩ := h1
    refine ⟨by rw [wcells_len]; simp; omega, .inr ⟨g, c, cur.setIfInBounds (j * 4 + 3) (.int .i64 n), rfl, hb, heap_setCell_same w g (j * 4 + 3) cur _ (.int .i64 n) hg, hnc, hcm, by simpa using hcs, ?_⟩⟩
    have e : wcells (ms.set j { x with line := n }) = (wcells ms).set (j * 4 + 3) (.int .i64 n) := by
      apply List.ext_getElem?
      intro i
      by_cases hi : i < 4 * ms.length
      · have hil : i / 4 < ms.length := by omega
        by_cases hij : i / 4 = j
        · have hget : (ms.set j { x with line := n })[i / 4]? = some { x with line := n } := by rw [hij]; simp [hjl]
          obtain ⟨a0, a1, a2, a3⟩ := wcells_get hget
          obtain ⟨b0, b1, b2, b3⟩ := wcells_get hx
          rw [hij] at a0 a1 a2 a3
          have : i % 4 = 0 ∨ i % 4 = 1 ∨ i % 4 = 2 ∨ i % 4 = 3 := by omega
          rcases this with h | h | h | h
          · have : i = j * 4 := by omega
            rw [this, a0, List.getElem?_set_ne (by omega), b0]
          · have : i = j * 4 + 1 := by omega
            rw [this, a1, List.getElem?_set_ne (by omega), b1]
          · have : i = j * 4 + 2 := by omega
            rw [this, a2, List.getElem?_set_ne (by omega), b2]
          · have : i = j * 4 + 3 := by omega
            rw [this, a3, List.getElem?_set_self (by rw [wcells_len]; omega)]
        · obtain ⟨y, hy⟩ : ∃ y, ms[i / 4]? = some y := ⟨ms[i / 4], by simp⟩
          have hget : (ms.set j { x with line := n })[i / 4]? = some y := by rw [List.getElem?_set_ne (Ne.symm hij)]; exact hy
          obtain ⟨a0, a1, a2, a3⟩ := wcells_get hget
          obtain ⟨b0, b1, b2, b3⟩ := wcells_get hy
          rw [List.getElem?_set_ne (by omega)]
          have : i % 4 = 0 ∨ i % 4 = 1 ∨ i % 4 = 2 ∨ i % 4 = 3 := by omega
          rcases this with h | h | h | h
          · have e : i = i / 4 * 4 := by omega
            rw [e, a0, b0]
          · have e : i = i / 4 * 4 + 1 := by omega
            rw [e, a1, b1]
          · have e : i = i / 4 * 4 + 2 := by omega
            rw [e, a2, b2]
          · have e : i = i / 4 * 4 + 3 := by omega
            rw [e, a3, b3]
      · rw [List.getElem?_eq_none (by rw [wcells_len]; simp; omega), List.getElem?_eq_none (by simp [wcells_len]; omega)]
    rw [e, ← htake, Array.toList_setIfInBounds, List.take_set]

end Go.Proofs.YtpbempnenjfjdaaDoor
