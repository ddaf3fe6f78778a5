/- The document's reached and Words. -/
import Derived.Test.YtgokofomoachaaaShRefMath
namespace Go.Proofs.Ytgokofomoachaaa
set_option linter.unusedVariables false
set_option linter.unusedSimpArgs false
open Go.RowKit

variable {w : World}

def vcells : List Vl → List Value
  | [] => []
  | v :: r => .int .u8 v.k :: .int .i64 v.n :: vcells r

theorem vcells_len : ∀ (l : List Vl), (vcells l).length = l.length * 2
  | [] => rfl
  | v :: r => by simp [vcells, vcells_len r]; omega

theorem vcells_append : ∀ (l r : List Vl), vcells (l ++ r) = vcells l ++ vcells r
  | [], _ => rfl
  | v :: l, r => by simp [vcells, vcells_append l r]

theorem vcells_get : ∀ (l : List Vl) (j : Nat) (v : Vl), l[j]? = some v → (vcells l)[j * 2]? = some (.int .u8 v.k) ∧ (vcells l)[j * 2 + 1]? = some (.int .i64 v.n)
  | [], j, v, h => by simp at h
  | u :: r, 0, v, h => by simp at h; subst h; simp [vcells]
  | u :: r, j + 1, v, h => by
    have := vcells_get r j v (by simpa using h)
    rw [show (j + 1) * 2 = j * 2 + 2 by omega]
    simpa [vcells] using this

theorem vcells_one (l : List Vl) : ∀ u ∈ vcells l, u.oneCell' = true := by
  induction l with
  | nil => simp [vcells]
  | cons v r ih => simp [vcells, Value.oneCell']; exact ih

theorem vcells_at : ∀ (l : List Vl) (j : Nat) (u : Value), (vcells l)[j]? = some u → ∃ i v, l[i]? = some v ∧ ((j = i * 2 ∧ u = .int .u8 v.k) ∨ (j = i * 2 + 1 ∧ u = .int .i64 v.n))
  | [], j, u, h => by simp [vcells] at h
  | v :: r, 0, u, h => by simp [vcells] at h; exact ⟨0, v, by simp, .inl ⟨rfl, h.symm⟩⟩
  | v :: r, 1, u, h => by simp [vcells] at h; exact ⟨0, v, by simp, .inr ⟨rfl, h.symm⟩⟩
  | v :: r, j + 2, u, h => by
    obtain ⟨i, x, h1, h2⟩ := vcells_at r j u (by simpa [vcells] using h)
    refine ⟨i + 1, x, by simpa using h1, ?_⟩
    rcases h2 with ⟨q, e⟩ | ⟨q, e⟩
    · exact .inl ⟨by omega, e⟩
    · exact .inr ⟨by omega, e⟩

theorem infoV : (Try.prog.info? 26).map (fun i => (i.zero, i.size, i.bytes)) = some (some (.agg #[.int .u8 0, .int .i64 0]), 2, 16) := by kernel_rfl

theorem infoB : (Try.prog.info? 4).map (fun i => (i.zero, i.size, i.bytes)) = some (some (.bool false), 1, 1) := by kernel_rfl

/-- Marks in memory. -/
def IsIn (w : World) (bi : Nat) (In : List Bool) : Prop := w.heap[bi]? = some (.cells (In.map Value.bool).toArray 4 (0, 0))

theorem made_in (n : Nat) (W : World) : IsIn (W.alloc (.cells (madeCells #[.bool false] n) 4)) W.heap.size (List.replicate n false) := by
  unfold IsIn
  rw [heap_alloc_new]
  have : madeCells #[Value.bool false] n = ((List.replicate n false).map Value.bool).toArray := by
    apply Array.ext'
    apply List.ext_getElem?
    intro j
    by_cases hj : j < n
    · simp [madeCells, hj, Nat.mod_one]
    · simp [madeCells, hj]
  rw [this]

theorem IsIn.kept {bi : Nat} {In : List Bool} (h : IsIn w bi In) {w' : World} (hk : w'.heap[bi]? = w.heap[bi]?) : IsIn w' bi In := hk.trans h

theorem IsIn.cell {bi : Nat} {In : List Bool} (h : IsIn w bi In) {i : Nat} {b : Bool} (hb : In[i]? = some b) : w.cell? ⟨bi, i, none⟩ = some (.bool b) ∧ w.frozen? ⟨bi, i, none⟩ = false := by
  refine ⟨?_, frozen_of_row w bi i _ _ h⟩
  rw [cell_of_row w bi i _ _ _ h]
  simp [hb]

theorem IsIn.set {bi : Nat} {In : List Bool} (h : IsIn w bi In) {i : Nat} (b : Bool) : IsIn (w.setCell ⟨bi, i, none⟩ (.bool b)) bi (In.set i b) := by
  unfold IsIn
  have := heap_setCell_same w bi i _ _ (.bool b) h
  rw [this]
  simp

/-- A row of values, with its cells. -/
theorem row_vals {base g c n : Nat} {vs : List Vl} (h : w.ownsRow base 26 2 (.slice (some ⟨g, 0, none⟩) n c) n (vcells vs)) (hn : vs.length = n) {j : Nat} {v : Vl} (hj : vs[j]? = some v) : w.cell? ⟨g, j * 2, none⟩ = some (.int .u8 v.k) ∧ w.cell? ⟨g, j * 2 + 1, none⟩ = some (.int .i64 v.n) := by
  have hlt := (List.getElem?_eq_some_iff.1 hj).1
  obtain ⟨h1, h2⟩ := vcells_get vs j v hj
  exact ⟨by rw [h.cellAt _ (by omega)]; exact h1, by rw [h.cellAt _ (by omega)]; exact h2⟩

theorem row_lessV {base g c n : Nat} {a b : List Vl} (h : w.ownsRow base 26 2 (.slice (some ⟨g, 0, none⟩) (n + 1) c) (n + 1) (vcells (a ++ b))) (hx : a.length = n) : w.ownsRow base 26 2 (.slice (some ⟨g, 0, none⟩) n c) n (vcells a) := by
  refine ⟨by rw [vcells_len, hx], ?_⟩
  rcases h.2 with ⟨h1, _⟩ | ⟨g', cap, cur, h1, hb, hg, hnc, hcm, hcs, htake⟩
  · simp at h1
  · simp only [Value.slice.injEq, Option.some.injEq, Addr.mk.injEq, and_true, true_and] at h1
    obtain ⟨rfl, rfl⟩ := h1
    refine .inr ⟨_, _, cur, rfl, hb, hg, by omega, hcm, hcs, ?_⟩
    rw [vcells_append] at htake
    have e2 : (vcells a ++ vcells b).take (n * 2) = vcells a := by rw [← hx, ← vcells_len]; simp
    have e := congrArg (List.take (n * 2)) htake
    rw [e2] at e
    rw [← e, List.take_take]
    congr 1
    omega

/-- Values are put behind a row of one's own. -/
theorem wpList_append_vals {ops : Array Oper} {rest : List Oper} {o : Oper} {a : Act} {Q : Exit → Act → World → Prop} (hgd : o.guard = none) (s x : Operand)
    (ho : o.op = .call { callee := .builtin .append, args := #[s, x], argTypes := #[37, 37] })
    (base : Nat) (v : Value) (n : Nat) (xs : List Value) (hs : a.eval s = v) (hown : w.ownsRow base 26 2 v n xs) (l : List Vl) (q : Option Addr) (cq : Nat) (hx : a.eval x = .slice q l.length cq) (hv : Vals w q l) (hq : q = none → cq = 0)
    (h63 : n + l.length ≤ maxLen) (hbytes : (n + l.length) * 16 ≤ 140737488355328) (hbase : base ≤ w.heap.size)
    (h : ∀ v' w', w'.ownsRow base 26 2 v' (n + l.length) (xs ++ vcells l) → w.grownBy w' v.ownBlock → wpList Try.prog ops Q rest (a.put o.dst v') w') : wpList Try.prog ops Q (o :: rest) a w := by
  obtain ⟨i0, hi, hz0, hz1, hz2⟩ := info_parts infoV
  cases q with
  | none =>
    have hl : l = [] := by
      cases l with
      | nil => rfl
      | cons u r =>
        obtain ⟨b0, off, e, _⟩ := hv 0 u (by simp)
        cases e
    subst hl
    have hc := hq rfl
    subst hc
    refine wpList_append_own_none hgd s x 37 ho base 26 i0 2 Try.underlying37 hi v n xs hs hown hx ?_
    have := h v w (by simpa [vcells] using hown) ⟨rfl, rfl, rfl, Nat.le_refl _, fun _ _ _ => rfl⟩
    exact this
  | some ad =>
    refine wpList_append_own w hgd s x 37 ho base 26 i0 (.agg #[.int .u8 0, .int .i64 0]) 2 16 Try.underlying37 hi hz0 hz1 hz2 rfl (by decide) v n xs hs hown ad l.length cq (vcells l) hx (vcells_len l) ?_ (vcells_one l) h63 hbytes hbase (fun v' w' h1 h2 _ => h v' w' h1 h2)
    intro j u hj
    obtain ⟨i, y, hy, hu⟩ := vcells_at l j u hj
    obtain ⟨b0, off, e, h1, h2⟩ := hv i y hy
    cases e
    rcases hu with ⟨rfl, rfl⟩ | ⟨rfl, rfl⟩
    · rw [Addr.add_lit]; exact h1
    · rw [Addr.add_lit, ← Nat.add_assoc]; exact h2

/-- What stands before a round. -/
def RoundR (w0 : World) (bi : Nat) (S : List Om) (roots : List Vl) (vt : Value) (m : Nat) (w : World) : Prop :=
  ∃ (In : List Bool) (todo : List Vl), IsIn w bi In ∧ w.ownsRow (w0.heap.size + 1) 26 2 vt todo.length (vcells todo) ∧ WayR S roots In todo ∧ Below w0.heap.size w0 w ∧ m = todo.length + leftB In S ∧ m ≤ 100000 + 100000 * S.length

theorem snocV (l : List Vl) (h : l ≠ []) : ∃ a x, l = a ++ [x] := ⟨l.dropLast, l.getLast h, (List.dropLast_concat_getLast h).symm⟩

end Go.Proofs.Ytgokofomoachaaa
