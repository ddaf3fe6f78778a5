/- Values in memory: a slice's cells. -/
import Derived.Test.YtkombdkhodjckaaGreatObMem
namespace Go.Proofs.YtkombdkhodjckaaGreat
set_option linter.unusedVariables false
set_option linter.unusedSimpArgs false
open Go.RowKit

variable {w : World}

/-- Values in memory: a slice's. -/
def Vals (w : World) (p : Option Addr) (vs : List Vl) : Prop :=
  ∀ j v, vs[j]? = some v → ∃ b0 off : Nat, p = some ⟨b0, off, none⟩ ∧ w.cell? ⟨b0, off + j * 2, none⟩ = some (.int .u8 v.k) ∧ w.cell? ⟨b0, off + j * 2 + 1, none⟩ = some (.int .i64 v.n)

theorem Vals.below {p : Option Addr} {vs : List Vl} (h : Vals w p vs) {w' : World} (hB : Below w.heap.size w w') : Vals w' p vs := by
  intro j v hj
  obtain ⟨b0, off, e, h1, h2⟩ := h j v hj
  have hlt := World.block_lt_of_cell? w _ h1
  exact ⟨b0, off, e, (hB.cell (p := ⟨b0, off + j * 2, none⟩) hlt).trans h1, (hB.cell (p := ⟨b0, off + j * 2 + 1, none⟩) hlt).trans h2⟩

def vcells : List Vl → List Value
  | [] => []
  | v :: r => .int .u8 v.k :: .int .i64 v.n :: vcells r

theorem vcells_len : ∀ (l : List Vl), (vcells l).length = l.length * 2
  | [] => rfl
  | v :: r => by simp [vcells, vcells_len r]; omega

theorem vcells_append : ∀ (l r : List Vl), vcells (l ++ r) = vcells l ++ vcells r
  | [], _ => rfl
  | v :: l, r => by simp [vcells, vcells_append l r]

theorem vcells_get : ∀ (l : List Vl) (j : Nat) (v : Vl), l[j]? = some v → (vcells l)[j * 2]? = some (.int .u8 v.k) ∧ (vcells l)[j * 2 + 1]? = some (.int .i64 v.n)
  | [], j, v, h => by simp at h
  | u :: r, 0, v, h => by simp at h; subst h; simp [vcells]
  | u :: r, j + 1, v, h => by
    have := vcells_get r j v (by simpa using h)
    rw [show (j + 1) * 2 = j * 2 + 2 by omega]
    simpa [vcells] using this

theorem infoV : (Tryz.prog.info? 29).map (fun i => (i.zero, i.size, i.bytes)) = some (some (.agg #[.int .u8 0, .int .i64 0]), 2, 16) := by kernel_rfl

theorem ownsRow_succ2 {w : World} {base e n : Nat} {v : Value} {xs : List Value} (h : w.ownsRow base e 2 v (n + 1) xs) : ∃ g c, v = .slice (some ⟨g, 0, none⟩) (n + 1) c := by
  rcases h.2 with ⟨_, h0⟩ | ⟨g, cap, cur, rfl, _⟩
  · omega
  · exact ⟨g, cap, rfl⟩

theorem ownsRow_cap2 {w : World} {base e n g c : Nat} {xs : List Value} (h : w.ownsRow base e 2 (.slice (some ⟨g, 0, none⟩) (n + 1) c) (n + 1) xs) : n + 1 ≤ c ∧ c ≤ maxLen := by
  rcases h.2 with ⟨h0, _⟩ | ⟨g', cap, cur, e, _, _, h1, h2, _⟩
  · simp at h0
  · simp at e; obtain ⟨rfl, rfl⟩ := e; exact ⟨h1, h2⟩

theorem vcells_one (l : List Vl) : ∀ u ∈ vcells l, u.oneCell' = true := by
  induction l with
  | nil => simp [vcells]
  | cons v r ih => simp [vcells, Value.oneCell']; exact ih

theorem vcells_set : ∀ (l r : List Vl) (v : Vl) (n : Int), (vcells (l ++ v :: r)).set (l.length * 2 + 1) (.int .i64 n) = vcells (l ++ ⟨v.k, n⟩ :: r)
  | [], r, v, n => by simp [vcells]
  | u :: l, r, v, n => by
    have := vcells_set l r v n
    simp only [List.cons_append, vcells, List.length_cons]
    rw [show (l.length + 1) * 2 + 1 = (l.length * 2 + 1) + 2 by omega]
    simp only [List.set_cons_succ, this]

/-- Values in a row of one's own. -/
def OwnVals (base : Nat) (v : Value) (vs : List Vl) (w : World) : Prop := w.ownsRow base 29 2 v vs.length (vcells vs)

theorem OwnVals.form {base : Nat} {v : Value} {vs : List Vl} (h : OwnVals base v vs w) : ∃ p c, v = .slice p vs.length c := by
  rcases h.2 with ⟨h1, h0⟩ | ⟨g, cap, cur, h1, _⟩
  · exact ⟨none, 0, by rw [h1, h0]⟩
  · exact ⟨_, _, h1⟩

theorem OwnVals.vals {base c : Nat} {p : Option Addr} {vs : List Vl} (h : OwnVals base (.slice p vs.length c) vs w) : Vals w p vs := by
  intro j v hj
  have hlt := (List.getElem?_eq_some_iff.1 hj).1
  obtain ⟨h1, h2⟩ := vcells_get vs j v hj
  rcases h.2 with ⟨h0, h0'⟩ | ⟨g, cap, cur, hg, _⟩
  · omega
  · injection hg with hp _ _
    subst hp
    refine ⟨g, 0, rfl, ?_, ?_⟩
    · rw [Nat.zero_add, h.cellAt _ (by omega)]; exact h1
    · rw [Nat.zero_add, h.cellAt _ (by omega)]; exact h2

end Go.Proofs.YtkombdkhodjckaaGreat
