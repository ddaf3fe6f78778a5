/- Words held against one another; some answers that the document fixes. -/
import Derived.Test.YtpbempnenjfjdaaGreatDoorLxWords
namespace Go.Proofs.YtpbempnenjfjdaaGreatDoor
set_option linter.unusedVariables false
set_option linter.unusedSimpArgs false
open Go.RowKit

variable {w : World}

/-- Words in memory: a slice's. -/
def IsWs (w : World) (p : Option Addr) (ws : List Wd) : Prop :=
  ∀ j x, ws[j]? = some x → ∃ b0 off : Nat, p = some ⟨b0, off, none⟩ ∧ w.cell? ⟨b0, off + j * 4, none⟩ = some (.int .u8 x.k) ∧ w.cell? ⟨b0, off + j * 4 + 1, none⟩ = some (.string (bs x.s)) ∧ w.cell? ⟨b0, off + j * 4 + 2, none⟩ = some (.int .i64 x.n) ∧ w.cell? ⟨b0, off + j * 4 + 3, none⟩ = some (.int .i64 x.line)

theorem IsWs.below {p : Option Addr} {ws : List Wd} (h : IsWs w p ws) {w' : World} (hB : Below w.heap.size w w') : IsWs w' p ws := by
  intro j x hj
  obtain ⟨b0, off, e, h1, h2, h3, h4⟩ := h j x hj
  have hlt := World.block_lt_of_cell? w _ h1
  exact ⟨b0, off, e, (hB.cell (p := ⟨b0, off + j * 4, none⟩) hlt).trans h1, (hB.cell (p := ⟨b0, off + j * 4 + 1, none⟩) hlt).trans h2, (hB.cell (p := ⟨b0, off + j * 4 + 2, none⟩) hlt).trans h3, (hB.cell (p := ⟨b0, off + j * 4 + 3, none⟩) hlt).trans h4⟩

theorem wcells_len (l : List Wd) : (wcells l).length = 4 * l.length := by
  induction l with
  | nil => rfl
  | cons a r ih => simp only [wcells, List.flatMap_cons, List.length_append, List.length_cons] at ih ⊢; rw [ih]; simp [wcell]; omega

theorem wcells_get {l : List Wd} {j : Nat} {x : Wd} (h : l[j]? = some x) : (wcells l)[j * 4]? = some (.int .u8 x.k) ∧ (wcells l)[j * 4 + 1]? = some (.string (bs x.s)) ∧ (wcells l)[j * 4 + 2]? = some (.int .i64 x.n) ∧ (wcells l)[j * 4 + 3]? = some (.int .i64 x.line) := by
  induction l generalizing j with
  | nil => simp at h
  | cons a r ih =>
    cases j with
    | zero => simp at h; subst h; simp [wcells, wcell]
    | succ j =>
      have := ih (j := j) (by simpa using h)
      have e : ∀ i, (wcells (a :: r))[(j + 1) * 4 + i]? = (wcells r)[j * 4 + i]? := fun i => by
        have e1 : wcells (a :: r) = wcell a ++ wcells r := by simp [wcells]
        rw [e1, List.getElem?_append_right (by simp [wcell]; omega)]
        congr 1
        simp [wcell]; omega
      exact ⟨(e 0).trans this.1, (e 1).trans this.2.1, (e 2).trans this.2.2.1, (e 3).trans this.2.2.2⟩

/-- A row of words of one's own is words in memory. -/
theorem ws_of_row {base : Nat} {v : Value} {ws : List Wd} (h : w.ownsRow base 56 4 v ws.length (wcells ws)) : ∃ p c, v = .slice p ws.length c ∧ IsWs w p ws := by
  rcases h.2 with ⟨hv, h0⟩ | ⟨g, cap, cur, rfl, _⟩
  · have : ws = [] := List.eq_nil_of_length_eq_zero h0
    subst this
    exact ⟨none, 0, hv, fun j v hj => by simp at hj⟩
  · refine ⟨_, cap, rfl, fun j x hj => ?_⟩
    have hjl := (List.getElem?_eq_some_iff.1 hj).1
    obtain ⟨a0, a1, a2, a3⟩ := wcells_get hj
    have hc := h.cells (g := g) rfl
    refine ⟨g, 0, rfl, ?_, ?_, ?_, ?_⟩
    · have := hc _ _ a0; rwa [Addr.add_mid] at this
    · have := hc _ _ a1; rwa [Addr.add_mid] at this
    · have := hc _ _ a2; rwa [Addr.add_mid] at this
    · have := hc _ _ a3; rwa [Addr.add_mid] at this

/-- A block of words. -/
theorem ws_of_block {g : Nat} {ws : List Wd} (h : w.heap[g]? = some (.cells (wcells ws).toArray 56 (0, 0))) : IsWs w (some ⟨g, 0, none⟩) ws := fun j x hj => by
  obtain ⟨a0, a1, a2, a3⟩ := wcells_get hj
  refine ⟨g, 0, rfl, ?_, ?_, ?_, ?_⟩
  · rw [Nat.zero_add, cell_of_row w g _ _ _ _ h]; simpa using a0
  · rw [Nat.zero_add, cell_of_row w g _ _ _ _ h]; simpa using a1
  · rw [Nat.zero_add, cell_of_row w g _ _ _ _ h]; simpa using a2
  · rw [Nat.zero_add, cell_of_row w g _ _ _ _ h]; simpa using a3

set_option maxRecDepth 20000 in
set_option maxHeartbeats 1000000 in
/-- Words that are the same. -/
theorem sameWords_in {p q : Option Addr} {ws : List Wd} (c cq : Nat) (hl : ws.length ≤ 1048576) (hp : IsWs w p ws) (hq : IsWs w q ws) :
    Calls Tryz.prog 6 #[.slice p ws.length c, .slice q ws.length cq] w fun e w' => e = .returned (.bool true) ∧ Below w.heap.size w w' := by
  go_enter Tryz.func6, Tryz.ntmps6
  go_wp2
  go_loopw [5] (fun k wr => ∃ j : Nat, k = .int .i64 j ∧ j ≤ ws.length ∧ Below w.heap.size w wr) (fun k _ => ws.length - (intOf k).toNat)
  case atStart => exact ⟨0, rfl, by omega, Below.refl _ _⟩
  case round =>
    obtain ⟨j, rfl, hj, hB⟩ := hrel
    by_cases hjl : j < ws.length
    · have hjl' : (j : Int) < (ws.length : Int) := by omega
      obtain ⟨x, hx⟩ : ∃ x, ws[j]? = some x := ⟨ws[j], by simp⟩
      obtain ⟨b0, off, rfl, h1, h2, h3, h4⟩ := (hp.below hB) j x hx
      obtain ⟨b1, off1, rfl, g1, g2, g3, g4⟩ := (hq.below hB) j x hx
      go_wp2
      go_region
      all_goals
        go_wp2
        go_roundw
        case rel => exact ⟨j + 1, by simp, by omega, below_drew hB⟩
        case measure => simp [intOf]; omega
    · have hjl' : ¬ ((j : Int) < (ws.length : Int)) := by omega
      go_wp2
      go_ret
      exact ⟨rfl, hB⟩

/-- What one asks of memory at a call's start. -/
structure Lx (w : World) : Prop where
  errs : Errs w
  sgn : Sgn w
  size : 7 ≤ w.heap.size

theorem Lx.below (h : Lx w) {w' : World} (hB : Below w.heap.size w w') : Lx w' := ⟨h.errs.below hB h.size, h.sgn.below hB h.size, Nat.le_trans h.size hB.size⟩

/-- A text that comes to words. -/
theorem words_ok {l : List UInt8} {ws : List Wd} (hl : l.length ≤ 65536) (hx : Lex l 0 (.ok ws)) (h : Lx w) :
    Calls Tryz.prog 4 #[.string (bs l)] w fun e w' => ∃ p c, e = .returned (.tuple #[.slice p ws.length c, .int .i64 0, .int .i64 0]) ∧ IsWs w' p ws ∧ w'.ownsRow w.heap.size 56 4 (.slice p ws.length c) ws.length (wcells ws) ∧ Below w.heap.size w w' := by
  refine (words_in l hl h.errs h.sgn h.size).mono ?_
  rintro e w' ⟨rs, hx2, hB, hr⟩
  obtain rfl := hx.same hx2
  obtain ⟨v, rfl, hrow⟩ := hr
  obtain ⟨p, c, rfl, hw⟩ := ws_of_row hrow
  exact ⟨p, c, rfl, hw, hrow, hB⟩

/-- One that does not. -/
theorem words_bad {l : List UInt8} {n : Nat} (hl : l.length ≤ 65536) (hx : Lex l 0 (.bad n)) (h : Lx w) :
    Calls Tryz.prog 4 #[.string (bs l)] w fun e w' => e = .returned (.tuple #[.slice none 0 0, .int .i64 n, .int .i64 4]) ∧ Below w.heap.size w w' := by
  refine (words_in l hl h.errs h.sgn h.size).mono ?_
  rintro e w' ⟨rs, hx2, hB, hr⟩
  obtain rfl := hx.same hx2
  exact ⟨hr, hB⟩

def aliveT : List UInt8 := [97, 60, 61, 45, 53, 59, 47, 47, 32, 115, 111, 10, 34, 120, 92, 34, 34]

def aliveW : List Wd := [⟨1, [97], 0, 0⟩, ⟨4, [60, 61], 0, 0⟩, ⟨4, [45], 0, 0⟩, ⟨2, [], 5, 0⟩, ⟨4, [59], 0, 0⟩, ⟨3, [120, 34], 0, 1⟩]

theorem alive_lex : Lex aliveT 0 (.ok aliveW) := by
  have e : Rs.ok aliveW = (((((((Rs.ok []).cons ⟨3, [120, 34], 0, 1⟩).cons ⟨4, [59], 0, 0⟩).cons ⟨2, [], 5, 0⟩).cons ⟨4, [45], 0, 0⟩).cons ⟨4, [60, 61], 0, 0⟩).cons ⟨1, [97], 0, 0⟩) := rfl
  rw [e]
  refine .more (n := 0) (w := ⟨1, [97], 0, 0⟩) (z := [60, 61, 45, 53, 59, 47, 47, 32, 115, 111, 10, 34, 120, 92, 34, 34]) rfl rfl ?_
  refine .more (n := 0) (w := ⟨4, [60, 61], 0, 0⟩) (z := [45, 53, 59, 47, 47, 32, 115, 111, 10, 34, 120, 92, 34, 34]) rfl rfl ?_
  refine .more (n := 0) (w := ⟨4, [45], 0, 0⟩) (z := [53, 59, 47, 47, 32, 115, 111, 10, 34, 120, 92, 34, 34]) rfl rfl ?_
  refine .more (n := 0) (w := ⟨2, [], 5, 0⟩) (z := [59, 47, 47, 32, 115, 111, 10, 34, 120, 92, 34, 34]) rfl rfl ?_
  refine .more (n := 0) (w := ⟨4, [59], 0, 0⟩) (z := [47, 47, 32, 115, 111, 10, 34, 120, 92, 34, 34]) rfl rfl ?_
  refine .more (n := 1) (w := ⟨3, [120, 34], 0, 0⟩) (z := []) rfl rfl ?_
  exact .done (n := 0) rfl

theorem alive_bad : Lex [97, 10, 10, 62] 0 (.bad 2) := by
  have e : Rs.bad 2 = (Rs.bad 2).cons ⟨1, [97], 0, 0⟩ := rfl
  rw [e]
  refine .more (n := 0) (w := ⟨1, [97], 0, 0⟩) (z := [10, 10, 62]) rfl rfl ?_
  exact .bad (n := 2) (x := [62]) rfl (by simp) rfl

end Go.Proofs.YtpbempnenjfjdaaGreatDoor
