/- show's mayBe: may a value be, what its object holds aside? -/
import Derived.Test.YtgokofomoachaaaShValid
import Derived.Test.YtgokofomoachaaaShTour
namespace Go.Proofs.Ytgokofomoachaaa
set_option linter.unusedVariables false
set_option linter.unusedSimpArgs false
open Go.RowKit

variable {w : World}

/-- May a value be, and its object have its form? -/
def mayP (S : List Om) (v : Vl) : Prop := valP S v ∧ ∀ o, leadO S v = some o → formP o

theorem lead_low {S : List Om} {k : Nat} {n : Int} (h : k < 3) : leadO S ⟨k, n⟩ = none := by
  unfold leadO; rw [if_neg (by dsimp only; omega)]

set_option maxHeartbeats 1000000 in
/-- Values without objects. -/
theorem mayBe_low {bt : Nat} (S : List Om) (k : Nat) (n : Int) (hk : k < 3) (b : Bool) (hb : b = true ↔ mayP S ⟨k, n⟩) :
    Calls Try.prog 44 #[.agg #[.pointer (some ⟨bt, 0, none⟩)], .agg #[.int .u8 k, .int .i64 n]] w fun e w' => e = .returned (.bool b) ∧ Below w.heap.size w w' := by
  have hlo : ∀ o, leadO S ⟨k, n⟩ = some o → formP o := fun o h => by rw [lead_low hk] at h; cases h
  rcases (show k = 0 ∨ k = 1 ∨ k = 2 by omega) with h | h | h
  · subst h
    by_cases hn : n = 0
    · have e := b_true hb ⟨⟨fun _ => hn, (fun h => absurd h (by dsimp only; omega)), fun h => absurd h (by dsimp only; omega)⟩, hlo⟩
      subst e hn
      clear hb hlo
      go_enter Try.func44, Try.ntmps44
      go_wp2
      go_ret
      refine ⟨?_, below2' _ _ _⟩
      first | rfl | (simp_all; done)
    · have e := b_false hb (fun h => hn (h.1.1 rfl))
      subst e
      clear hb hlo
      have g : (n == 0) = false := by simpa using hn
      go_enter Try.func44, Try.ntmps44
      go_wp2
      go_ret
      refine ⟨?_, below2' _ _ _⟩
      first | rfl | (simp_all; done)
  · subst h
    by_cases hn : n = 0
    · have e := b_true hb ⟨⟨(fun h => absurd h (by dsimp only; omega)), fun _ => .inl hn, fun h => absurd h (by dsimp only; omega)⟩, hlo⟩
      subst e hn
      clear hb hlo
      go_enter Try.func44, Try.ntmps44
      go_wp2
      go_ret
      refine ⟨?_, below2' _ _ _⟩
      first | rfl | (simp_all; done)
    · by_cases hn1 : n = 1
      · have e := b_true hb ⟨⟨(fun h => absurd h (by dsimp only; omega)), fun _ => .inr hn1, fun h => absurd h (by dsimp only; omega)⟩, hlo⟩
        clear hb hlo hn
        subst e hn1
        go_enter Try.func44, Try.ntmps44
        go_wp2
        go_ret
        refine ⟨?_, below2' _ _ _⟩
        first | rfl | (simp_all; done)
      · have e := b_false hb (fun h => by rcases h.1.2.1 rfl with h | h; exact hn h; exact hn1 h)
        subst e
        clear hb hlo
        have g : (n == 0) = false := by simpa using hn
        have g' : (n == 1) = false := by simpa using hn1
        go_enter Try.func44, Try.ntmps44
        go_wp2
        go_ret
        refine ⟨?_, below2' _ _ _⟩
        first | rfl | (simp_all; done)
  · subst h
    have e := b_true hb ⟨⟨(fun h => absurd h (by dsimp only; omega)), (fun h => absurd h (by dsimp only; omega)), fun h => absurd h (by dsimp only; omega)⟩, hlo⟩
    subst e
    clear hb hlo
    go_enter Try.func44, Try.ntmps44
    go_wp2
    go_ret
    refine ⟨?_, below2' _ _ _⟩
    first | rfl | (simp_all; done)

/-- A walk stands here. -/
def Halted (p : Prop) : Prop := p

theorem halt_here {p : Prop} (h : Halted p) : p := h

set_option maxRecDepth 20000 in
set_option maxHeartbeats 2000000 in
theorem mayBe_high {w0 : World} {bt bM K c : Nat} {vt : Value} {t : Tr} {p : Option Addr} {S : List Om} (hs : IsSt w0 p S) (hl : S.length ≤ maxLen) (hB : Below w0.heap.size w0 w) (ht : IsTo w0.heap.size bt bM (.slice p S.length c) vt K t w) (hK : K + 1 ≤ 1099511627776) (v : Vl) (hk : 3 ≤ v.k) (b : Bool) (hb : b = true ↔ mayP S v) :
    Calls Try.prog 44 #[.agg #[.pointer (some ⟨bt, 0, none⟩)], .agg #[.int .u8 v.k, .int .i64 v.n]] w fun e w' => e = .returned (.bool b) ∧ ∃ vt', IsTo w0.heap.size bt bM (.slice p S.length c) vt' (K + 1) (meetL S t [v]) w' ∧ TStep bt bM vt w vt' w' := by
  have b0 : ¬ ((v.k : Int) = 0) := by omega
  have b1 : ¬ ((v.k : Int) = 1) := by omega
  have b2 : ¬ ((v.k : Int) = 2) := by omega
  have g0 : ((v.k : Int) == 0) = false := by simpa using b0
  have g1 : ((v.k : Int) == 1) = false := by simpa using b1
  have g2 : ((v.k : Int) == 2) = false := by simpa using b2
  have hbt := ht.lt
  have hbM := ht.cnt.lt
  have hvl : ∀ k, vt.ownBlock = some k → w.heap.size ≤ k → False := fun k e h => by have := (ht.todo.lt k e).2; omega
  have e0 := heap3_0 w (.cells #[.pointer (some ⟨bt, 0, none⟩)] 74) (.cells #[.int .u8 v.k, .int .i64 v.n] 26) (.cells #[.int .u8 v.k, .int .i64 v.n] 26)
  have e1 := heap3_1 w (.cells #[.pointer (some ⟨bt, 0, none⟩)] 74) (.cells #[.int .u8 v.k, .int .i64 v.n] 26) (.cells #[.int .u8 v.k, .int .i64 v.n] 26)
  have hob0 := heap3_2 w (.cells #[.pointer (some ⟨bt, 0, none⟩)] 74) (.cells #[.int .u8 v.k, .int .i64 v.n] 26) (.cells #[.int .u8 v.k, .int .i64 v.n] 26)
  have hB3 := below3' w (.cells #[.pointer (some ⟨bt, 0, none⟩)] 74) (.cells #[.int .u8 v.k, .int .i64 v.n] 26) (.cells #[.int .u8 v.k, .int .i64 v.n] 26)
  have hsz : (((w.alloc (.cells #[.pointer (some ⟨bt, 0, none⟩)] 74)).alloc (.cells #[.int .u8 v.k, .int .i64 v.n] 26)).alloc (.cells #[.int .u8 v.k, .int .i64 v.n] 26)).heap.size = w.heap.size + 3 := by simp
  have ht1 := ht.below hB3
  have hB1 := hB.trans (hB3.mono hB.size)
  have HM := meet_any (q := some ⟨w.heap.size + 1 + 1, 0, none⟩) (cq := 1) (l := [v]) hs hl (fun vt1 wr h => by
    intro j u hj
    have : j = 0 := by have := (List.getElem?_eq_some_iff.1 hj).1; simp at this; omega
    subst this
    simp at hj; subst hj
    obtain ⟨h1, h2⟩ := cell_row2 ((h.block (w.heap.size + 1 + 1) (by omega) (by omega) (by omega) (by intro e; exact hvl _ e.symm (by omega))).trans hob0)
    exact ⟨_, 0, rfl, by simpa using h1, by simpa using h2⟩) hB1 ht1 (by simpa using hK)
  simp only [List.length_cons, List.length_nil, Nat.zero_add] at HM
  have hT1 : TStep bt bM vt w vt (((w.alloc (.cells #[.pointer (some ⟨bt, 0, none⟩)] 74)).alloc (.cells #[.int .u8 v.k, .int .i64 v.n] 26)).alloc (.cells #[.int .u8 v.k, .int .i64 v.n] 26)) := TStep.of_below hB3
  cases hlead : leadO S v with
  | none =>
    have eb := b_false hb (fun h => h.1.2.2 hk hlead)
    subst eb
    clear hb
    have HL := fun (W : World) (h : Below w0.heap.size w0 W) => lead_none (c := c) (hs.below h) hl hlead
    unfold noObj at HL
    go_enter Try.func44, Try.ntmps44
    go_wp2_with (first
      | (go_at_call 60; refine HM.mono ?_; clear HM; rintro e w2 ⟨rfl, vt', hto2, hS2⟩
         have k0 := (hS2.block w.heap.size (by omega) (by omega) (by omega) (by intro e; exact hvl _ e.symm (by omega))).trans e0; have k1 := (hS2.block (w.heap.size + 1) (by omega) (by omega) (by omega) (by intro e; exact hvl _ e.symm (by omega))).trans e1
         have hB2 : Below w0.heap.size w0 w2 := hB1.trans (ht1.below0 hS2)
         obtain ⟨t0, -⟩ := cell_row1 k0; obtain ⟨v0, v1⟩ := cell_row2 k1; obtain ⟨⟨s0, s1, s2⟩, -⟩ := cell_row3 hto2.blk; refine halt_here ?_))
    unfold Halted
    clear hob0
    have hsz2 : w.heap.size + 3 ≤ w2.heap.size := by have := hS2.size; omega
    have hA := below1 w2 (.cells #[.int .u8 0, .string ⟨#[]⟩, .slice none 0 0, .int .i64 0, .int .i64 0] 39)
    have hAd : ∀ k, k < w2.heap.size → (w2.alloc (.cells #[.int .u8 0, .string ⟨#[]⟩, .slice none 0 0, .int .i64 0, .int .i64 0] 39)).heap[k]? = w2.heap[k]? := fun k hk => Below.heap_alloc _ _ _ hk
    have hbtl := hto2.lt
    obtain ⟨t0', -⟩ := cell_row1 ((hAd w.heap.size (by omega)).trans k0)
    obtain ⟨v0', v1'⟩ := cell_row2 ((hAd (w.heap.size + 1) (by omega)).trans k1)
    obtain ⟨⟨s0', s1', s2'⟩, -⟩ := cell_row3 ((hAd bt hbtl).trans hto2.blk)
    have hnew := heap_alloc_new w2 (.cells #[.int .u8 0, .string ⟨#[]⟩, .slice none 0 0, .int .i64 0, .int .i64 0] 39)
    obtain ⟨⟨z0, z1, z2, z3, z4⟩, y0, y1, y2, y3, y4⟩ := cell_row5 hnew
    go_wp2
    have ne1 : w.heap.size ≠ w2.heap.size := by omega
    have ne2 : w.heap.size + 1 ≠ w2.heap.size := by omega
    have ne3 : bt ≠ w2.heap.size := by omega
    go_region_held3 (fun W => W.cell? ⟨w.heap.size, 0, none⟩ = some (.pointer (some ⟨bt, 0, none⟩)) ∧ W.cell? ⟨bt, 0, none⟩ = some (.slice p S.length c) ∧ W.cell? ⟨w.heap.size + 1, 0, none⟩ = some (.int .u8 v.k) ∧ W.cell? ⟨w.heap.size + 1, 1, none⟩ = some (.int .i64 v.n)) (first | with_reducible exact ⟨t0, s0, v0, v1⟩ | with_reducible exact ⟨t0', s0', v0', v1'⟩ | with_reducible exact ⟨q0, q1, q2, q3⟩ | with_reducible exact ⟨(cell_set5 ne1).trans q0, (cell_set5 ne3).trans q1, (cell_set5 ne2).trans q2, (cell_set5 ne2).trans q3⟩ | go_keep)
      ((first
        | (go_at_call 61; (with_reducible refine (HL _ (below_drew hB2)).mono ?_); rintro e w3 ⟨hB3, rfl⟩; obtain ⟨q0, -⟩ := cell_row1 ((hB3.block w.heap.size (by show w.heap.size < w2.heap.size; omega)).trans k0); obtain ⟨q2, q3⟩ := cell_row2 ((hB3.block (w.heap.size + 1) (by show w.heap.size + 1 < w2.heap.size; omega)).trans k1); obtain ⟨⟨q1, -, -⟩, -⟩ := cell_row3 ((hB3.block bt hbtl).trans hto2.blk); have hBw : Below w2.heap.size w2 w3 := (below_drew (Below.refl _ w2)).trans hB3)
        | (go_at_call 61; (with_reducible refine (HL _ (below_drew (hB2.trans (hA.mono hB2.size)))).mono ?_); rintro e w3 ⟨hB3, rfl⟩; obtain ⟨q0, -⟩ := cell_row1 ((hB3.block w.heap.size (by simp; omega)).trans ((hAd w.heap.size (by omega)).trans k0)); obtain ⟨q2, q3⟩ := cell_row2 ((hB3.block (w.heap.size + 1) (by simp; omega)).trans ((hAd (w.heap.size + 1) (by omega)).trans k1)); obtain ⟨⟨q1, -, -⟩, -⟩ := cell_row3 ((hB3.block bt (by simp; omega)).trans ((hAd bt hbtl).trans hto2.blk)); have hn3 := (hB3.block w2.heap.size (by simp)).trans hnew; obtain ⟨⟨g0, g1, g2, g3, g4⟩, f0, f1, f2, f3, f4⟩ := cell_row5 hn3; have hBw : Below w2.heap.size w2 w3 := (below_drew hA).trans (hB3.mono (by simp)))))
    all_goals
      first
        | (have hob := set5_row (x0 := .int .u8 0) (x1 := .string ⟨#[]⟩) (x2 := .slice none 0 0) (x3 := .int .i64 0) (x4 := .int .i64 0) hn3; have hBF := below_set5 hBw (Nat.le_refl _) (.int .u8 0) (.string ⟨#[]⟩) (.slice none 0 0) (.int .i64 0) (.int .i64 0); generalize hWF : World.setCell _ ⟨w2.heap.size, 4, none⟩ _ = WF at *)
        | (have hob := heap_alloc_new w3 (.cells #[.int .u8 0, .string ⟨#[]⟩, .slice none 0 0, .int .i64 0, .int .i64 0] 39); have hBF : Below w2.heap.size w2 (w3.alloc (.cells #[.int .u8 0, .string ⟨#[]⟩, .slice none 0 0, .int .i64 0, .int .i64 0] 39)) := hBw.alloc hBw.size _; generalize hWF : World.alloc w3 _ = WF at *)
      clear hWF
      have hend : IsTo w0.heap.size bt bM (.slice p S.length c) vt' (K + 1) (meetL S t [v]) WF ∧ TStep bt bM vt w vt' WF := ⟨hto2.below hBF, hT1.trans (hS2.trans (TStep.of_below hBF))⟩
      go_wp2
      go_ret
      exact ⟨rfl, vt', hend⟩
  | some o =>
    obtain ⟨-, hk7, hok, -⟩ := leadO_some hlead
    have hbf : b = true ↔ formP o := hb.trans ⟨fun h => h.2 o hlead, fun h => ⟨⟨fun h0 => by omega, fun h1 => by omega, fun _ => by rw [hlead]; simp⟩, fun o' ho' => by rw [hlead] at ho'; cases ho'; exact h⟩⟩
    have HF := fun (W : World) (qo : Option Addr) (co : Nat) => hasForm_in o qo co W (by omega) (by omega) b hbf
    unfold objV at HF
    clear hb hbf hok
    have HL := fun (W : World) (h : Below w0.heap.size w0 W) => lead_some (c := c) (hs.below h) hl hlead
    unfold objV at HL
    go_enter Try.func44, Try.ntmps44
    go_wp2_with (first
      | (go_at_call 60; refine HM.mono ?_; clear HM; rintro e w2 ⟨rfl, vt', hto2, hS2⟩
         have k0 := (hS2.block w.heap.size (by omega) (by omega) (by omega) (by intro e; exact hvl _ e.symm (by omega))).trans e0; have k1 := (hS2.block (w.heap.size + 1) (by omega) (by omega) (by omega) (by intro e; exact hvl _ e.symm (by omega))).trans e1
         have hB2 : Below w0.heap.size w0 w2 := hB1.trans (ht1.below0 hS2)
         obtain ⟨t0, -⟩ := cell_row1 k0; obtain ⟨v0, v1⟩ := cell_row2 k1; obtain ⟨⟨s0, s1, s2⟩, -⟩ := cell_row3 hto2.blk; refine halt_here ?_))
    unfold Halted
    clear hob0
    have hsz2 : w.heap.size + 3 ≤ w2.heap.size := by have := hS2.size; omega
    have hA := below1 w2 (.cells #[.int .u8 0, .string ⟨#[]⟩, .slice none 0 0, .int .i64 0, .int .i64 0] 39)
    have hAd : ∀ k, k < w2.heap.size → (w2.alloc (.cells #[.int .u8 0, .string ⟨#[]⟩, .slice none 0 0, .int .i64 0, .int .i64 0] 39)).heap[k]? = w2.heap[k]? := fun k hk => Below.heap_alloc _ _ _ hk
    have hbtl := hto2.lt
    obtain ⟨t0', -⟩ := cell_row1 ((hAd w.heap.size (by omega)).trans k0)
    obtain ⟨v0', v1'⟩ := cell_row2 ((hAd (w.heap.size + 1) (by omega)).trans k1)
    obtain ⟨⟨s0', s1', s2'⟩, -⟩ := cell_row3 ((hAd bt hbtl).trans hto2.blk)
    have hnew := heap_alloc_new w2 (.cells #[.int .u8 0, .string ⟨#[]⟩, .slice none 0 0, .int .i64 0, .int .i64 0] 39)
    obtain ⟨⟨z0, z1, z2, z3, z4⟩, y0, y1, y2, y3, y4⟩ := cell_row5 hnew
    go_wp2
    have ne1 : w.heap.size ≠ w2.heap.size := by omega
    have ne2 : w.heap.size + 1 ≠ w2.heap.size := by omega
    have ne3 : bt ≠ w2.heap.size := by omega
    go_region_held3 (fun W => W.cell? ⟨w.heap.size, 0, none⟩ = some (.pointer (some ⟨bt, 0, none⟩)) ∧ W.cell? ⟨bt, 0, none⟩ = some (.slice p S.length c) ∧ W.cell? ⟨w.heap.size + 1, 0, none⟩ = some (.int .u8 v.k) ∧ W.cell? ⟨w.heap.size + 1, 1, none⟩ = some (.int .i64 v.n)) (first | with_reducible exact ⟨t0, s0, v0, v1⟩ | with_reducible exact ⟨t0', s0', v0', v1'⟩ | with_reducible exact ⟨q0, q1, q2, q3⟩ | with_reducible exact ⟨(cell_set5 ne1).trans q0, (cell_set5 ne3).trans q1, (cell_set5 ne2).trans q2, (cell_set5 ne2).trans q3⟩ | go_keep)
      ((first
        | (go_at_call 61; (with_reducible refine (HL _ (below_drew hB2)).mono ?_); rintro e w3 ⟨hB3, qo, co, rfl, hvo⟩; obtain ⟨q0, -⟩ := cell_row1 ((hB3.block w.heap.size (by show w.heap.size < w2.heap.size; omega)).trans k0); obtain ⟨q2, q3⟩ := cell_row2 ((hB3.block (w.heap.size + 1) (by show w.heap.size + 1 < w2.heap.size; omega)).trans k1); obtain ⟨⟨q1, -, -⟩, -⟩ := cell_row3 ((hB3.block bt hbtl).trans hto2.blk); have hBw : Below w2.heap.size w2 w3 := (below_drew (Below.refl _ w2)).trans hB3)
        | (go_at_call 61; (with_reducible refine (HL _ (below_drew (hB2.trans (hA.mono hB2.size)))).mono ?_); rintro e w3 ⟨hB3, qo, co, rfl, hvo⟩; obtain ⟨q0, -⟩ := cell_row1 ((hB3.block w.heap.size (by simp; omega)).trans ((hAd w.heap.size (by omega)).trans k0)); obtain ⟨q2, q3⟩ := cell_row2 ((hB3.block (w.heap.size + 1) (by simp; omega)).trans ((hAd (w.heap.size + 1) (by omega)).trans k1)); obtain ⟨⟨q1, -, -⟩, -⟩ := cell_row3 ((hB3.block bt (by simp; omega)).trans ((hAd bt hbtl).trans hto2.blk)); have hn3 := (hB3.block w2.heap.size (by simp)).trans hnew; obtain ⟨⟨g0, g1, g2, g3, g4⟩, f0, f1, f2, f3, f4⟩ := cell_row5 hn3; have hBw : Below w2.heap.size w2 w3 := (below_drew hA).trans (hB3.mono (by simp)))))
    all_goals
      first
        | (have hob := set5_row (x0 := .int .u8 o.k) (x1 := .string o.s) (x2 := .slice qo o.l.length co) (x3 := .int .i64 o.room) (x4 := .int .i64 o.fn) hn3; have hBF := below_set5 hBw (Nat.le_refl _) (.int .u8 o.k) (.string o.s) (.slice qo o.l.length co) (.int .i64 o.room) (.int .i64 o.fn); generalize hWF : World.setCell _ ⟨w2.heap.size, 4, none⟩ _ = WF at *)
        | (have hob := heap_alloc_new w3 (.cells #[.int .u8 o.k, .string o.s, .slice qo o.l.length co, .int .i64 o.room, .int .i64 o.fn] 39); have hBF : Below w2.heap.size w2 (w3.alloc (.cells #[.int .u8 o.k, .string o.s, .slice qo o.l.length co, .int .i64 o.room, .int .i64 o.fn] 39)) := hBw.alloc hBw.size _; generalize hWF : World.alloc w3 _ = WF at *)
      clear hWF
      have hend : IsTo w0.heap.size bt bM (.slice p S.length c) vt' (K + 1) (meetL S t [v]) WF ∧ TStep bt bM vt w vt' WF := ⟨hto2.below hBF, hT1.trans (hS2.trans (TStep.of_below hBF))⟩
      obtain ⟨⟨d0, d1, d2, d3, d4⟩, -⟩ := cell_row5 hob
      clear hob hBF hnew z0 z1 z2 z3 z4 y0 y1 y2 y3 y4 t0 v0 v1 s0 s1 s2 t0' v0' v1' s0' s1' s2' k0 k1 q0 q1 q2 q3
      go_wp2_with (first
        | (go_at_call 62; refine (HF _ _ _).mono ?_; rintro e w4 ⟨rfl, hB4⟩))
      go_ret
      exact ⟨rfl, vt', hend.1.below hB4, hend.2.trans (TStep.of_below hB4)⟩

end Go.Proofs.Ytgokofomoachaaa
