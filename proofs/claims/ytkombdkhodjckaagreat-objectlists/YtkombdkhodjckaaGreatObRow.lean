/- What objects hold: value, hold, mayBeHeld. -/
import Derived.Test.YtkombdkhodjckaaGreatObSame
namespace Go.Proofs.YtkombdkhodjckaaGreat
set_option linter.unusedVariables false
set_option linter.unusedSimpArgs false
open Go.RowKit

variable {n₀ bh b lim used : Nat} {vw vb : Value} {w : World} {M : List Ob}

/-- May a value be held? -/
def MayHeld (M : List Ob) (k : Nat) (n : Int) : Prop := (k = 0 ∧ n = 0) ∨ (k = 1 ∧ (n = 0 ∨ n = 1)) ∨ k = 2 ∨ (k ≠ 7 ∧ Leads M k n)

set_option maxRecDepth 20000 in
set_option maxHeartbeats 1000000 in
theorem mayBeHeld_yes (h : Hp n₀ bh b vw vb w lim used M) (k : Nat) (n : Int) (hm : MayHeld M k n) :
    Calls Tryz.prog 26 #[mem bh, .agg #[.int .u8 k, .int .i64 n]] w fun e w' => e = .returned (.bool true) ∧ Below w.heap.size w w' := by
  have H1 := fun w' (hB : Below w.heap.size w w') => oleads_in (h.below hB) k n
  unfold mem at H1 ⊢
  rcases hm with ⟨rfl, rfl⟩ | ⟨rfl, hn⟩ | rfl | ⟨hk, hl⟩
  · go_enter Tryz.func26, Tryz.ntmps26
    go_wp2
    go_ret
    exact ⟨rfl, below2' _ _ _⟩
  · rcases hn with rfl | rfl
    · go_enter Tryz.func26, Tryz.ntmps26
      go_wp2
      go_ret
      exact ⟨rfl, below2' _ _ _⟩
    · go_enter Tryz.func26, Tryz.ntmps26
      go_wp2
      go_ret
      exact ⟨rfl, below2' _ _ _⟩
  · go_enter Tryz.func26, Tryz.ntmps26
    go_wp2
    go_ret
    exact ⟨rfl, below2' _ _ _⟩
  · have ed : decide (Leads M k n) = true := by simpa using hl
    rw [ed] at H1
    have h0 : ((k : Int) == 0) = false := by have := hl.1; simp; omega
    have h1 : ((k : Int) == 1) = false := by have := hl.1; simp; omega
    have h2 : ((k : Int) == 2) = false := by have := hl.1; simp; omega
    have h7 : ((k : Int) == 7) = false := by simp; omega
    have hb := below2' w (.cells #[.pointer (some ⟨bh, 0, none⟩)] 54) (.cells #[.int .u8 k, .int .i64 n] 29)
    clear ed hl hk
    go_enter Tryz.func26, Tryz.ntmps26
    go_wp2_with (first
      | (go_at_call 64; refine (H1 _ hb).mono ?_; clear H1; rintro e w1 ⟨rfl, hB1⟩))
    go_ret
    exact ⟨rfl, hb.trans (hB1.mono hb.size)⟩

/-- The value in two words. -/
def valK (ws : List Nat) (i : Nat) : Nat := if ws.getD i 0 ≤ 255 then ws.getD i 0 else 0

def valN (ws : List Nat) (i : Nat) : Int := if ws.getD i 0 ≤ 255 then wrap64 (ws.getD (i + 1) 0 : Nat) else 0

theorem infoVal3 : (Tryz.prog.info? 29).map (·.size) = some 2 := by kernel_rfl

set_option maxRecDepth 20000 in
set_option maxHeartbeats 1000000 in
theorem value_in {l r : List Ob} {o : Ob} (h : Hp n₀ bh b vw vb w lim used (l ++ o :: r)) (cnt room first i : Nat) (hf : first ≤ 1) (hi : i ≤ 1048576) :
    Calls Tryz.prog 47 #[mem bh, .agg #[.int .i64 cnt, .int .i64 room, .int .i64 o.at_, .int .i64 first], .int .i64 i] w fun e w' => e = .returned (.agg #[.int .u8 (valK o.ws (first + 2 * i)), .int .i64 (valN o.ws (first + 2 * i))]) ∧ Below w.heap.size w w' := by
  have H1 := fun w' (hB : Below w.heap.size w w') => oword_in (h.below hB) (first + 2 * i)
  have H2 := fun w' (hB : Below w.heap.size w w') => oword_in (h.below hB) (first + 2 * i + 1)
  have hb3 := below3' w (.cells #[.pointer (some ⟨bh, 0, none⟩)] 54) (.cells #[.int .i64 cnt, .int .i64 room, .int .i64 o.at_, .int .i64 first] 58) (.cells #[.int .u8 0, .int .i64 0] 29)
  have hN := h.getD_lt (first + 2 * i + 1)
  have hK := h.getD_lt (first + 2 * i)
  unfold valK valN
  revert H1 H2 hN hK
  generalize o.ws.getD (first + 2 * i) 0 = K
  generalize o.ws.getD (first + 2 * i + 1) 0 = N
  intro H1 H2 hN hK
  simp only [Int.natCast_add, Int.natCast_mul, show ((1 : Nat) : Int) = 1 from rfl, show ((2 : Nat) : Int) = 2 from rfl] at H1 H2
  unfold mem at H1 H2 ⊢
  by_cases h255 : K ≤ 255
  · have h255' : ¬ (255 : Int) < (K : Int) := by omega
    rw [if_pos h255, if_pos h255]
    go_enter Tryz.func47, Tryz.ntmps47
    go_wp2_with (first
      | (go_at_call 89; refine (H1 _ hb3).mono ?_; clear H1; rintro e w1 ⟨rfl, hB1⟩; obtain ⟨m1, m2, m3, hBz⟩ := later3o hB1; have c1 := cell_row1 m1; obtain ⟨⟨d0, d1, d2, d3⟩, _⟩ := cell_row4 m2; obtain ⟨⟨e0, e1⟩, f0, f1⟩ := cell_row2f m3)
      | (go_at_call 89; refine (H2 _ hBz).mono ?_; clear H2; rintro e w2 ⟨rfl, hB2⟩; have m4 := (hB2.block _ (Array.getElem?_eq_some_iff.1 m3).1).trans m3; obtain ⟨⟨x0, x1⟩, y0, y1⟩ := cell_row2f m4))
    refine bodyPost_ret (results_cell_row (by rfl) _ _ (w.heap.size + 1 + 1) 29 _ _ _ (by rfl) (set2_row m4) Tryz.underlying29 (by rfl) infoVal3) (by rfl) ?_
    exact ⟨rfl, below_set (below_set (hBz.trans (hB2.mono hBz.size)) (by omega) _) (by omega) _⟩
  · have h255' : (255 : Int) < (K : Int) := by omega
    rw [if_neg h255, if_neg h255]
    go_enter Tryz.func47, Tryz.ntmps47
    go_wp2_with (first
      | (go_at_call 89; refine (H1 _ hb3).mono ?_; clear H1; rintro e w1 ⟨rfl, hB1⟩; obtain ⟨m1, m2, m3, hBz⟩ := later3o hB1; have c1 := cell_row1 m1; obtain ⟨⟨d0, d1, d2, d3⟩, _⟩ := cell_row4 m2; obtain ⟨⟨e0, e1⟩, f0, f1⟩ := cell_row2f m3))
    refine bodyPost_ret (results_cell_row (by rfl) _ _ (w.heap.size + 1 + 1) 29 _ _ _ (by rfl) (set2_row m3) Tryz.underlying29 (by rfl) infoVal3) (by rfl) ?_
    exact ⟨rfl, below_set (below_set hBz (by omega) _) (by omega) _⟩

/-- A number as a word. -/
def n64 (n : Int) : Nat := (n % 18446744073709551616).toNat

theorem n64_lt (n : Int) : n64 n < 18446744073709551616 := by unfold n64; omega

theorem n64_wrap (n : Int) : IntKind.u64.wrap n = (n64 n : Int) := by unfold n64; rw [IntKind.wrap_u64]; omega

/-- Words in which a value was laid. -/
def lay (ws : List Nat) (i k : Nat) (n : Int) : List Nat := (ws.set i k).set (i + 1) (n64 n)

theorem lay_len (ws : List Nat) (i k : Nat) (n : Int) : (lay ws i k n).length = ws.length := by simp [lay]

set_option maxRecDepth 20000 in
set_option maxHeartbeats 1000000 in
theorem hold_in {l r : List Ob} {o : Ob} (h : Hp n₀ bh b vw vb w lim used (l ++ o :: r)) (cnt room first i k : Nat) (n : Int) (hf : first ≤ 1) (hi : first + 2 * i + 1 < o.ws.length) (hk : k < 256) :
    Calls Tryz.prog 59 #[mem bh, .agg #[.int .i64 cnt, .int .i64 room, .int .i64 o.at_, .int .i64 first], .int .i64 i, .agg #[.int .u8 k, .int .i64 n]] w fun e w' => e = .returned (.tuple #[]) ∧ Hp n₀ bh b vw vb w' lim used (l ++ { o with ws := lay o.ws (first + 2 * i) k n } :: r) ∧ Step b vw vb w vw vb w' := by
  have h20 : o.ws.length ≤ 1048576 := by
    have := h.srt.2 o (by simp); have := h.le; unfold Ob.end_ at *; omega
  have hb3 := below3' w (.cells #[.pointer (some ⟨bh, 0, none⟩)] 54) (.cells #[.int .i64 cnt, .int .i64 room, .int .i64 o.at_, .int .i64 first] 58) (.cells #[.int .u8 k, .int .i64 n] 29)
  have H1 := writeM (h.below hb3) (first + 2 * i) k (by omega) (by omega)
  have HV : Hid (∀ k, vw.ownBlock = some k → k < w.heap.size) := fun k e => (h.blocks k (.inr (.inr (.inl e)))).2.1
  simp only [Int.natCast_add, Int.natCast_mul, show ((1 : Nat) : Int) = 1 from rfl, show ((2 : Nat) : Int) = 2 from rfl] at H1
  unfold mem
  go_enter Tryz.func59, Tryz.ntmps59
  go_wp2_with (first
    | (go_at_call 54; refine H1.mono ?_; clear H1; rintro e w1 ⟨rfl, hp1, hS1⟩
       have g1 := ((h.below hb3).stays hS1 (heap3_0 w _ _ _) (fun cur t e => by cases e; decide)).trans (heap3_0 w _ _ _)
       have g2 := ((h.below hb3).stays hS1 (heap3_1 w _ _ _) (fun cur t e => by cases e; decide)).trans (heap3_1 w _ _ _)
       have g3 := ((h.below hb3).stays hS1 (heap3_2 w _ _ _) (fun cur t e => by cases e; decide)).trans (heap3_2 w _ _ _)
       have c1 := cell_row1 g1; obtain ⟨⟨d0, d1, d2, d3⟩, _⟩ := cell_row4 g2; have ⟨e0, e1⟩ := cell_row2 g3
       have H2 := writeM hp1 (first + 2 * i + 1) (n64 n) (by simp; omega) (n64_lt n)
       simp only [Int.natCast_add, Int.natCast_mul, show ((1 : Nat) : Int) = 1 from rfl, show ((2 : Nat) : Int) = 2 from rfl, ← n64_wrap] at H2)
    | (go_at_call 54; go_loud (refine H2.mono ?_); clear H2; rintro e w2 ⟨rfl, hp2, hS2⟩))
  go_end0
  exact ⟨rfl, hp2, Step.belowL hb3 (hS1.trans hS2) HV.out⟩

end Go.Proofs.YtkombdkhodjckaaGreat
