/- Put and Get of a list. -/
import Derived.Test.YtmahnedhnjlenaaGreatObPush
namespace Go.Proofs.YtmahnedhnjlenaaGreat
set_option linter.unusedVariables false
set_option linter.unusedSimpArgs false
open Go.RowKit

variable {n₀ bh b lim used : Nat} {vw vb : Value} {w : World} {M : List Ob}

theorem kinds2 (W : World) (a b : Nat) (g : Nat) (t : TypeId) (h : W.heap[g]? = some (.cells #[.int .u8 a, .int .u8 b] t (0, 0))) : Kinds W (some ⟨g, 0, none⟩) [a, b] := by
  intro j k hj
  rcases j with _ | _ | j
  · simp at hj; subst hj; exact ⟨g, 0, rfl, by rw [Nat.zero_add, cell_of_row W g 0 _ _ _ h]; rfl⟩
  · simp at hj; subst hj; exact ⟨g, 0, rfl, by rw [Nat.zero_add, cell_of_row W g 1 _ _ _ h]; rfl⟩
  · simp at hj

set_option maxRecDepth 20000 in
set_option maxHeartbeats 1000000 in
theorem Put_grow (h : Hp n₀ bh b vw vb w lim used M) (hl1 : 1 ≤ lim) {o q : Ob} {n : Nat} (hr : RowOb M o q n n) (hk4 : o.kind = 4) (hoq : o.at_ ≠ q.at_) (hn6 : n < 65536) (k : Nat) (x : Int) (hm : MayHeld M k x) (hk8 : k < 256) (hf : used + 2 * (max 4 (2 * n)) + 1 ≤ lim) :
    Calls Tryz.prog 8 #[.pointer (some ⟨bh, 0, none⟩), .agg #[.int .u8 4, .int .i64 o.at_], .agg #[.int .u8 2, .int .i64 n], .agg #[.int .u8 k, .int .i64 x]] w fun e w' => e = .returned (.int .i64 0) ∧
      ∃ vw' vb', Hp n₀ bh b vw' vb' w' lim (used + 2 * (max 4 (2 * n)) + 1) (grown M used (max 4 (2 * n)) o q n [⟨k, x⟩]) ∧ Step b vw vb w vw' vb' w' := by
  have H1 := fun w' (hB : Below w.heap.size w w') p (hk : Kinds w' p [4, 5]) => take_row (h.below hB) hl1 (fun w'' hB' => find_list ((h.below hB).below hB') hr (by omega) hk4) 2 hk (by simp) (by simp)
  have H2 := fun w' (hB : Below w.heap.size w w') => putItem_grow (h.below hB) hr hoq rfl hn6 k x hm hk8 hf
  have HV : Hid (∀ k, vw.ownBlock = some k → k < w.heap.size) := fun k e => (h.blocks k (.inr (.inr (.inl e)))).2.1
  unfold mem at H1 H2
  go_enter Tryz.func8, Tryz.ntmps8
  go_wp2_with (first
    | (go_at_call 22; go_loud (refine (H1 _ (below5' _ _ _ _ _ _) _ (kinds2 _ _ _ _ _ (heap5_4 _ _ _ _ _ _))).mono ?_; clear H1; rintro e w1 ⟨rfl, hB1⟩; obtain ⟨⟨m1, m2, m3, m4⟩, hBz⟩ := later5o hB1)
       have k1 := alloc_keeps m1 (.cells #[.int .i64 n, .int .i64 n, .int .i64 q.at_, .int .i64 0] 58); have k2 := alloc_keeps m2 (.cells #[.int .i64 n, .int .i64 n, .int .i64 q.at_, .int .i64 0] 58); have k3 := alloc_keeps m3 (.cells #[.int .i64 n, .int .i64 n, .int .i64 q.at_, .int .i64 0] 58); have k4 := alloc_keeps m4 (.cells #[.int .i64 n, .int .i64 n, .int .i64 q.at_, .int .i64 0] 58)
       have ⟨d0, d1⟩ := cell_row2 k1; have ⟨d2, d3⟩ := cell_row2 k2; have ⟨d5, d6⟩ := cell_row2 k3; have d4 := cell_row1 k4; have hBy := hBz.alloc hBz.size (.cells #[.int .i64 n, .int .i64 n, .int .i64 q.at_, .int .i64 0] 58))
    | (go_at_call 24; refine (H2 _ hBy).mono ?_; clear H2; rintro e w2 ⟨rfl, vw', vb', hp2, hS2⟩))
  go_ret
  exact ⟨rfl, vw', vb', hp2, Step.belowL hBy hS2 HV.out⟩

set_option maxRecDepth 20000 in
set_option maxHeartbeats 1000000 in
theorem Get_over (h : Hp n₀ bh b vw vb w lim used M) (hl1 : 1 ≤ lim) {o q : Ob} {n room : Nat} (hr : RowOb M o q n room) (hk4 : o.kind = 4) (hn6 : n < 65536) (i : Nat) (hi : n ≤ i) :
    Calls Tryz.prog 18 #[.pointer (some ⟨bh, 0, none⟩), .agg #[.int .u8 4, .int .i64 o.at_], .agg #[.int .u8 2, .int .i64 i]] w fun e w' => e = .returned (.tuple #[.agg #[.int .u8 0, .int .i64 0], .int .i64 1]) ∧ Below w.heap.size w w' := by
  have H1 := fun w' (hB : Below w.heap.size w w') p (hk : Kinds w' p [3, 4, 5]) => take_row (h.below hB) hl1 (fun w'' hB' => find_list ((h.below hB).below hB') hr (by omega) hk4) 3 hk (by simp) (by simp)
  unfold mem at H1
  have hi' : ¬ (i : Int) < (n : Int) := by omega
  have hi2 : (n : Int) ≤ (i : Int) := by omega
  go_enter Tryz.func18, Tryz.ntmps18
  go_wp2_with (first
    | (go_at_call 22; go_loud (refine (H1 _ (below5' _ _ _ _ _ _) _ (kinds3 _ _ _ _ _ _ (heap5_4 _ _ _ _ _ _))).mono ?_; clear H1; rintro e w1 ⟨rfl, hB1⟩; obtain ⟨⟨m1, m2, m3, m4⟩, hBz⟩ := later5o hB1)
       have k1 := alloc_keeps m1 (.cells #[.int .i64 n, .int .i64 room, .int .i64 q.at_, .int .i64 0] 58); have k2 := alloc_keeps m2 (.cells #[.int .i64 n, .int .i64 room, .int .i64 q.at_, .int .i64 0] 58); have k3 := alloc_keeps m3 (.cells #[.int .i64 n, .int .i64 room, .int .i64 q.at_, .int .i64 0] 58); have k4 := alloc_keeps m4 (.cells #[.int .i64 n, .int .i64 room, .int .i64 q.at_, .int .i64 0] 58)
       have ⟨d0, d1⟩ := cell_row2 k1; have ⟨d2, d3⟩ := cell_row2 k2; have ⟨⟨d5, d6⟩, f0, f1⟩ := cell_row2f k3; have d4 := cell_row1 k4; have hBy := hBz.alloc hBz.size (.cells #[.int .i64 n, .int .i64 room, .int .i64 q.at_, .int .i64 0] 58)))
  refine bodyPost_ret (results_row_tmp (by rfl) _ _ (w.heap.size + 1 + 1) 29 #[.int .u8 0, .int .i64 0] (0, 0) _ (by rfl) (set2_row k3) Tryz.underlying29 (by rfl) infoVal2) (by rfl) ?_
  exact ⟨rfl, below_set (below_set hBy (by omega) _) (by omega) _⟩

end Go.Proofs.YtmahnedhnjlenaaGreat

namespace Go.Proofs.YtmahnedhnjlenaaGreat
set_option linter.unusedVariables false
set_option linter.unusedSimpArgs false
open Go.RowKit

variable {n₀ bh b lim used : Nat} {vw vb : Value} {w : World} {M : List Ob}

set_option maxRecDepth 20000 in
set_option maxHeartbeats 1000000 in
theorem keyAt1_odd (i k k' : Nat) (n n' : Int) (hi : i % 2 = 1) (hi2 : i ≤ 1048576) {Bat Bs : Nat} {a0 : Value} (w : World) (g1 : w.heap[Bat]? = some (.cells #[a0] 3 (0, 0))) :
    Calls Tryz.prog 99 #[.int .i64 i, .agg #[.int .u8 k', .int .i64 n'], .pointer (some ⟨Bat, 0, none⟩), .pointer (some ⟨Bs, 0, none⟩)] w fun e w' => e = .returned (.bool true) ∧ w' = (w.alloc (.cells #[.int .u8 k', .int .i64 n'] 29)).setCell ⟨Bat, 0, none⟩ (.int .i64 i) := by
  have k1 := alloc_keeps g1 (.cells #[.int .u8 k', .int .i64 n'] 29)
  have c1 := cell_row1 k1
  have f1 := frozen_of_row _ Bat 0 _ _ k1
  have hm : ((i : Int) % 2 == 0) = false := by simp; omega
  go_enter Tryz.func99, Tryz.ntmps99
  go_wp2
  go_ret
  exact ⟨rfl, rfl⟩

/-- A likeness of what is no text, in a box. -/
structure LikeBox (w : World) (Bs Ba : Nat) (k : Nat) (n : Int) : Prop where
  box : w.heap[Bs]? = some (.cells #[.func (.func 121) #[] #[.pointer (some ⟨Ba, 0, none⟩)]] 63 (0, 0))
  val : w.heap[Ba]? = some (.cells #[.int .u8 k, .int .i64 n] 29 (0, 0))

theorem LikeBox.below {Bs Ba k : Nat} {n : Int} (h : LikeBox w Bs Ba k n) {w' : World} (hB : Below w.heap.size w w') : LikeBox w' Bs Ba k n :=
  ⟨(hB.block _ (Array.getElem?_eq_some_iff.1 h.box).1).trans h.box, (hB.block _ (Array.getElem?_eq_some_iff.1 h.val).1).trans h.val⟩

theorem LikeBox.set {Bs Ba k : Nat} {n : Int} (h : LikeBox w Bs Ba k n) {Bat : Nat} {cur : Array Value} (g1 : w.heap[Bat]? = some (.cells cur 3 (0, 0))) (v : Value) : LikeBox (w.setCell ⟨Bat, 0, none⟩ v) Bs Ba k n :=
  ⟨(heap_setCell_other _ ⟨Bat, 0, none⟩ Bs _ (fun e => by have := h.box; simp only at e; rw [e, g1] at this; simp at this)).trans h.box, (heap_setCell_other _ ⟨Bat, 0, none⟩ Ba _ (fun e => by have := h.val; simp only at e; rw [e, g1] at this; simp at this)).trans h.val⟩

set_option maxRecDepth 20000 in
set_option maxHeartbeats 1000000 in
theorem keyAt1_even (i k k' : Nat) (n n' : Int) (hi : i % 2 = 0) (hi2 : i ≤ 1048576) {Bat Bs Ba : Nat} {a0 : Value} (w : World) (g1 : w.heap[Bat]? = some (.cells #[a0] 3 (0, 0))) (g2 : LikeBox w Bs Ba k n) :
    Calls Tryz.prog 99 #[.int .i64 i, .agg #[.int .u8 k', .int .i64 n'], .pointer (some ⟨Bat, 0, none⟩), .pointer (some ⟨Bs, 0, none⟩)] w fun e w' => e = .returned (.bool (!decide (k = k' ∧ n = n'))) ∧ Below (w.heap.size + 1) ((w.alloc (.cells #[.int .u8 k', .int .i64 n'] 29)).setCell ⟨Bat, 0, none⟩ (.int .i64 i)) w' := by
  have k1 := alloc_keeps g1 (.cells #[.int .u8 k', .int .i64 n'] 29)
  have c1 := cell_row1 k1
  have f1 := frozen_of_row _ Bat 0 _ _ k1
  have g3 := (g2.below (below1 w (.cells #[.int .u8 k', .int .i64 n'] 29))).set k1 (.int .i64 i)
  have c3 := cell_row1 g3.box
  have hw := heap_alloc_new w (.cells #[.int .u8 k', .int .i64 n'] 29)
  have hBat : w.heap.size ≠ Bat := fun e => by have := (Array.getElem?_eq_some_iff.1 g1).1; omega
  have ⟨c4, c5⟩ := cell_row2 ((heap_setCell_other _ ⟨Bat, 0, none⟩ w.heap.size (.int .i64 i) hBat).trans hw)
  have H1 := like3_in k k' n n' _ g3.val
  have hm : ((i : Int) % 2 == 0) = true := by simp; omega
  go_enter Tryz.func99, Tryz.ntmps99
  go_wp2_with (first
    | (go_at_call 121; refine H1.mono ?_; clear H1; rintro e w2 ⟨rfl, hB2⟩))
  go_ret
  refine ⟨?_, hB2.mono (by simp [World.setCell])⟩
  exact congrArg (fun b => Ending.returned (.bool b)) (by simp [Bool.decide_and, Bool.not_and])

/-- A key among values: the first, from a place on. -/
def KeyAt (ws : List Nat) (cnt : Nat) (k : Nat) (n : Int) (i : Nat) : Prop := i < cnt ∧ i % 2 = 0 ∧ (k = valK ws (2 * i) ∧ n = valN ws (2 * i)) ∧ ∀ j, j < i → j % 2 = 0 → ¬ (k = valK ws (2 * j) ∧ n = valN ws (2 * j))

def NoKey (ws : List Nat) (cnt : Nat) (k : Nat) (n : Int) : Prop := ∀ j, j < cnt → j % 2 = 0 → ¬ (k = valK ws (2 * j) ∧ n = valN ws (2 * j))

end Go.Proofs.YtmahnedhnjlenaaGreat

namespace Go.Proofs.YtmahnedhnjlenaaGreat
set_option linter.unusedVariables false
set_option linter.unusedSimpArgs false
open Go.RowKit

variable {n₀ bh b lim used : Nat} {vw vb : Value} {w : World} {M : List Ob}

theorem run_store_func {P : Program} {w : World} {a : Addr} {f : Fn} {x y : Array Value} {m : Mode} : (store a (.func f x y) m).run P w = stored P w a (.func f x y) m := run_store P w a _ m rfl
attribute [local go_sem] run_store_func

theorem key_set {w w' : World} {Bat Bs Ba k i k' : Nat} {n n' : Int} {a0 : Value} (hB : Below w.heap.size w w') (hat : w.heap.size ≤ Bat) (g1 : w'.heap[Bat]? = some (.cells #[a0] 3 (0, 0))) (g2 : LikeBox w' Bs Ba k n) :
    Below w.heap.size w ((w'.alloc (.cells #[.int .u8 k', .int .i64 n'] 29)).setCell ⟨Bat, 0, none⟩ (.int .i64 i)) ∧ KeepT w' ((w'.alloc (.cells #[.int .u8 k', .int .i64 n'] 29)).setCell ⟨Bat, 0, none⟩ (.int .i64 i)) ∧
    ((w'.alloc (.cells #[.int .u8 k', .int .i64 n'] 29)).setCell ⟨Bat, 0, none⟩ (.int .i64 i)).heap[Bat]? = some (.cells #[.int .i64 i] 3 (0, 0)) ∧ LikeBox ((w'.alloc (.cells #[.int .u8 k', .int .i64 n'] 29)).setCell ⟨Bat, 0, none⟩ (.int .i64 i)) Bs Ba k n := by
  have k1 := alloc_keeps g1 (.cells #[.int .u8 k', .int .i64 n'] 29)
  refine ⟨below_set (hB.alloc hB.size _) hat _, fun j cur t hj ht => ?_, ?_, (g2.below (below1 w' _)).set k1 _⟩
  · have hne : j ≠ Bat := by
      intro e
      rw [e, g1] at hj
      rcases ht with rfl | rfl <;> simp at hj
    exact (heap_setCell_other _ ⟨Bat, 0, none⟩ j _ hne).trans (Below.heap_alloc w' _ j (Array.getElem?_eq_some_iff.1 hj).1)
  · have := heap_setCell_same _ Bat 0 _ 3 (.int .i64 i) k1
    simpa using this

set_option maxRecDepth 20000 in
set_option maxHeartbeats 1000000 in
theorem each_key (h : Hp n₀ bh b vw vb w lim used M) {q : Ob} (hq : q ∈ M) (cnt room k : Nat) (n : Int) (hl : 2 * cnt ≤ q.ws.length) {Bat Bs Ba : Nat} (hat : w.heap.size ≤ Bat) (W : World) (hB : Below w.heap.size w W) (g1 : W.heap[Bat]? = some (.cells #[.int .i64 0] 3 (0, 0))) (g2 : LikeBox W Bs Ba k n) :
    Calls Tryz.prog 62 #[mem bh, .agg #[.int .i64 cnt, .int .i64 room, .int .i64 q.at_, .int .i64 0], .func (.func 99) #[] #[.pointer (some ⟨Bat, 0, none⟩), .pointer (some ⟨Bs, 0, none⟩)]] W fun e w' => ((e = .returned (.bool true) ∧ NoKey q.ws cnt k n ∧ ∃ a0 : Int, w'.heap[Bat]? = some (.cells #[.int .i64 a0] 3 (0, 0))) ∨ (∃ i : Nat, e = .returned (.bool false) ∧ KeyAt q.ws cnt k n i ∧ w'.heap[Bat]? = some (.cells #[.int .i64 i] 3 (0, 0)))) ∧ Below w.heap.size w w' := by
  have h20 := at_lt h hq
  refine (each_keyAt1 bh cnt room q.at_ 0 (by omega) Bat Bs
    (fun i W => Below w.heap.size w W ∧ (∃ a0 : Int, W.heap[Bat]? = some (.cells #[.int .i64 a0] 3 (0, 0))) ∧ LikeBox W Bs Ba k n ∧ ∀ j, j < i → j % 2 = 0 → ¬ (k = valK q.ws (2 * j) ∧ n = valN q.ws (2 * j)))
    (fun i W => Below w.heap.size w W ∧ W.heap[Bat]? = some (.cells #[.int .i64 i] 3 (0, 0)) ∧ KeyAt q.ws cnt k n i)
    (fun i => valK q.ws (2 * i)) (fun i => valN q.ws (2 * i)) W ⟨hB, ⟨0, g1⟩, g2, by omega⟩
    (fun i w' w'' ⟨r1, ⟨a0, r2⟩, r3, r4⟩ hB' => ⟨r1.trans (hB'.mono r1.size), ⟨a0, (hB'.block _ (Array.getElem?_eq_some_iff.1 r2).1).trans r2⟩, r3.below hB', r4⟩)
    (fun i w' hi ⟨r1, ⟨a0, r2⟩, r3, r4⟩ => by
      have := value_at (h.below r1) hq cnt room 0 i (by omega) (by omega)
      rw [Nat.zero_add] at this
      exact this.mono (fun e w'' ⟨h1, hB'⟩ => ⟨h1, ⟨r1.trans (hB'.mono r1.size), ⟨a0, (hB'.block _ (Array.getElem?_eq_some_iff.1 r2).1).trans r2⟩, r3.below hB', r4⟩, KeepT.below hB'⟩))
    (fun i w' hi ⟨r1, ⟨a0, r2⟩, r3, r4⟩ => by
      obtain ⟨s1, s2, s3, s4⟩ := key_set (i := i) (k' := valK q.ws (2 * i)) (n' := valN q.ws (2 * i)) r1 hat r2 r3
      rcases Nat.mod_two_eq_zero_or_one i with hp | hp
      · refine (keyAt1_even i k (valK q.ws (2 * i)) n (valN q.ws (2 * i)) hp (by omega) w' r2 r3).mono ?_
        rintro e w'' ⟨rfl, hB'⟩
        have hlt : Bat < w'.heap.size + 1 := by have := (Array.getElem?_eq_some_iff.1 r2).1; omega
        have hsz : ((w'.alloc (.cells #[.int .u8 (valK q.ws (2 * i)), .int .i64 (valN q.ws (2 * i))] 29)).setCell ⟨Bat, 0, none⟩ (.int .i64 i)).heap.size = w'.heap.size + 1 := by simp [World.setCell]
        have t1 := s1.trans (hB'.mono (by have := r1.size; omega))
        have t3 := (hB'.block Bat hlt).trans s3
        have t4 := s4.below (by rw [hsz]; exact hB')
        have t2 := s2.trans (KeepT.below (by rw [hsz]; exact hB'))
        by_cases hc : k = valK q.ws (2 * i) ∧ n = valN q.ws (2 * i)
        · exact ⟨.inr ⟨by simp [hc.1.symm, hc.2.symm], t1, t3, hi, hp, hc, r4⟩, t2⟩
        · refine ⟨.inl ⟨by simp only [hc, decide_false, Bool.not_false], t1, ⟨i, t3⟩, t4, ?_⟩, t2⟩
          intro j hj hj2
          rcases Nat.lt_succ_iff_lt_or_eq.1 hj with hj | rfl
          · exact r4 j hj hj2
          · exact hc
      · refine (keyAt1_odd i k (valK q.ws (2 * i)) n (valN q.ws (2 * i)) hp (by omega) w' r2).mono ?_
        rintro e w'' ⟨rfl, rfl⟩
        refine ⟨.inl ⟨rfl, s1, ⟨i, s3⟩, s4, ?_⟩, s2⟩
        intro j hj hj2
        rcases Nat.lt_succ_iff_lt_or_eq.1 hj with hj | rfl
        · exact r4 j hj hj2
        · omega)).mono ?_
  rintro e w' ⟨⟨he, r1, r2, r3, r4⟩ | ⟨i, hi, he, r1, r2, r3⟩, _⟩
  · exact ⟨.inl ⟨he, r4, r2⟩, r1⟩
  · exact ⟨.inr ⟨i, he, r3, r2⟩, r1⟩

set_option maxRecDepth 20000 in
set_option maxHeartbeats 1000000 in
theorem keyAt_plain (h : Hp n₀ bh b vw vb w lim used M) {q : Ob} (hq : q ∈ M) (cnt room k : Nat) (n : Int) (hk : k ≠ 3) (hk0 : k ≠ 0) (hl : 2 * cnt ≤ q.ws.length) :
    Calls Tryz.prog 58 #[mem bh, .agg #[.int .i64 cnt, .int .i64 room, .int .i64 q.at_, .int .i64 0], .agg #[.int .u8 k, .int .i64 n]] w fun e w' => ((∃ i : Nat, KeyAt q.ws cnt k n i ∧ e = .returned (.tuple #[.int .i64 i, .bool true])) ∨ (NoKey q.ws cnt k n ∧ ∃ i : Int, e = .returned (.tuple #[.int .i64 i, .bool false]))) ∧ Below w.heap.size w w' := by
  have h20 := at_lt h hq
  have H1 := fun w => like_plain (bh := bh) k n hk hk0 w
  unfold mem at H1 ⊢
  go_enter Tryz.func58, Tryz.ntmps58
  go_wp2_with (first
    | (go_at_call 98; refine (H1 _).mono ?_; clear H1; rintro e w1 ⟨Ba, hBa, rfl, gBa, hB1⟩; obtain ⟨m1, m2, m3, hBz⟩ := later3o hB1
       obtain ⟨F, hF⟩ : ∃ F : Obj, F = .cells #[.func (.func 121) #[] #[.pointer (some ⟨Ba, 0, none⟩)]] 63 := ⟨_, rfl⟩
       have k1 := alloc_keeps (alloc_keeps m1 (.cells #[.func (.func 121) #[] #[.pointer (some ⟨Ba, 0, none⟩)]] 63)) (.cells #[.int .i64 0] 3)
       have k2 := alloc_keeps (alloc_keeps m2 (.cells #[.func (.func 121) #[] #[.pointer (some ⟨Ba, 0, none⟩)]] 63)) (.cells #[.int .i64 0] 3)
       have c0 := cell_row1 k1; have ⟨⟨d0, d1, d2, d3⟩, _⟩ := cell_row4 k2)
    | (go_at_call 62; go_loud (have HE := each_key h hq cnt room k n hl (Bat := w1.heap.size + 1) (Bs := w1.heap.size) (Ba := Ba) (by have := hBz.size; omega) ((w1.alloc (.cells #[.func (.func 121) #[] #[.pointer (some ⟨Ba, 0, none⟩)]] 63)).alloc (.cells #[.int .i64 0] 3)) (hBz.trans ((below2' w1 _ _).mono hBz.size)) (heap_two w1 _ _) ⟨alloc_keeps (heap_alloc_new w1 _) _, alloc_keeps (alloc_keeps gBa _) _⟩)
       unfold mem at HE; go_loud (refine HE.mono ?_); clear HE; rintro e w2 ⟨⟨rfl, r1, a0, r2⟩ | ⟨i, rfl, r1, r2⟩, hB2⟩ <;> have c9 := cell_row1 r2))
  · go_ret2
    exact ⟨.inr ⟨r1, a0, rfl⟩, hB2⟩
  · go_ret2
    exact ⟨.inl ⟨i, r1, rfl⟩, hB2⟩

end Go.Proofs.YtmahnedhnjlenaaGreat
