/- keyAt, of what is no text. -/
import Derived.Test.YtmahnedhnjlenaaObKey
namespace Go.Proofs.Ytmahnedhnjlenaa
set_option linter.unusedVariables false
set_option linter.unusedSimpArgs false
open Go.RowKit

variable {n₀ bh b lim used : Nat} {vw vb : Value} {w : World} {M : List Ob}

theorem run_store_func {P : Program} {w : World} {a : Addr} {f : Fn} {x y : Array Value} {m : Mode} : (store a (.func f x y) m).run P w = stored P w a (.func f x y) m := run_store P w a _ m rfl
attribute [local go_sem] run_store_func

theorem key_set {w w' : World} {Bat Bs Ba k i k' : Nat} {n n' : Int} {a0 : Value} (hB : Below w.heap.size w w') (hat : w.heap.size ≤ Bat) (g1 : w'.heap[Bat]? = some (.cells #[a0] 3 (0, 0))) (g2 : LikeBox w' Bs Ba k n) :
    Below w.heap.size w ((w'.alloc (.cells #[.int .u8 k', .int .i64 n'] 26)).setCell ⟨Bat, 0, none⟩ (.int .i64 i)) ∧ KeepT w' ((w'.alloc (.cells #[.int .u8 k', .int .i64 n'] 26)).setCell ⟨Bat, 0, none⟩ (.int .i64 i)) ∧
    ((w'.alloc (.cells #[.int .u8 k', .int .i64 n'] 26)).setCell ⟨Bat, 0, none⟩ (.int .i64 i)).heap[Bat]? = some (.cells #[.int .i64 i] 3 (0, 0)) ∧ LikeBox ((w'.alloc (.cells #[.int .u8 k', .int .i64 n'] 26)).setCell ⟨Bat, 0, none⟩ (.int .i64 i)) Bs Ba k n := by
  have k1 := alloc_keeps g1 (.cells #[.int .u8 k', .int .i64 n'] 26)
  refine ⟨below_set (hB.alloc hB.size _) hat _, fun j cur t hj ht => ?_, ?_, (g2.below (below1 w' _)).set k1 _⟩
  · have hne : j ≠ Bat := by
      intro e
      rw [e, g1] at hj
      rcases ht with rfl | rfl <;> simp at hj
    exact (heap_setCell_other _ ⟨Bat, 0, none⟩ j _ hne).trans (Below.heap_alloc w' _ j (Array.getElem?_eq_some_iff.1 hj).1)
  · have := heap_setCell_same _ Bat 0 _ 3 (.int .i64 i) k1
    simpa using this

set_option maxRecDepth 20000 in
set_option maxHeartbeats 1000000 in
theorem each_key (h : Hp n₀ bh b vw vb w lim used M) {q : Ob} (hq : q ∈ M) (cnt room k : Nat) (n : Int) (hl : 2 * cnt ≤ q.ws.length) {Bat Bs Ba : Nat} (hat : w.heap.size ≤ Bat) (W : World) (hB : Below w.heap.size w W) (g1 : W.heap[Bat]? = some (.cells #[.int .i64 0] 3 (0, 0))) (g2 : LikeBox W Bs Ba k n) :
    Calls Try.prog 62 #[mem bh, .agg #[.int .i64 cnt, .int .i64 room, .int .i64 q.at_, .int .i64 0], .func (.func 75) #[] #[.pointer (some ⟨Bat, 0, none⟩), .pointer (some ⟨Bs, 0, none⟩)]] W fun e w' => ((e = .returned (.bool true) ∧ NoKey q.ws cnt k n ∧ ∃ a0 : Int, w'.heap[Bat]? = some (.cells #[.int .i64 a0] 3 (0, 0))) ∨ (∃ i : Nat, e = .returned (.bool false) ∧ KeyAt q.ws cnt k n i ∧ w'.heap[Bat]? = some (.cells #[.int .i64 i] 3 (0, 0)))) ∧ Below w.heap.size w w' := by
  have h20 := at_lt h hq
  refine (each_keyAt1 bh cnt room q.at_ 0 (by omega) Bat Bs
    (fun i W => Below w.heap.size w W ∧ (∃ a0 : Int, W.heap[Bat]? = some (.cells #[.int .i64 a0] 3 (0, 0))) ∧ LikeBox W Bs Ba k n ∧ ∀ j, j < i → j % 2 = 0 → ¬ (k = valK q.ws (2 * j) ∧ n = valN q.ws (2 * j)))
    (fun i W => Below w.heap.size w W ∧ W.heap[Bat]? = some (.cells #[.int .i64 i] 3 (0, 0)) ∧ KeyAt q.ws cnt k n i)
    (fun i => valK q.ws (2 * i)) (fun i => valN q.ws (2 * i)) W ⟨hB, ⟨0, g1⟩, g2, by omega⟩
    (fun i w' w'' ⟨r1, ⟨a0, r2⟩, r3, r4⟩ hB' => ⟨r1.trans (hB'.mono r1.size), ⟨a0, (hB'.block _ (Array.getElem?_eq_some_iff.1 r2).1).trans r2⟩, r3.below hB', r4⟩)
    (fun i w' hi ⟨r1, ⟨a0, r2⟩, r3, r4⟩ => by
      have := value_at (h.below r1) hq cnt room 0 i (by omega) (by omega)
      rw [Nat.zero_add] at this
      exact this.mono (fun e w'' ⟨h1, hB'⟩ => ⟨h1, ⟨r1.trans (hB'.mono r1.size), ⟨a0, (hB'.block _ (Array.getElem?_eq_some_iff.1 r2).1).trans r2⟩, r3.below hB', r4⟩, KeepT.below hB'⟩))
    (fun i w' hi ⟨r1, ⟨a0, r2⟩, r3, r4⟩ => by
      obtain ⟨s1, s2, s3, s4⟩ := key_set (i := i) (k' := valK q.ws (2 * i)) (n' := valN q.ws (2 * i)) r1 hat r2 r3
      rcases Nat.mod_two_eq_zero_or_one i with hp | hp
      · refine (keyAt1_even i k (valK q.ws (2 * i)) n (valN q.ws (2 * i)) hp (by omega) w' r2 r3).mono ?_
        rintro e w'' ⟨rfl, hB'⟩
        have hlt : Bat < w'.heap.size + 1 := by have := (Array.getElem?_eq_some_iff.1 r2).1; omega
        have hsz : ((w'.alloc (.cells #[.int .u8 (valK q.ws (2 * i)), .int .i64 (valN q.ws (2 * i))] 26)).setCell ⟨Bat, 0, none⟩ (.int .i64 i)).heap.size = w'.heap.size + 1 := by simp [World.setCell]
        have t1 := s1.trans (hB'.mono (by have := r1.size; omega))
        have t3 := (hB'.block Bat hlt).trans s3
        have t4 := s4.below (by rw [hsz]; exact hB')
        have t2 := s2.trans (KeepT.below (by rw [hsz]; exact hB'))
        by_cases hc : k = valK q.ws (2 * i) ∧ n = valN q.ws (2 * i)
        · exact ⟨.inr ⟨by simp [hc.1.symm, hc.2.symm], t1, t3, hi, hp, hc, r4⟩, t2⟩
        · refine ⟨.inl ⟨by simp only [hc, decide_false, Bool.not_false], t1, ⟨i, t3⟩, t4, ?_⟩, t2⟩
          intro j hj hj2
          rcases Nat.lt_succ_iff_lt_or_eq.1 hj with hj | rfl
          · exact r4 j hj hj2
          · exact hc
      · refine (keyAt1_odd i k (valK q.ws (2 * i)) n (valN q.ws (2 * i)) hp (by omega) w' r2).mono ?_
        rintro e w'' ⟨rfl, rfl⟩
        refine ⟨.inl ⟨rfl, s1, ⟨i, s3⟩, s4, ?_⟩, s2⟩
        intro j hj hj2
        rcases Nat.lt_succ_iff_lt_or_eq.1 hj with hj | rfl
        · exact r4 j hj hj2
        · omega)).mono ?_
  rintro e w' ⟨⟨he, r1, r2, r3, r4⟩ | ⟨i, hi, he, r1, r2, r3⟩, _⟩
  · exact ⟨.inl ⟨he, r4, r2⟩, r1⟩
  · exact ⟨.inr ⟨i, he, r3, r2⟩, r1⟩

set_option maxRecDepth 20000 in
set_option maxHeartbeats 1000000 in
theorem keyAt_plain (h : Hp n₀ bh b vw vb w lim used M) {q : Ob} (hq : q ∈ M) (cnt room k : Nat) (n : Int) (hk : k ≠ 3) (hk0 : k ≠ 0) (hl : 2 * cnt ≤ q.ws.length) :
    Calls Try.prog 52 #[mem bh, .agg #[.int .i64 cnt, .int .i64 room, .int .i64 q.at_, .int .i64 0], .agg #[.int .u8 k, .int .i64 n]] w fun e w' => ((∃ i : Nat, KeyAt q.ws cnt k n i ∧ e = .returned (.tuple #[.int .i64 i, .bool true])) ∨ (NoKey q.ws cnt k n ∧ ∃ i : Int, e = .returned (.tuple #[.int .i64 i, .bool false]))) ∧ Below w.heap.size w w' := by
  have h20 := at_lt h hq
  have H1 := fun w => like_plain (bh := bh) k n hk hk0 w
  unfold mem at H1 ⊢
  go_enter Try.func52, Try.ntmps52
  go_wp2_with (first
    | (go_at_call 28; refine (H1 _).mono ?_; clear H1; rintro e w1 ⟨Ba, hBa, rfl, gBa, hB1⟩; obtain ⟨m1, m2, m3, hBz⟩ := later3o hB1
       obtain ⟨F, hF⟩ : ∃ F : Obj, F = .cells #[.func (.func 51) #[] #[.pointer (some ⟨Ba, 0, none⟩)]] 65 := ⟨_, rfl⟩
       have k1 := alloc_keeps (alloc_keeps m1 (.cells #[.func (.func 51) #[] #[.pointer (some ⟨Ba, 0, none⟩)]] 65)) (.cells #[.int .i64 0] 3)
       have k2 := alloc_keeps (alloc_keeps m2 (.cells #[.func (.func 51) #[] #[.pointer (some ⟨Ba, 0, none⟩)]] 65)) (.cells #[.int .i64 0] 3)
       have c0 := cell_row1 k1; have ⟨⟨d0, d1, d2, d3⟩, _⟩ := cell_row4 k2)
    | (go_at_call 62; go_loud (have HE := each_key h hq cnt room k n hl (Bat := w1.heap.size + 1) (Bs := w1.heap.size) (Ba := Ba) (by have := hBz.size; omega) ((w1.alloc (.cells #[.func (.func 51) #[] #[.pointer (some ⟨Ba, 0, none⟩)]] 65)).alloc (.cells #[.int .i64 0] 3)) (hBz.trans ((below2' w1 _ _).mono hBz.size)) (heap_two w1 _ _) ⟨alloc_keeps (heap_alloc_new w1 _) _, alloc_keeps (alloc_keeps gBa _) _⟩)
       unfold mem at HE; go_loud (refine HE.mono ?_); clear HE; rintro e w2 ⟨⟨rfl, r1, a0, r2⟩ | ⟨i, rfl, r1, r2⟩, hB2⟩ <;> have c9 := cell_row1 r2))
  · go_ret2
    exact ⟨.inr ⟨r1, a0, rfl⟩, hB2⟩
  · go_ret2
    exact ⟨.inl ⟨i, r1, rfl⟩, hB2⟩

end Go.Proofs.Ytmahnedhnjlenaa
