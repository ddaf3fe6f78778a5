/- keyLike and keyAt, of what is no text. -/
import Derived.Test.YtligpokpdahifaaObKey
namespace Go.Proofs.Ytligpokpdahifaa
set_option linter.unusedVariables false
set_option linter.unusedSimpArgs false
open Go.RowKit

variable {n₀ bh b lim used : Nat} {vw vb : Value} {w : World} {M : List Ob}

theorem run_store_func {P : Program} {w : World} {a : Addr} {f : Fn} {x y : Array Value} {m : Mode} : (store a (.func f x y) m).run P w = stored P w a (.func f x y) m := run_store P w a _ m rfl
attribute [local go_sem] run_store_func

set_option maxRecDepth 20000 in
set_option maxHeartbeats 1000000 in
theorem keyLike_plain (cnt room inn k : Nat) (n : Int) (hk : k ≠ 3) (hk0 : k ≠ 0) (w : World) :
    Calls Try.prog 75 #[mem bh, .agg #[.int .i64 cnt, .int .i64 room, .int .i64 inn, .int .i64 0], .agg #[.int .u8 k, .int .i64 n]] w fun e w' => ∃ Bm Bb Bk Bl Ba, e = .returned (.func (.func 85) #[] #[.pointer (some ⟨Bm, 0, none⟩), .pointer (some ⟨Bb, 0, none⟩), .pointer (some ⟨Bk, 0, none⟩), .pointer (some ⟨Bl, 0, none⟩)]) ∧
      LikeAt w' Bm Bb Bk Bl Ba bh cnt room inn k n ∧ Below w.heap.size w w' := by
  have H1 := fun w => like_plain (bh := bh) k n hk hk0 w
  have hk1 : ((k : Int) == 0) = false := by simp; omega
  have hk3 : ((k : Int) == 3) = false := by simp; omega
  unfold mem at H1 ⊢
  clear hk hk0
  go_enter Try.func75, Try.ntmps75
  go_wp2_with (first
    | (go_at_call 28; refine (H1 _).mono ?_; clear H1; rintro e w1 ⟨Ba, hBa, rfl, gBa, hB1⟩; obtain ⟨m1, m2, m3, hBz⟩ := later3o hB1
       have k3 := alloc_keeps m3 (.cells #[.func (.func 51) #[] #[.pointer (some ⟨Ba, 0, none⟩)]] 65)
       have ⟨x0, x1⟩ := cell_row2 k3))
  go_ret
  exact ⟨w.heap.size, w.heap.size + 1, w.heap.size + 1 + 1, w1.heap.size, Ba, rfl, ⟨alloc_keeps m1 _, alloc_keeps m2 _, alloc_keeps m3 _, heap_alloc_new w1 _, alloc_keeps gBa _⟩, hBz.alloc hBz.size _⟩

theorem wrap_back (W : Nat) (h : W < 18446744073709551616) : (W : Int) = IntKind.u64.wrap (wrap64 (W : Int)) := by
  rw [IntKind.wrap_u64]
  simp only [wrap64]
  omega

theorem word_told {ws : List Nat} {i k : Nat} {n : Int} (hW : ws.getD (i + 1) 0 < 18446744073709551616) (hk0 : k ≠ 0) (h : k = valK ws i ∧ n = valN ws i) : ((ws.getD (i + 1) 0 : Nat) : Int) = IntKind.u64.wrap n := by
  obtain ⟨h1, rfl⟩ := h
  unfold valK at h1
  unfold valN
  split at h1
  · rename_i hc
    rw [if_pos hc]
    exact wrap_back _ hW
  · exact (hk0 h1).elim

theorem keyLike2_at (h : Hp n₀ bh b vw vb w lim used M) {q : Ob} (hq : q ∈ M) (cnt room k : Nat) (n : Int) (hk0 : k ≠ 0) {Bm Bb Bk Bl Ba : Nat} (hL : LikeAt w Bm Bb Bk Bl Ba bh cnt room q.at_ k n) (i : Nat) (hi : i ≤ 1048576) :
    Calls Try.prog 85 #[.int .i64 i, .pointer (some ⟨Bm, 0, none⟩), .pointer (some ⟨Bb, 0, none⟩), .pointer (some ⟨Bk, 0, none⟩), .pointer (some ⟨Bl, 0, none⟩)] w fun e w' => e = .returned (.bool (decide (k = valK q.ws (2 * i) ∧ n = valN q.ws (2 * i)))) ∧ Below w.heap.size w w' := by
  obtain ⟨l, r, hM⟩ := List.append_of_mem hq
  have hlt : q.ws.getD (2 * i + 1) 0 < 18446744073709551616 := by
    have := h
    rw [hM] at this
    exact this.getD_lt _
  refine keyLike2_in hL i hi (W := q.ws.getD (2 * i + 1) 0) (fun w' hB => ?_) (fun w' hB => ?_) (word_told hlt hk0)
  · have := h.below hB
    rw [hM] at this
    exact oword_in this (2 * i + 1)
  · have := value_at (h.below hB) hq cnt room 0 i (by omega) hi
    rw [Nat.zero_add] at this
    exact this

set_option maxRecDepth 20000 in
set_option maxHeartbeats 1000000 in
theorem keyAt_plain (h : Hp n₀ bh b vw vb w lim used M) {q : Ob} (hq : q ∈ M) (cnt room k : Nat) (n : Int) (hk : k ≠ 3) (hk0 : k ≠ 0) (hl : 2 * cnt ≤ q.ws.length) :
    Calls Try.prog 52 #[mem bh, .agg #[.int .i64 cnt, .int .i64 room, .int .i64 q.at_, .int .i64 0], .agg #[.int .u8 k, .int .i64 n]] w fun e w' => ((∃ i : Nat, KeyAt q.ws cnt k n i ∧ e = .returned (.tuple #[.int .i64 i, .bool true])) ∨ (NoKey q.ws cnt k n ∧ ∃ i : Int, e = .returned (.tuple #[.int .i64 i, .bool false]))) ∧ Below w.heap.size w w' := by
  have h20 := at_lt h hq
  have H1 := fun w => keyLike_plain (bh := bh) cnt room q.at_ k n hk hk0 w
  have HK0 : Hid _ := hk0
  unfold mem at H1 ⊢
  clear hk hk0
  go_enter Try.func52, Try.ntmps52
  go_wp2_with (first
    | (go_at_call 75; refine (H1 _).mono ?_; clear H1; rintro e w1 ⟨Bm, Bb, Bk, Bl, Ba, rfl, hL, hB1⟩; obtain ⟨m1, m2, m3, hBz⟩ := later3o hB1))
  go_loopw [9] (fun p wr => ∃ i : Nat, p = .int .i64 i ∧ i % 2 = 0 ∧ i ≤ cnt + 1 ∧ Below w1.heap.size w1 wr ∧ ∀ j, j < i → j % 2 = 0 → ¬ (k = valK q.ws (2 * j) ∧ n = valN q.ws (2 * j))) (fun p _ => cnt + 2 - (intOf p).toNat)
  case atStart => exact ⟨0, rfl, rfl, by omega, Below.refl _ _, by omega⟩
  case round =>
    obtain ⟨i, rfl, hp, hic, hB, hno⟩ := hrel
    have hBr := hBz.trans (hB.mono hBz.size)
    have m2' := (hB.block _ (Array.getElem?_eq_some_iff.1 m2).1).trans m2
    have ⟨⟨c0, c1, c2, c3⟩, _⟩ := cell_row4 m2'
    have HN : Hid _ := hno
    clear hno
    by_cases hi : i < cnt
    · have hi' : (i : Int) < (cnt : Int) := by omega
      have H2 := keyLike2_at (h.below hBr) hq cnt room k n HK0.out (hL.below hB) i (by omega)
      by_cases hc : k = valK q.ws (2 * i) ∧ n = valN q.ws (2 * i)
      · rw [show decide (k = valK q.ws (2 * i) ∧ n = valN q.ws (2 * i)) = true by simpa using hc] at H2
        have HC : Hid _ := hc
        clear hc
        go_wp2_with (first
          | (go_at_call 85; refine H2.mono ?_; clear H2; rintro e w2 ⟨rfl, hB2⟩))
        go_ret2
        exact ⟨.inl ⟨i, ⟨hi, hp, HC.out, HN.out⟩, rfl⟩, hBr.trans (hB2.mono hBr.size)⟩
      · rw [show decide (k = valK q.ws (2 * i) ∧ n = valN q.ws (2 * i)) = false by simpa using hc] at H2
        have HC : Hid _ := hc
        clear hc
        go_wp2_with (first
          | (go_at_call 85; refine H2.mono ?_; clear H2; rintro e w2 ⟨rfl, hB2⟩))
        go_roundw
        case rel =>
          refine ⟨i + 2, by simp, by omega, by omega, hB.trans (hB2.mono hB.size), fun j hj hj2 => ?_⟩
          by_cases hji : j < i
          · exact HN.out j hji hj2
          · have : j = i := by omega
            rw [this]; exact HC.out
        case measure => simp [intOf]; omega
    · have hi' : ¬ (i : Int) < (cnt : Int) := by omega
      go_wp2
      go_ret2
      exact ⟨.inr ⟨fun j hj hj2 => HN.out j (by omega) hj2, 0, rfl⟩, hBr⟩

end Go.Proofs.Ytligpokpdahifaa
