/- HeapFills: the walk. -/
import Derived.Test.YtkegkpaepkolhaaAlive
namespace Go.Proofs.Ytkegkpaepkolhaa
open Go.RowKit

/-- What is told of a slice of numbers that came in: each of its numbers, in every later world. -/
def Told (k : IntKind) (B : Nat) (w : World) (p : Option Addr) (len : Nat) : Prop :=
  ∀ j, j < len → ∃ b0 off : Nat, p = some ⟨b0, off, none⟩ ∧ ∃ z : Nat, z < B ∧ ∀ w', Below w.heap.size w w' → w'.cell? ⟨b0, off + j, none⟩ = some (.int k z)

set_option maxRecDepth 20000 in
set_option maxHeartbeats 1000000 in
theorem fills_walk (words : Nat) (p : Option Addr) (len cap : Nat) (w : World) (hw : words < 65536) (_hlen : len ≤ maxLen) (hc : Told .u16 65536 w p len) :
    Calls Try.prog 5 #[.int .u16 words, .slice p len cap] w fun e w' => e = .returned (.bool true) ∧ Below w.heap.size w w' := by
  unfold maxLen at _hlen
  have a1 := newM (1 + words) w (by omega) (by omega)
  go_enter Try.func5, Try.ntmps5
  go_wp2_with (first
    | (go_at_call 7; refine a1.mono ?_; clear a1; rintro e w1 ⟨bh, b, vw1, vb1, rfl, hp1, hB1⟩; have a2 := alive_in w1)
    | (go_at_call 6; refine a2.mono ?_; clear a2; rintro e w2 ⟨rfl, hB2⟩))
  have hp2 := hp1.below hB2
  have hB0 := hB1.trans (hB2.mono hB1.size)
  clear hp1 hB1 hB2
  go_loopw [8, 9] (fun u i wr => ∃ (k used : Nat) (M : List Ob) (vw vb : Value), i = .int .i64 k ∧ u = .int .i64 used ∧ k ≤ 300 ∧ Hp w.heap.size bh b vw vb wr (1 + words) used M ∧ Below w.heap.size w wr) (fun _ i _ => 300 - (intOf i).toNat)
  case atStart => exact ⟨0, 0, [], vw1, vb1, rfl, rfl, by omega, hp2, hB0⟩
  case round =>
    obtain ⟨k, used, M, vw, vb, rfl, rfl, hk, hp, hB⟩ := hrel
    clear hp2 hB0
    have hle := hp.le
    by_cases hk2 : k < len ∧ k < 300
    · obtain ⟨hk3, hk4⟩ := hk2
      obtain ⟨b0, off, rfl, z, hz, hcell⟩ := hc k hk3
      have hcz := hcell wr hB
      clear hcell hc
      obtain ⟨n, hn⟩ : ∃ n : Nat, (z : Int) % 2000 = n := ⟨z % 2000, by simp⟩
      have hn2 : n < 2000 := by omega
      by_cases hfit : used + n + 1 ≤ 1 + words
      · have a3 := allocM hp 3 n (by omega) (by omega) hfit
        have hfit' : ¬ (1 + (words : Int) < used + n + 1) := by omega
        go_wp2_with (go_at_call 8; refine a3.mono ?_; clear a3; rintro e w3 ⟨rfl, vw3, vb3, hp3, hS3⟩)
        go_roundw
        case rel => exact ⟨k + 1, used + n + 1, _, vw3, vb3, by go_num, by go_num, by omega, hp3, hB.trans (hp.stepBelow hS3)⟩
        case measure => simp [intOf]; omega
      · have a3 := allocM_full hp 3 n (by omega) (by omega) (by omega) (by omega)
        have hfit' : (1 + (words : Int) < used + n + 1) := by omega
        go_wp2_with (go_at_call 8; refine a3.mono ?_; clear a3; rintro e w3 ⟨rfl, q, rfl⟩)
        go_roundw
        case rel => exact ⟨k + 1, used, M, vw, vb, by go_num, rfl, by omega, hp.drewN q, below_drewN hB q⟩
        case measure => simp [intOf]; omega
    · have a3 := usedM hp
      by_cases hk3 : k < len
      · have hk4 : ¬ k < 300 := by omega
        go_wp2_with (go_at_call 13; refine a3.mono ?_; clear a3; rintro e w3 ⟨rfl, rfl⟩)
        go_ret
        exact ⟨by simp, hB⟩
      · go_wp2_with (go_at_call 13; refine a3.mono ?_; clear a3; rintro e w3 ⟨rfl, rfl⟩)
        go_ret
        exact ⟨by simp, hB⟩

end Go.Proofs.Ytkegkpaepkolhaa
