/- The chapter's heap, and what is told of it. -/
import Derived.Test.YtampilfebmfhaaaGcCollect
namespace Go.Proofs.Ytampilfebmfhaaa
set_option linter.unusedVariables false
set_option linter.unusedSimpArgs false
open Go.RowKit

variable {w : World}

set_option maxRecDepth 20000 in
set_option maxHeartbeats 1000000 in
theorem same_vals {n c1 c2 : Nat} {p1 p2 : Option Addr} {vs : List Vl} (hL : n = vs.length) (hn : n ≤ 1000000) (h1 : Vals w p1 vs) (h2 : Vals w p2 vs) :
    Calls Try.prog 13 #[.slice p1 n c1, .slice p2 n c2] w fun e w' => e = .returned (.bool true) ∧ Below w.heap.size w w' := by
  have HL : Hid _ := hL
  clear hL
  go_enter Try.func13, Try.ntmps13
  go_wp2
  go_loopw [5] (fun k wr => ∃ j : Nat, k = .int .i64 j ∧ j ≤ n ∧ Below w.heap.size w wr) (fun k _ => n - (intOf k).toNat)
  case atStart => exact ⟨0, rfl, by omega, Below.refl _ _⟩
  case round =>
    obtain ⟨j, rfl, hj, hB⟩ := hrel
    by_cases hjn : j < n
    · obtain ⟨v, hvj⟩ : ∃ v, vs[j]? = some v := ⟨vs[j]'(by rw [← HL.out]; exact hjn), by simp⟩
      obtain ⟨b1, o1, rfl, c0, c1⟩ := (h1.below hB) j v hvj
      obtain ⟨b2, o2, rfl, d0, d1⟩ := (h2.below hB) j v hvj
      have hjn' : (j : Int) < (n : Int) := by omega
      clear hvj h1 h2
      go_wp2
      go_quiet (fail)
      go_wp2
      go_roundw
      case rel => exact ⟨j + 1, by simp, by omega, below_drewN' hB _⟩
      case measure => simp [intOf]; omega
    · have hq : ¬ ((j : Int) < (n : Int)) := by omega
      clear h1 h2
      go_wp2
      go_ret
      exact ⟨rfl, hB⟩

/-- Values in a block. -/
theorem vals_block {B : Nat} {t : TypeId} {fr : Nat × Nat} {vs : List Vl} (h : w.heap[B]? = some (.cells (vcells vs).toArray t fr)) : Vals w (some ⟨B, 0, none⟩) vs := by
  intro j v hj
  obtain ⟨h1, h2⟩ := vcells_get vs j v hj
  refine ⟨B, 0, rfl, ?_, ?_⟩
  · simp only [World.cell?, h]; simpa using h1
  · simp only [World.cell?, h]; simpa using h2

/-- Places in a block. -/
theorem row_block {B e : Nat} {xs : List Value} (h : w.heap[B]? = some (.cells xs.toArray e (0, 0))) (hl : xs.length ≤ 1048576) : w.ownsRow 0 e 1 (.slice (some ⟨B, 0, none⟩) xs.length xs.length) xs.length xs :=
  ⟨by simp, .inr ⟨B, xs.length, xs.toArray, rfl, Nat.zero_le _, h, Nat.le_refl _, by unfold maxLen; omega, by simp, by simp⟩⟩

def exM : List Ob := [⟨0, 3, [0, 0]⟩, ⟨3, 8, [0, 0, 7, 11]⟩, ⟨8, 4, [2, 4]⟩, ⟨11, 7, [4, 8]⟩, ⟨14, 3, [0]⟩]

set_option maxRecDepth 20000 in
set_option maxHeartbeats 4000000 in
theorem example_in (w : World) : Calls Try.prog 15 #[] w fun e w' => ∃ bh b vw vb, e = .returned (.pointer (some ⟨bh, 0, none⟩)) ∧ Hp w.heap.size bh b vw vb w' 30 16 exM ∧ Below w.heap.size w w' := by
  have a0 := newM 30 w (by omega) (by omega)
  go_enter Try.func15, Try.ntmps15
  go_wp2_with (first
    | (go_at_call 16; refine a0.mono ?_; clear a0; rintro e w0 ⟨bh, b, vw0, vb0, rfl, hp0, hB0⟩
       have a1 := allocM hp0 3 2 (by omega) (by omega) (by omega))
    | (go_at_call 34; refine a1.mono ?_; clear a1; rintro e w1 ⟨rfl, vw1, vb1, hp1', hS1⟩
       have hB1 := hB0.trans (hp0.stepBelow hS1)
       have hp1 : Hp w.heap.size bh b vw1 vb1 w1 30 3 [⟨0, 3, [0, 0]⟩] := hp1'
       clear hp1' hp0 hS1 hB0
       have a2 := allocM hp1 8 4 (by omega) (by omega) (by omega))
    | (go_at_call 34; refine a2.mono ?_; clear a2; rintro e w2 ⟨rfl, vw2, vb2, hp2', hS2⟩
       have hB2 := hB1.trans (hp1.stepBelow hS2)
       have hp2 : Hp w.heap.size bh b vw2 vb2 w2 30 8 [⟨0, 3, [0, 0]⟩, ⟨3, 8, [0, 0, 0, 0]⟩] := hp2'
       clear hp2' hp1 hS2 hB1
       have a3 := allocM hp2 4 2 (by omega) (by omega) (by omega))
    | (go_at_call 34; refine a3.mono ?_; clear a3; rintro e w3 ⟨rfl, vw3, vb3, hp3', hS3⟩
       have hB3 := hB2.trans (hp2.stepBelow hS3)
       have hp3 : Hp w.heap.size bh b vw3 vb3 w3 30 11 [⟨0, 3, [0, 0]⟩, ⟨3, 8, [0, 0, 0, 0]⟩, ⟨8, 4, [0, 0]⟩] := hp3'
       clear hp3' hp2 hS3 hB2
       have a4 := allocM hp3 7 2 (by omega) (by omega) (by omega))
    | (go_at_call 34; refine a4.mono ?_; clear a4; rintro e w4 ⟨rfl, vw4, vb4, hp4', hS4⟩
       have hB4 := hB3.trans (hp3.stepBelow hS4)
       have hp4 : Hp w.heap.size bh b vw4 vb4 w4 30 14 [⟨0, 3, [0, 0]⟩, ⟨3, 8, [0, 0, 0, 0]⟩, ⟨8, 4, [0, 0]⟩, ⟨11, 7, [0, 0]⟩] := hp4'
       clear hp4' hp3 hS4 hB3
       have a5 := allocM hp4 3 1 (by omega) (by omega) (by omega))
    | (go_at_call 34; refine a5.mono ?_; clear a5; rintro e w5 ⟨rfl, vw5, vb5, hp5', hS5⟩
       have hB5 := hB4.trans (hp4.stepBelow hS5)
       have hp5 : Hp w.heap.size bh b vw5 vb5 w5 30 16 [⟨0, 3, [0, 0]⟩, ⟨3, 8, [0, 0, 0, 0]⟩, ⟨8, 4, [0, 0]⟩, ⟨11, 7, [0, 0]⟩, ⟨14, 3, [0]⟩] := hp5'
       clear hp5' hp4 hS5 hB4
       have a6 := writeM (l := [⟨0, 3, [0, 0]⟩]) (o := ⟨3, 8, [0, 0, 0, 0]⟩) (r := [⟨8, 4, [0, 0]⟩, ⟨11, 7, [0, 0]⟩, ⟨14, 3, [0]⟩]) hp5 2 7 (by simp) (by omega))
    | (go_at_call 35; refine a6.mono ?_; clear a6; rintro e w6 ⟨rfl, hp6', hS6⟩
       have hB6 := hB5.trans (hp5.stepBelow hS6)
       have hp6 : Hp w.heap.size bh b vw5 vb5 w6 30 16 [⟨0, 3, [0, 0]⟩, ⟨3, 8, [0, 0, 7, 0]⟩, ⟨8, 4, [0, 0]⟩, ⟨11, 7, [0, 0]⟩, ⟨14, 3, [0]⟩] := hp6'
       clear hp6' hp5 hS6 hB5
       have a7 := writeM (l := [⟨0, 3, [0, 0]⟩]) (o := ⟨3, 8, [0, 0, 7, 0]⟩) (r := [⟨8, 4, [0, 0]⟩, ⟨11, 7, [0, 0]⟩, ⟨14, 3, [0]⟩]) hp6 3 11 (by simp) (by omega))
    | (go_at_call 35; refine a7.mono ?_; clear a7; rintro e w7 ⟨rfl, hp7', hS7⟩
       have hB7 := hB6.trans (hp6.stepBelow hS7)
       have hp7 : Hp w.heap.size bh b vw5 vb5 w7 30 16 [⟨0, 3, [0, 0]⟩, ⟨3, 8, [0, 0, 7, 11]⟩, ⟨8, 4, [0, 0]⟩, ⟨11, 7, [0, 0]⟩, ⟨14, 3, [0]⟩] := hp7'
       clear hp7' hp6 hS7 hB6
       have a8 := writeM (l := [⟨0, 3, [0, 0]⟩, ⟨3, 8, [0, 0, 7, 11]⟩]) (o := ⟨8, 4, [0, 0]⟩) (r := [⟨11, 7, [0, 0]⟩, ⟨14, 3, [0]⟩]) hp7 0 2 (by simp) (by omega))
    | (go_at_call 35; refine a8.mono ?_; clear a8; rintro e w8 ⟨rfl, hp8', hS8⟩
       have hB8 := hB7.trans (hp7.stepBelow hS8)
       have hp8 : Hp w.heap.size bh b vw5 vb5 w8 30 16 [⟨0, 3, [0, 0]⟩, ⟨3, 8, [0, 0, 7, 11]⟩, ⟨8, 4, [2, 0]⟩, ⟨11, 7, [0, 0]⟩, ⟨14, 3, [0]⟩] := hp8'
       clear hp8' hp7 hS8 hB7
       have a9 := writeM (l := [⟨0, 3, [0, 0]⟩, ⟨3, 8, [0, 0, 7, 11]⟩]) (o := ⟨8, 4, [2, 0]⟩) (r := [⟨11, 7, [0, 0]⟩, ⟨14, 3, [0]⟩]) hp8 1 4 (by simp) (by omega))
    | (go_at_call 35; refine a9.mono ?_; clear a9; rintro e w9 ⟨rfl, hp9', hS9⟩
       have hB9 := hB8.trans (hp8.stepBelow hS9)
       have hp9 : Hp w.heap.size bh b vw5 vb5 w9 30 16 [⟨0, 3, [0, 0]⟩, ⟨3, 8, [0, 0, 7, 11]⟩, ⟨8, 4, [2, 4]⟩, ⟨11, 7, [0, 0]⟩, ⟨14, 3, [0]⟩] := hp9'
       clear hp9' hp8 hS9 hB8
       have a10 := writeM (l := [⟨0, 3, [0, 0]⟩, ⟨3, 8, [0, 0, 7, 11]⟩, ⟨8, 4, [2, 4]⟩]) (o := ⟨11, 7, [0, 0]⟩) (r := [⟨14, 3, [0]⟩]) hp9 0 4 (by simp) (by omega))
    | (go_at_call 35; refine a10.mono ?_; clear a10; rintro e w10 ⟨rfl, hp10', hS10⟩
       have hB10 := hB9.trans (hp9.stepBelow hS10)
       have hp10 : Hp w.heap.size bh b vw5 vb5 w10 30 16 [⟨0, 3, [0, 0]⟩, ⟨3, 8, [0, 0, 7, 11]⟩, ⟨8, 4, [2, 4]⟩, ⟨11, 7, [4, 0]⟩, ⟨14, 3, [0]⟩] := hp10'
       clear hp10' hp9 hS10 hB9
       have a11 := writeM (l := [⟨0, 3, [0, 0]⟩, ⟨3, 8, [0, 0, 7, 11]⟩, ⟨8, 4, [2, 4]⟩]) (o := ⟨11, 7, [4, 0]⟩) (r := [⟨14, 3, [0]⟩]) hp10 1 8 (by simp) (by omega))
    | (go_at_call 35; refine a11.mono ?_; clear a11; rintro e w11 ⟨rfl, hp11', hS11⟩
       have hB11 := hB10.trans (hp10.stepBelow hS11)
       have hp11 : Hp w.heap.size bh b vw5 vb5 w11 30 16 [⟨0, 3, [0, 0]⟩, ⟨3, 8, [0, 0, 7, 11]⟩, ⟨8, 4, [2, 4]⟩, ⟨11, 7, [4, 8]⟩, ⟨14, 3, [0]⟩] := hp11'
       clear hp11' hp10 hS11 hB10
       skip))
  go_ret
  exact ⟨bh, b, vw5, vb5, rfl, hp11, hB11⟩

end Go.Proofs.Ytampilfebmfhaaa
