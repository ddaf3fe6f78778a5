/- alive: some answers. -/
import Derived.Test.YtkegkpaepkolhaaModel
namespace Go.Proofs.Ytkegkpaepkolhaa
open Go.RowKit

set_option maxHeartbeats 4000000 in
theorem alive_in (w : World) : Calls Try.prog 6 #[] w fun e w' => e = .returned (.bool true) ∧ Below w.heap.size w w' := by
  have a1 := newM 10 w (by omega) (by omega)
  go_enter Try.func6, Try.ntmps6
  go_wp2_with (first
    | (go_at_call 7; refine a1.mono ?_; clear a1; rintro e w1 ⟨bh, b, vw1, vb1, rfl, hp1, hB1⟩
       have a2 := allocM hp1 3 2 (by omega) (by omega) (by omega))
    | (go_at_call 8; refine a2.mono ?_; clear a2; rintro e w2 ⟨rfl, vw2, vb2, hp2', hS2⟩
       have hB2 := hB1.trans (hp1.stepBelow hS2)
       have hp2 : Hp w.heap.size bh b vw2 vb2 w2 10 3 [⟨0, 3, [0, 0]⟩] := hp2'
       clear hp2' hp1 hS2 hB1
       have a3 := allocM hp2 7 2 (by omega) (by omega) (by omega))
    | (go_at_call 8; refine a3.mono ?_; clear a3; rintro e w3 ⟨rfl, vw3, vb3, hp3', hS3⟩
       have hB3 := hB2.trans (hp2.stepBelow hS3)
       have hp3 : Hp w.heap.size bh b vw3 vb3 w3 10 6 ([⟨0, 3, [0, 0]⟩] ++ ⟨3, 7, [0, 0]⟩ :: []) := hp3'
       clear hp3' hp2 hS3 hB2
       have a4 := writeM hp3 1 7 (by simp) (by omega))
    | (go_at_call 15; refine a4.mono ?_; clear a4; rintro e w4 ⟨rfl, hp4', hS4⟩
       have hB4 := hB3.trans (hp3.stepBelow hS4)
       have hp4 : Hp w.heap.size bh b vw3 vb3 w4 10 6 ([⟨0, 3, [0, 0]⟩] ++ ⟨3, 7, [0, 7]⟩ :: []) := hp4'
       clear hp4' hp3 hS4 hB3
       have a5 := readM hp4 1 7 rfl
       have a6 := allocM_full hp4 4 4 (by omega) (by omega) (by omega) (by omega))
    | (go_at_call 16; refine a5.mono ?_; clear a5; rintro e w5 ⟨rfl, rfl⟩)
    | (go_at_call 8; refine a6.mono ?_; clear a6; rintro e w6 ⟨rfl, q, rfl⟩
       have hp6 := hp4.drewN q
       have a7 := allocM hp6 4 3 (by omega) (by omega) (by omega))
    | (go_at_call 8; refine a7.mono ?_; clear a7; rintro e w7 ⟨rfl, vw7, vb7, hp7', hS7⟩
       have hB7 := (below_drewN hB4 q).trans (hp6.stepBelow hS7)
       have hp7 : Hp w.heap.size bh b vw7 vb7 w7 10 10 ([] ++ [⟨0, 3, [0, 0]⟩] ++ ⟨3, 7, [0, 7]⟩ :: [⟨6, 4, [0, 0, 0]⟩]) := hp7'
       clear hp7' hp6 hp4 hS7 hB4
       have a8 := moveM hp7 0 (by simp) (by simp) (by simp))
    | (go_at_call 9; refine a8.mono ?_; clear a8; rintro e w8 ⟨rfl, hp8', hS8⟩
       have hB8 := hB7.trans (hp7.stepBelow hS8)
       have hp8 : Hp w.heap.size bh b vw7 vb7 w8 10 10 ([] ++ ⟨0, 7, [0, 7]⟩ :: [⟨6, 4, [0, 0, 0]⟩]) := hp8'
       clear hp8' hp7 hS8 hB7
       have a9 := readM hp8 1 7 rfl
       have a10 := new_bad 0 w8 (by omega)
       have a11 := usedM hp8
       have a12 := placesM hp8)
    | (go_at_call 16; refine a9.mono ?_; clear a9; rintro e w9 ⟨rfl, rfl⟩)
    | (go_at_call 7; refine a10.mono ?_; clear a10; rintro e w10 ⟨rfl, rfl⟩)
    | (go_at_call 13; refine a11.mono ?_; clear a11; rintro e w11 ⟨rfl, rfl⟩)
    | (go_at_call 11; refine a12.mono ?_; clear a12; rintro e w12 ⟨p, c, rfl, _, hB12⟩))
  go_ret
  exact ⟨rfl, hB8.trans (hB12.mono hB8.size)⟩

end Go.Proofs.Ytkegkpaepkolhaa
