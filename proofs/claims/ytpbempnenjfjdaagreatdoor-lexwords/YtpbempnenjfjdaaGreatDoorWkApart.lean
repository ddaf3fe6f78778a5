/- Apart: no two lists that are held share memory. -/
import Derived.Test.YtpbempnenjfjdaaGreatDoorWkLook
import Derived.Test.YtpbempnenjfjdaaGreatDoorWkIdle
namespace Go.Proofs.YtpbempnenjfjdaaGreatDoor
set_option linter.unusedVariables false
set_option linter.unusedSimpArgs false
open Go.RowKit

variable {n₀ bk : Nat} {vp : Value} {w : World} {H : List He}

set_option maxRecDepth 20000 in
set_option maxHeartbeats 4000000 in
theorem apart_all (h : IsBk n₀ bk vp w H) (hA : ∀ x ∈ H, HA n₀ w x) (hP : Apt H) : Calls Tryz.prog 8 #[.pointer (some ⟨bk, 0, none⟩)] w fun e w' => e = .returned (.bool true) ∧
    KStep (fun k => mineH H k ∨ vp.ownBlock = some k) w w' := by
  have a34 := fill_word h hA hP
  have bb := h.blk
  clear h hA
  go_enter Tryz.func8, Tryz.ntmps8
  go_wp2_with ((go_at_call 13; refine (fill1 bb).mono ?_; rintro e W ⟨rfl, rfl⟩))
  go_wp2_with ((go_at_call 14; refine (fill2 bb).mono ?_; rintro e W ⟨rfl, rfl⟩))
  go_wp2_with ((go_at_call 15; refine (fill3 bb).mono ?_; rintro e W ⟨rfl, rfl⟩))
  go_wp2_with ((go_at_call 16; refine (fill4 bb).mono ?_; rintro e W ⟨rfl, rfl⟩))
  go_wp2_with ((go_at_call 17; refine (fill5 bb).mono ?_; rintro e W ⟨rfl, rfl⟩))
  go_wp2_with ((go_at_call 18; refine (fill6 bb).mono ?_; rintro e W ⟨rfl, rfl⟩))
  go_wp2_with ((go_at_call 19; refine (fill7 bb).mono ?_; rintro e W ⟨rfl, rfl⟩))
  go_wp2_with ((go_at_call 20; refine (fill8 bb).mono ?_; rintro e W ⟨rfl, rfl⟩))
  go_wp2_with ((go_at_call 21; refine (fill9 bb).mono ?_; rintro e W ⟨rfl, rfl⟩))
  go_wp2_with ((go_at_call 22; refine (fill10 bb).mono ?_; rintro e W ⟨rfl, rfl⟩))
  go_wp2_with ((go_at_call 23; refine (fill11 bb).mono ?_; rintro e W ⟨rfl, rfl⟩))
  go_wp2_with ((go_at_call 24; refine (fill12 bb).mono ?_; rintro e W ⟨rfl, rfl⟩))
  go_wp2_with ((go_at_call 25; refine a34.mono ?_; clear a34; rintro e w1 ⟨rfl, hb1, hB1, hK1⟩; have a54 := grow_word hb1 hB1 hP; have bb := hb1.blk))
  go_wp2_with ((go_at_call 26; refine (fill14 bb).mono ?_; rintro e W ⟨rfl, rfl⟩))
  go_wp2_with ((go_at_call 27; refine (fill15 bb).mono ?_; rintro e W ⟨rfl, rfl⟩))
  go_wp2_with ((go_at_call 28; refine (fill16 bb).mono ?_; rintro e W ⟨rfl, rfl⟩))
  go_wp2_with ((go_at_call 29; refine (fill17 bb).mono ?_; rintro e W ⟨rfl, rfl⟩))
  go_wp2_with ((go_at_call 30; refine (fill18 bb).mono ?_; rintro e W ⟨rfl, rfl⟩))
  go_wp2_with ((go_at_call 31; refine (fill19 bb).mono ?_; rintro e W ⟨rfl, rfl⟩))
  go_wp2_with ((go_at_call 32; refine (fill20 bb).mono ?_; rintro e W ⟨rfl, rfl⟩))
  go_wp2_with ((go_at_call 33; refine (grow1 bb).mono ?_; rintro e W ⟨rfl, rfl⟩))
  go_wp2_with ((go_at_call 34; refine (grow2 bb).mono ?_; rintro e W ⟨rfl, rfl⟩))
  go_wp2_with ((go_at_call 35; refine (grow3 bb).mono ?_; rintro e W ⟨rfl, rfl⟩))
  go_wp2_with ((go_at_call 36; refine (grow4 bb).mono ?_; rintro e W ⟨rfl, rfl⟩))
  go_wp2_with ((go_at_call 37; refine (grow5 bb).mono ?_; rintro e W ⟨rfl, rfl⟩))
  go_wp2_with ((go_at_call 38; refine (grow6 bb).mono ?_; rintro e W ⟨rfl, rfl⟩))
  go_wp2_with ((go_at_call 39; refine (grow7 bb).mono ?_; rintro e W ⟨rfl, rfl⟩))
  go_wp2_with ((go_at_call 40; refine (grow8 bb).mono ?_; rintro e W ⟨rfl, rfl⟩))
  go_wp2_with ((go_at_call 41; refine (grow9 bb).mono ?_; rintro e W ⟨rfl, rfl⟩))
  go_wp2_with ((go_at_call 42; refine (grow10 bb).mono ?_; rintro e W ⟨rfl, rfl⟩))
  go_wp2_with ((go_at_call 43; refine (grow11 bb).mono ?_; rintro e W ⟨rfl, rfl⟩))
  go_wp2_with ((go_at_call 44; refine (grow12 bb).mono ?_; rintro e W ⟨rfl, rfl⟩))
  go_wp2_with ((go_at_call 45; refine a54.mono ?_; clear a54; rintro e w2 ⟨rfl, H', hb2, hC2, hK2⟩; clear bb; have a74 := look_word hb2 hC2; have bb := hb2.blk))
  go_wp2_with ((go_at_call 46; refine (grow14 bb).mono ?_; rintro e W ⟨rfl, rfl⟩))
  go_wp2_with ((go_at_call 47; refine (grow15 bb).mono ?_; rintro e W ⟨rfl, rfl⟩))
  go_wp2_with ((go_at_call 48; refine (grow16 bb).mono ?_; rintro e W ⟨rfl, rfl⟩))
  go_wp2_with ((go_at_call 49; refine (grow17 bb).mono ?_; rintro e W ⟨rfl, rfl⟩))
  go_wp2_with ((go_at_call 50; refine (grow18 bb).mono ?_; rintro e W ⟨rfl, rfl⟩))
  go_wp2_with ((go_at_call 51; refine (grow19 bb).mono ?_; rintro e W ⟨rfl, rfl⟩))
  go_wp2_with ((go_at_call 52; refine (grow20 bb).mono ?_; rintro e W ⟨rfl, rfl⟩))
  go_wp2_with ((go_at_call 53; refine (look1 bb).mono ?_; rintro e W ⟨rfl, rfl⟩))
  go_wp2_with ((go_at_call 54; refine (look2 bb).mono ?_; rintro e W ⟨rfl, rfl⟩))
  go_wp2_with ((go_at_call 55; refine (look3 bb).mono ?_; rintro e W ⟨rfl, rfl⟩))
  go_wp2_with ((go_at_call 56; refine (look4 bb).mono ?_; rintro e W ⟨rfl, rfl⟩))
  go_wp2_with ((go_at_call 57; refine (look5 bb).mono ?_; rintro e W ⟨rfl, rfl⟩))
  go_wp2_with ((go_at_call 58; refine (look6 bb).mono ?_; rintro e W ⟨rfl, rfl⟩))
  go_wp2_with ((go_at_call 59; refine (look7 bb).mono ?_; rintro e W ⟨rfl, rfl⟩))
  go_wp2_with ((go_at_call 60; refine (look8 bb).mono ?_; rintro e W ⟨rfl, rfl⟩))
  go_wp2_with ((go_at_call 61; refine (look9 bb).mono ?_; rintro e W ⟨rfl, rfl⟩))
  go_wp2_with ((go_at_call 62; refine (look10 bb).mono ?_; rintro e W ⟨rfl, rfl⟩))
  go_wp2_with ((go_at_call 63; refine (look11 bb).mono ?_; rintro e W ⟨rfl, rfl⟩))
  go_wp2_with ((go_at_call 64; refine (look12 bb).mono ?_; rintro e W ⟨rfl, rfl⟩))
  go_wp2_with ((go_at_call 65; refine a74.mono ?_; clear a74; rintro e w3 ⟨rfl, hB3⟩; clear bb; have bb := (hB3.block _ hb2.lt).trans hb2.blk))
  go_wp2_with ((go_at_call 66; refine (look14 bb).mono ?_; rintro e W ⟨rfl, rfl⟩))
  go_wp2_with ((go_at_call 67; refine (look15 bb).mono ?_; rintro e W ⟨rfl, rfl⟩))
  go_wp2_with ((go_at_call 68; refine (look16 bb).mono ?_; rintro e W ⟨rfl, rfl⟩))
  go_wp2_with ((go_at_call 69; refine (look17 bb).mono ?_; rintro e W ⟨rfl, rfl⟩))
  go_wp2_with ((go_at_call 70; refine (look18 bb).mono ?_; rintro e W ⟨rfl, rfl⟩))
  go_wp2_with ((go_at_call 71; refine (look19 bb).mono ?_; rintro e W ⟨rfl, rfl⟩))
  go_wp2_with ((go_at_call 72; refine (look20 bb).mono ?_; rintro e W ⟨rfl, rfl⟩))
  go_ret
  exact ⟨rfl, ((hK1.mono (fun _ h => .inl h)).trans hK2).trans (KStep.of_below hB3)⟩

end Go.Proofs.YtpbempnenjfjdaaGreatDoor
