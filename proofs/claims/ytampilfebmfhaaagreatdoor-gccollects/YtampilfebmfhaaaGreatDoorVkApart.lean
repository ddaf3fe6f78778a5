/- Apart: no two lists that are held share memory. -/
import Derived.Test.YtampilfebmfhaaaGreatDoorVkLook
import Derived.Test.YtampilfebmfhaaaGreatDoorVkIdle
namespace Go.Proofs.YtampilfebmfhaaaGreatDoor
set_option linter.unusedVariables false
set_option linter.unusedSimpArgs false
open Go.RowKit

variable {n₀ bk : Nat} {vp : Value} {w : World} {H : List He}

set_option maxRecDepth 20000 in
set_option maxHeartbeats 4000000 in
theorem apart_all (h : IsBk n₀ bk vp w H) (hA : ∀ x ∈ H, HA n₀ w x) (hP : Apt H) : Calls Tryz.prog 13 #[.pointer (some ⟨bk, 0, none⟩)] w fun e w' => e = .returned (.bool true) ∧
    KStep (fun k => mineH H k ∨ vp.ownBlock = some k) w w' := by
  have a34 := fill_val h hA hP
  have bb := h.blk
  clear h hA
  go_enter Tryz.func13, Tryz.ntmps13
  go_wp2_with ((go_at_call 36; refine (fill1 bb).mono ?_; rintro e W ⟨rfl, rfl⟩))
  go_wp2_with ((go_at_call 37; refine (fill2 bb).mono ?_; rintro e W ⟨rfl, rfl⟩))
  go_wp2_with ((go_at_call 38; refine (fill3 bb).mono ?_; rintro e W ⟨rfl, rfl⟩))
  go_wp2_with ((go_at_call 39; refine a34.mono ?_; clear a34; rintro e w1 ⟨rfl, hb1, hB1, hK1⟩; have a54 := grow_val hb1 hB1 hP; have bb := hb1.blk))
  go_wp2_with ((go_at_call 40; refine (fill5 bb).mono ?_; rintro e W ⟨rfl, rfl⟩))
  go_wp2_with ((go_at_call 41; refine (fill6 bb).mono ?_; rintro e W ⟨rfl, rfl⟩))
  go_wp2_with ((go_at_call 42; refine (fill7 bb).mono ?_; rintro e W ⟨rfl, rfl⟩))
  go_wp2_with ((go_at_call 43; refine (fill8 bb).mono ?_; rintro e W ⟨rfl, rfl⟩))
  go_wp2_with ((go_at_call 44; refine (fill9 bb).mono ?_; rintro e W ⟨rfl, rfl⟩))
  go_wp2_with ((go_at_call 45; refine (fill10 bb).mono ?_; rintro e W ⟨rfl, rfl⟩))
  go_wp2_with ((go_at_call 46; refine (fill11 bb).mono ?_; rintro e W ⟨rfl, rfl⟩))
  go_wp2_with ((go_at_call 47; refine (fill12 bb).mono ?_; rintro e W ⟨rfl, rfl⟩))
  go_wp2_with ((go_at_call 48; refine (fill13 bb).mono ?_; rintro e W ⟨rfl, rfl⟩))
  go_wp2_with ((go_at_call 49; refine (fill14 bb).mono ?_; rintro e W ⟨rfl, rfl⟩))
  go_wp2_with ((go_at_call 50; refine (fill15 bb).mono ?_; rintro e W ⟨rfl, rfl⟩))
  go_wp2_with ((go_at_call 51; refine (fill16 bb).mono ?_; rintro e W ⟨rfl, rfl⟩))
  go_wp2_with ((go_at_call 52; refine (fill17 bb).mono ?_; rintro e W ⟨rfl, rfl⟩))
  go_wp2_with ((go_at_call 53; refine (fill18 bb).mono ?_; rintro e W ⟨rfl, rfl⟩))
  go_wp2_with ((go_at_call 54; refine (fill19 bb).mono ?_; rintro e W ⟨rfl, rfl⟩))
  go_wp2_with ((go_at_call 55; refine (fill20 bb).mono ?_; rintro e W ⟨rfl, rfl⟩))
  go_wp2_with ((go_at_call 56; refine (grow1 bb).mono ?_; rintro e W ⟨rfl, rfl⟩))
  go_wp2_with ((go_at_call 57; refine (grow2 bb).mono ?_; rintro e W ⟨rfl, rfl⟩))
  go_wp2_with ((go_at_call 58; refine (grow3 bb).mono ?_; rintro e W ⟨rfl, rfl⟩))
  go_wp2_with ((go_at_call 59; refine a54.mono ?_; clear a54; rintro e w2 ⟨rfl, H', hb2, hC2, hK2⟩; clear bb; have a74 := look_val hb2 hC2; have bb := hb2.blk))
  go_wp2_with ((go_at_call 60; refine (grow5 bb).mono ?_; rintro e W ⟨rfl, rfl⟩))
  go_wp2_with ((go_at_call 61; refine (grow6 bb).mono ?_; rintro e W ⟨rfl, rfl⟩))
  go_wp2_with ((go_at_call 62; refine (grow7 bb).mono ?_; rintro e W ⟨rfl, rfl⟩))
  go_wp2_with ((go_at_call 63; refine (grow8 bb).mono ?_; rintro e W ⟨rfl, rfl⟩))
  go_wp2_with ((go_at_call 64; refine (grow9 bb).mono ?_; rintro e W ⟨rfl, rfl⟩))
  go_wp2_with ((go_at_call 65; refine (grow10 bb).mono ?_; rintro e W ⟨rfl, rfl⟩))
  go_wp2_with ((go_at_call 66; refine (grow11 bb).mono ?_; rintro e W ⟨rfl, rfl⟩))
  go_wp2_with ((go_at_call 67; refine (grow12 bb).mono ?_; rintro e W ⟨rfl, rfl⟩))
  go_wp2_with ((go_at_call 68; refine (grow13 bb).mono ?_; rintro e W ⟨rfl, rfl⟩))
  go_wp2_with ((go_at_call 69; refine (grow14 bb).mono ?_; rintro e W ⟨rfl, rfl⟩))
  go_wp2_with ((go_at_call 70; refine (grow15 bb).mono ?_; rintro e W ⟨rfl, rfl⟩))
  go_wp2_with ((go_at_call 71; refine (grow16 bb).mono ?_; rintro e W ⟨rfl, rfl⟩))
  go_wp2_with ((go_at_call 72; refine (grow17 bb).mono ?_; rintro e W ⟨rfl, rfl⟩))
  go_wp2_with ((go_at_call 73; refine (grow18 bb).mono ?_; rintro e W ⟨rfl, rfl⟩))
  go_wp2_with ((go_at_call 74; refine (grow19 bb).mono ?_; rintro e W ⟨rfl, rfl⟩))
  go_wp2_with ((go_at_call 75; refine (grow20 bb).mono ?_; rintro e W ⟨rfl, rfl⟩))
  go_wp2_with ((go_at_call 76; refine (look1 bb).mono ?_; rintro e W ⟨rfl, rfl⟩))
  go_wp2_with ((go_at_call 77; refine (look2 bb).mono ?_; rintro e W ⟨rfl, rfl⟩))
  go_wp2_with ((go_at_call 78; refine (look3 bb).mono ?_; rintro e W ⟨rfl, rfl⟩))
  go_wp2_with ((go_at_call 79; refine a74.mono ?_; clear a74; rintro e w3 ⟨rfl, hB3⟩; clear bb; have bb := (hB3.block _ hb2.lt).trans hb2.blk))
  go_wp2_with ((go_at_call 80; refine (look5 bb).mono ?_; rintro e W ⟨rfl, rfl⟩))
  go_wp2_with ((go_at_call 81; refine (look6 bb).mono ?_; rintro e W ⟨rfl, rfl⟩))
  go_wp2_with ((go_at_call 82; refine (look7 bb).mono ?_; rintro e W ⟨rfl, rfl⟩))
  go_wp2_with ((go_at_call 83; refine (look8 bb).mono ?_; rintro e W ⟨rfl, rfl⟩))
  go_wp2_with ((go_at_call 84; refine (look9 bb).mono ?_; rintro e W ⟨rfl, rfl⟩))
  go_wp2_with ((go_at_call 85; refine (look10 bb).mono ?_; rintro e W ⟨rfl, rfl⟩))
  go_wp2_with ((go_at_call 86; refine (look11 bb).mono ?_; rintro e W ⟨rfl, rfl⟩))
  go_wp2_with ((go_at_call 87; refine (look12 bb).mono ?_; rintro e W ⟨rfl, rfl⟩))
  go_wp2_with ((go_at_call 88; refine (look13 bb).mono ?_; rintro e W ⟨rfl, rfl⟩))
  go_wp2_with ((go_at_call 89; refine (look14 bb).mono ?_; rintro e W ⟨rfl, rfl⟩))
  go_wp2_with ((go_at_call 90; refine (look15 bb).mono ?_; rintro e W ⟨rfl, rfl⟩))
  go_wp2_with ((go_at_call 91; refine (look16 bb).mono ?_; rintro e W ⟨rfl, rfl⟩))
  go_wp2_with ((go_at_call 92; refine (look17 bb).mono ?_; rintro e W ⟨rfl, rfl⟩))
  go_wp2_with ((go_at_call 93; refine (look18 bb).mono ?_; rintro e W ⟨rfl, rfl⟩))
  go_wp2_with ((go_at_call 94; refine (look19 bb).mono ?_; rintro e W ⟨rfl, rfl⟩))
  go_wp2_with ((go_at_call 95; refine (look20 bb).mono ?_; rintro e W ⟨rfl, rfl⟩))
  go_ret
  exact ⟨rfl, ((hK1.mono (fun _ h => .inl h)).trans hK2).trans (KStep.of_below hB3)⟩

end Go.Proofs.YtampilfebmfhaaaGreatDoor
