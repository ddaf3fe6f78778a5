/- SameVals, SameObj, SameObjs, SameStore, where they say yes. -/
import Derived.Test.YtgokofomoachaaaGreatDoorShTwinO
import Derived.Laws.StructEq
namespace Go.Proofs.YtgokofomoachaaaGreatDoor
set_option linter.unusedVariables false
set_option linter.unusedSimpArgs false
open Go.RowKit

variable {w : World}

set_option maxRecDepth 20000 in
set_option maxHeartbeats 2000000 in
theorem sameV_in {p q : Option Addr} {vs : List Vl} (c1 c2 : Nat) (hp : Vals w p vs) (hq : Vals w q vs) (hlen : vs.length ≤ 1000000) :
    Calls Tryz.prog 261 #[.slice p vs.length c1, .slice q vs.length c2] w fun e w' => e = .returned (.bool true) ∧ Below w.heap.size w w' := by
  go_enter Tryz.func261, Tryz.ntmps261
  go_wp2
  go_loopw [5] (fun k wr => ∃ j : Nat, k = .int .i64 j ∧ j ≤ vs.length ∧ Below w.heap.size w wr) (fun k _ => vs.length - (intOf k).toNat)
  case atStart => exact ⟨0, rfl, by omega, Below.refl _ _⟩
  case round =>
    obtain ⟨j, rfl, hj, hB⟩ := hrel
    by_cases hjn : j < vs.length
    · obtain ⟨v, hvj⟩ : ∃ v, vs[j]? = some v := ⟨vs[j], by simp⟩
      obtain ⟨b0, off, rfl, c0, c1'⟩ := (hp.below hB) j v hvj
      obtain ⟨b1, off1, rfl, d0, d1⟩ := (hq.below hB) j v hvj
      have hjn' : (j : Int) < (vs.length : Int) := by omega
      clear hvj
      go_wp2
      go_quiet (fail)
      go_wp2
      go_roundw
      case rel => exact ⟨j + 1, by simp, by omega, below_drewN' hB _⟩
      case measure => simp [intOf]; omega
    · have hjn' : ¬ ((j : Int) < (vs.length : Int)) := by omega
      go_wp2
      go_ret
      exact ⟨rfl, hB⟩

set_option maxRecDepth 20000 in
set_option maxHeartbeats 2000000 in
theorem sameObj_in (o : Om) (p q : Option Addr) (c1 c2 : Nat) (hp : Vals w p o.l) (hv : Vals w q o.l) (hl : o.l.length ≤ 1000000) :
    Calls Tryz.prog 239 #[objV o p c1, objV o q c2] w fun e w' => e = .returned (.bool true) ∧ Below w.heap.size w w' := by
  unfold objV
  have hB2 := below2' w (.cells #[.int .u8 o.k, .string o.s, .slice p o.l.length c1, .int .i64 o.room, .int .i64 o.fn] 96) (.cells #[.int .u8 o.k, .string o.s, .slice q o.l.length c2, .int .i64 o.room, .int .i64 o.fn] 96)
  have hb0 := (Below.heap_alloc (w.alloc (.cells #[.int .u8 o.k, .string o.s, .slice p o.l.length c1, .int .i64 o.room, .int .i64 o.fn] 96)) (.cells #[.int .u8 o.k, .string o.s, .slice q o.l.length c2, .int .i64 o.room, .int .i64 o.fn] 96) w.heap.size (by simp)).trans (heap_alloc_new w (.cells #[.int .u8 o.k, .string o.s, .slice p o.l.length c1, .int .i64 o.room, .int .i64 o.fn] 96))
  have hb1 := heap_two w (.cells #[.int .u8 o.k, .string o.s, .slice p o.l.length c1, .int .i64 o.room, .int .i64 o.fn] 96) (.cells #[.int .u8 o.k, .string o.s, .slice q o.l.length c2, .int .i64 o.room, .int .i64 o.fn] 96)
  have hsz : ((w.alloc (.cells #[.int .u8 o.k, .string o.s, .slice p o.l.length c1, .int .i64 o.room, .int .i64 o.fn] 96)).alloc (.cells #[.int .u8 o.k, .string o.s, .slice q o.l.length c2, .int .i64 o.room, .int .i64 o.fn] 96)).heap.size = w.heap.size + 2 := by simp
  obtain ⟨⟨o0, o1, o2, o3, o4⟩, -⟩ := cell_row5 hb0
  obtain ⟨⟨p0, p1, p2, p3, p4⟩, -⟩ := cell_row5 hb1
  have H1 := fun (W : World) (h : Below w.heap.size w W) => sameV_in c1 c2 (hp.below h) (hv.below h) hl
  go_enter Tryz.func239, Tryz.ntmps239
  go_wp2_with (first
    | (go_at_call 261; refine (H1 _ (below2' _ _ _)).mono ?_; rintro e w1 ⟨rfl, hB1⟩; obtain ⟨⟨r0, r1, r2, r3, r4⟩, -⟩ := cell_row5 ((hB1.block w.heap.size (by omega)).trans hb0); obtain ⟨⟨s0, s1, s2, s3, s4⟩, -⟩ := cell_row5 ((hB1.block (w.heap.size + 1) (by omega)).trans hb1)))
  go_ret
  exact ⟨rfl, hB2.trans (hB1.mono (by omega))⟩

set_option maxRecDepth 20000 in
set_option maxHeartbeats 2000000 in
theorem sameObjs_in {p q : Option Addr} {S : List Om} (c1 c2 : Nat) (hp : IsSt w p S) (hq : IsSt w q S) (hlen : S.length ≤ 1048577) (hls : ∀ x ∈ S, x.l.length ≤ 1000000) :
    Calls Tryz.prog 151 #[.slice p S.length c1, .slice q S.length c2] w fun e w' => e = .returned (.bool true) ∧ Below w.heap.size w w' := by
  go_enter Tryz.func151, Tryz.ntmps151
  go_wp2
  go_loopw [5] (fun k wr => ∃ j : Nat, k = .int .i64 j ∧ j ≤ S.length ∧ Below w.heap.size w wr) (fun k _ => S.length - (intOf k).toNat)
  case atStart => exact ⟨0, rfl, by omega, Below.refl _ _⟩
  case round =>
    obtain ⟨j, rfl, hj, hB⟩ := hrel
    by_cases hjn : j < S.length
    · obtain ⟨o, hoj⟩ : ∃ o, S[j]? = some o := ⟨S[j], by simp [hjn]⟩
      obtain ⟨b0, off, rfl, a0, a1, ⟨q1, cq1, a2, hv1, -⟩, a3, a4⟩ := hp.look hB hoj
      obtain ⟨b1, off1, rfl, d0, d1, ⟨q2, cq2, d2, hv2, -⟩, d3, d4⟩ := hq.look hB hoj
      have H1 := fun (W : World) (h : Below w.heap.size w W) => sameObj_in o q1 q2 cq1 cq2 (hv1.below h) (hv2.below h) (hls o (List.mem_of_getElem? hoj))
      unfold objV at H1
      have hjn' : (j : Int) < (S.length : Int) := by omega
      clear hoj
      go_wp2
      go_region_with
        ((go_at_call 239; refine (H1 _ (below_drew hB)).mono ?_; rintro e w2 ⟨rfl, hB2⟩))
      all_goals
        go_wp2
        go_roundw
        case rel => exact ⟨j + 1, by simp, by omega, (below_drew hB).trans (hB2.mono hB.size)⟩
        case measure => simp [intOf]; omega
    · have hjn' : ¬ ((j : Int) < (S.length : Int)) := by omega
      go_wp2
      go_ret
      exact ⟨rfl, hB⟩

theorem sameStore_in {p q : Option Addr} {S : List Om} (c1 c2 : Nat) (hp : IsSt w p S) (hq : IsSt w q S) (hlen : S.length ≤ 1048577) (hls : ∀ x ∈ S, x.l.length ≤ 1000000) :
    Calls Tryz.prog 45 #[.slice p S.length c1, .slice q S.length c2] w fun e w' => e = .returned (.bool true) ∧ Below w.heap.size w w' := by
  have H := sameObjs_in c1 c2 hp hq hlen hls
  go_enter Tryz.func45, Tryz.ntmps45
  go_wp2_with (first
    | (go_at_call 151; refine H.mono ?_; clear H; rintro e w2 ⟨rfl, h3⟩))
  go_ret
  exact ⟨rfl, h3⟩

end Go.Proofs.YtgokofomoachaaaGreatDoor
