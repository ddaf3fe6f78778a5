/- TwinVals and LeftVals: a copy of values with room behind, and that it was left as it was. -/
import Derived.Test.YtampilfebmfhaaaGreatDoorGcVals
import Derived.Test.YtampilfebmfhaaaGreatDoorGcReach2
namespace Go.Proofs.YtampilfebmfhaaaGreatDoor
set_option linter.unusedVariables false
set_option linter.unusedSimpArgs false
open Go.RowKit

variable {w : World}

/-- The copy. -/
def TwinAt (base : Nat) (g c : Nat) (vs : List Vl) (w : World) : Prop := w.ownsRow base 76 2 (.slice (some ⟨g, 0, none⟩) (vs.length + 1) c) (vs.length + 1) (vcells (vs ++ [⟨0, 7777⟩]))

theorem TwinAt.vals {base g c : Nat} {vs : List Vl} (h : TwinAt base g c vs w) : Vals w (some ⟨g, 0, none⟩) vs := by
  intro j v hj
  have hlt := (List.getElem?_eq_some_iff.1 hj).1
  obtain ⟨h1, h2⟩ := vcells_get (vs ++ [⟨0, 7777⟩]) j v (by rw [List.getElem?_append_left hlt]; exact hj)
  refine ⟨g, 0, rfl, ?_, ?_⟩
  · rw [Nat.zero_add, h.cellAt _ (by omega)]; exact h1
  · rw [Nat.zero_add, h.cellAt _ (by omega)]; exact h2

set_option maxRecDepth 20000 in
set_option maxHeartbeats 2000000 in
theorem twin_in {p : Option Addr} {vs : List Vl} (c : Nat) (hv : Vals w p vs) (hlen : vs.length ≤ 1000000) :
    Calls Tryz.prog 6 #[.slice p vs.length c] w fun e w' => ∃ g c, e = .returned (.slice (some ⟨g, 0, none⟩) vs.length c) ∧ TwinAt w.heap.size g c vs w' ∧ Below w.heap.size w w' := by
  obtain ⟨i0, hi, hz0, hz1, hz2⟩ := info_parts infoV
  go_enter Tryz.func6, Tryz.ntmps6
  go_wp2_with (first
    | (at_make; refine wpList_make_own w rfl _ _ 23 rfl w.heap.size 76 i0 (.agg #[.int .u8 0, .int .i64 0]) 2 Tryz.underlying23 hi hz0 hz1 .i64 .i64 _ (vs.length + 1) rfl rfl (by simp) (by rw [hz2]; omega) (by unfold maxLen; omega) (Nat.le_refl _) ?_; intro w1 hown1 hgrow1))
  have hB1 : Below w.heap.size w w1 := rbelow_grown hgrow1 (fun q e => by cases e) (Nat.le_refl _)
  go_loopw [3, 4] (fun t k wr => ∃ (pre rest : List Vl), k = .int .i64 pre.length ∧ vs = pre ++ rest ∧ wr.ownsRow w.heap.size 76 2 t pre.length (vcells pre) ∧ Below w.heap.size w wr) (fun _ k _ => vs.length - (intOf k).toNat)
  case atStart => exact ⟨[], vs, rfl, rfl, hown1, hB1⟩
  case round =>
    obtain ⟨pre, rest, rfl, hR, hrow, hB⟩ := hrel
    have hsz := hB.size
    cases rest with
    | nil =>
      have hR' : vs = pre := by simpa using hR
      have hq : ¬ ((pre.length : Int) < (vs.length : Int)) := by rw [hR']; omega
      rw [← hR'] at hrow
      have hpl : pre.length = vs.length := by rw [hR']
      have HP : Hid _ := hpl
      clear hR hR' hpl
      go_wp2_with (first
        | (at_builtin; refine wpList_append_own _ rfl _ _ 23 rfl w.heap.size 76 i0 (.agg #[.int .u8 0, .int .i64 0]) 2 16 Tryz.underlying23 hi hz0 hz1 hz2 rfl (by decide) _ vs.length _ rfl (hrow.alloc _) ⟨wr.heap.size, 0, none⟩ 1 1 [.int .u8 0, .int .i64 7777] rfl rfl (World.news_of_block (cs := #[.int .u8 0, .int .i64 7777]) (t := 76) (fr := (0, 0)) (heap_alloc_new wr _)) (by simp [Value.oneCell']) (by unfold maxLen; omega) (by omega) (by simp; omega) ?_; intro v4 w4 hown4 hgrow4 _; obtain ⟨g4, c4, rfl⟩ := ownsRow_succ2 hown4; obtain ⟨hc4, hc5⟩ := ownsRow_cap2 hown4))
      go_ret
      refine ⟨g4, c4, rfl, ?_, (hB.alloc hB.size _).trans (rbelow_grown hgrow4 (fun q e => (hrow.lt q e).1) (by simp; omega))⟩
      unfold TwinAt
      rw [vcells_append]
      exact hown4
    | cons v rest =>
      have hlR : pre.length < vs.length := by rw [hR]; simp
      obtain ⟨b0, off, rfl, c0, c1⟩ := (hv.below hB) pre.length v (by rw [hR]; simp)
      have HR : Hid (vs = pre ++ v :: rest) := hR
      have e1 : (((pre ++ [v]).length : Nat) : Int) = pre.length + 1 := by simp
      clear hR
      go_wp2_with (first
        | (at_builtin; refine wpList_append_own _ rfl _ _ 23 rfl w.heap.size 76 i0 (.agg #[.int .u8 0, .int .i64 0]) 2 16 Tryz.underlying23 hi hz0 hz1 hz2 rfl (by decide) _ pre.length _ rfl (hrow.alloc _) ⟨wr.heap.size, 0, none⟩ 1 1 [.int .u8 v.k, .int .i64 v.n] rfl rfl (World.news_of_block (cs := #[.int .u8 v.k, .int .i64 v.n]) (t := 76) (fr := (0, 0)) (heap_alloc_new wr _)) (by simp [Value.oneCell']) (by unfold maxLen; omega) (by omega) (by simp; omega) ?_; intro v4 w4 hown4 hgrow4 _))
      go_roundw
      case rel =>
        refine ⟨pre ++ [v], rest, by rw [e1], by have := HR.out; simpa using this, ?_, (hB.alloc hB.size _).trans (rbelow_grown hgrow4 (fun q e => (hrow.lt q e).1) (by simp; omega))⟩
        rw [vcells_append, show (pre ++ [v]).length = pre.length + 1 from List.length_append]
        exact hown4
      case measure => simp [intOf]; omega

set_option maxRecDepth 20000 in
set_option maxHeartbeats 2000000 in
theorem left_in {base g c : Nat} {p : Option Addr} {vs : List Vl} (cl : Nat) (ht : TwinAt base g c vs w) (hv : Vals w p vs) (hlen : vs.length ≤ 1000000) :
    Calls Tryz.prog 10 #[.slice (some ⟨g, 0, none⟩) vs.length c, .slice p vs.length cl] w fun e w' => e = .returned (.bool true) ∧ Below w.heap.size w w' := by
  obtain ⟨hc4, hc5⟩ := ownsRow_cap2 ht
  have hcb : ¬ ((c : Int) ≤ (vs.length : Int)) := by omega
  go_enter Tryz.func10, Tryz.ntmps10
  go_wp2
  go_loopw [5] (fun k wr => ∃ j : Nat, k = .int .i64 j ∧ j ≤ vs.length ∧ Below w.heap.size w wr) (fun k _ => vs.length - (intOf k).toNat)
  case atStart => exact ⟨0, rfl, by omega, Below.refl _ _⟩
  case round =>
    obtain ⟨j, rfl, hj, hB⟩ := hrel
    have ht' : TwinAt base g c vs wr := IsRf.row_kept ht (fun k e => hB.block k (ht.lt k e).2)
    by_cases hjn : j < vs.length
    · obtain ⟨v, hvj⟩ : ∃ v, vs[j]? = some v := ⟨vs[j], by simp⟩
      obtain ⟨b0, off, rfl, c0, c1⟩ := (hv.below hB) j v hvj
      obtain ⟨g', off', e, d0, d1⟩ := ht'.vals j v hvj
      simp at e
      obtain ⟨rfl, rfl⟩ := e
      rw [Nat.zero_add] at d0 d1
      have hjn' : (j : Int) < (vs.length : Int) := by omega
      clear hvj
      go_wp2
      go_quiet (fail)
      go_wp2
      go_roundw
      case rel => exact ⟨j + 1, by simp, by omega, below_drewN' hB _⟩
      case measure => simp [intOf]; omega
    · have hjn' : ¬ ((j : Int) < (vs.length : Int)) := by omega
      have hlast := vcells_get (vs ++ [⟨0, 7777⟩]) vs.length ⟨0, 7777⟩ (by simp)
      have d0 : wr.cell? ⟨g, vs.length * 2, none⟩ = some (.int .u8 0) := by rw [ht'.cellAt _ (by omega)]; exact hlast.1
      have d1 : wr.cell? ⟨g, vs.length * 2 + 1, none⟩ = some (.int .i64 7777) := by rw [ht'.cellAt _ (by omega)]; exact hlast.2
      clear hlast
      go_wp2
      go_ret
      exact ⟨rfl, hB.alloc hB.size _⟩

end Go.Proofs.YtampilfebmfhaaaGreatDoor
