/- SameHeap where the document's objects may hold nil for words. -/
import Derived.Test.YtampilfebmfhaaaGreatDoorSame
import Derived.Test.YtampilfebmfhaaaGreatDoorVkHold
namespace Go.Proofs.YtampilfebmfhaaaGreatDoor
set_option linter.unusedVariables false
set_option linter.unusedSimpArgs false
open Go.RowKit

/-- The document's heap at block br, for those that only read. -/
structure IsRq (n₀ br : Nat) (vo : Value) (w : World) (all en : Nat) (R : List (Ob × Value)) : Prop where
  base : n₀ ≤ br
  blk : w.heap[br]? = some (.cells #[.int .i64 all, .int .i64 en, vo] 88 (0, 0))
  row : w.ownsRow n₀ 85 3 vo R.length (rcells R)
  wrds : ∀ x ∈ R, w.ownsRow n₀ 71 1 x.2 x.1.ws.length (x.1.ws.map wv)
  le : R.length ≤ 1048576
  bnd : ∀ x ∈ R, x.1.at_ < 1048576 ∧ x.1.ws.length < 1048576 ∧ x.1.kind < 256

namespace IsRq

variable {n₀ br all en : Nat} {vo : Value} {w : World} {R : List (Ob × Value)}

theorem lt (h : IsRq n₀ br vo w all en R) : br < w.heap.size := (Array.getElem?_eq_some_iff.1 h.blk).1

theorem c0 (h : IsRq n₀ br vo w all en R) : w.cell? ⟨br, 0, none⟩ = some (.int .i64 all) := by rw [cell_of_row w br 0 _ _ _ h.blk]; rfl

theorem c1 (h : IsRq n₀ br vo w all en R) : w.cell? ⟨br, 1, none⟩ = some (.int .i64 en) := by rw [cell_of_row w br 1 _ _ _ h.blk]; rfl

theorem c2 (h : IsRq n₀ br vo w all en R) : w.cell? ⟨br, 2, none⟩ = some vo := by rw [cell_of_row w br 2 _ _ _ h.blk]; rfl

theorem elem {g c : Nat} (h : IsRq n₀ br (.slice (some ⟨g, 0, none⟩) R.length c) w all en R) {j : Nat} {x : Ob × Value} (hj : R[j]? = some x) :
    w.cell? ⟨g, j * 3, none⟩ = some (.int .i64 x.1.at_) ∧ w.cell? ⟨g, j * 3 + 1, none⟩ = some (.int .u8 x.1.kind) ∧ w.cell? ⟨g, j * 3 + 2, none⟩ = some x.2 := by
  have hlt : j < R.length := (List.getElem?_eq_some_iff.1 hj).1
  obtain ⟨h1, h2, h3⟩ := rcells_get R j x hj
  exact ⟨by rw [h.row.cellAt _ (by omega)]; exact h1, by rw [h.row.cellAt _ (by omega)]; exact h2, by rw [h.row.cellAt _ (by omega)]; exact h3⟩

theorem kept (h : IsRq n₀ br vo w all en R) {w' : World} (hk : ∀ k, IsRf.mine br vo R k → w'.heap[k]? = w.heap[k]?) : IsRq n₀ br vo w' all en R :=
  ⟨h.base, (hk br (.inl rfl)).trans h.blk, row_kept h.row (fun k e => hk k (.inr (.inl e))), fun x hx => row_kept (h.wrds x hx) (fun k e => hk k (.inr (.inr ⟨x, hx, e⟩))), h.le, h.bnd⟩

theorem blocks (h : IsRq n₀ br vo w all en R) {k : Nat} (hk : IsRf.mine br vo R k) : n₀ ≤ k ∧ k < w.heap.size ∧ ∃ cur t, w.heap[k]? = some (.cells cur t (0, 0)) ∧ (t = 88 ∨ t = 85 ∨ t = 71) := by
  rcases hk with rfl | e | ⟨x, hx, e⟩
  · exact ⟨h.base, h.lt, _, _, h.blk, .inl rfl⟩
  · obtain ⟨cur, hc⟩ := row_obj h.row e
    exact ⟨(h.row.lt k e).1, (h.row.lt k e).2, cur, 85, hc, .inr (.inl rfl)⟩
  · obtain ⟨cur, hc⟩ := row_obj (h.wrds x hx) e
    exact ⟨((h.wrds x hx).lt k e).1, ((h.wrds x hx).lt k e).2, cur, 71, hc, .inr (.inr rfl)⟩

theorem below (h : IsRq n₀ br vo w all en R) {w' : World} (hB : Below w.heap.size w w') : IsRq n₀ br vo w' all en R :=
  h.kept (fun k hk => hB.block k (h.blocks hk).2.1)

end IsRq

theorem IsRf.rq {n₀ br all en : Nat} {vo : Value} {w : World} {R : List (Ob × Value)} (h : IsRf n₀ br vo w all en R) : IsRq n₀ br vo w all en R :=
  ⟨h.base, h.blk, h.row, fun x hx => (h.wrds x hx).1, h.le, h.bnd⟩

section
variable {n₀ br all en : Nat} {vo : Value} {w : World} {R : List (Ob × Value)}

set_option maxHeartbeats 400000 in
theorem rused_inQ (h : IsRq n₀ br vo w all en R) : Calls Tryz.prog 27 #[.pointer (some ⟨br, 0, none⟩)] w fun e w' => e = .returned (.int .i64 en) ∧ w' = w := by
  have hc := h.c1
  clear h
  go_enter Tryz.func27, Tryz.ntmps27
  go_wp2
  go_ret
  exact ⟨rfl, rfl⟩

set_option maxHeartbeats 400000 in
theorem rwords_inQ (h : IsRq n₀ br vo w all en R) : Calls Tryz.prog 29 #[.pointer (some ⟨br, 0, none⟩)] w fun e w' => e = .returned (.int .i64 all) ∧ w' = w := by
  have hc := h.c0
  clear h
  go_enter Tryz.func29, Tryz.ntmps29
  go_wp2
  go_ret
  exact ⟨rfl, rfl⟩

set_option maxRecDepth 20000 in
set_option maxHeartbeats 1000000 in
theorem rplaces_inQ (h : IsRq n₀ br vo w all en R) : Calls Tryz.prog 31 #[.pointer (some ⟨br, 0, none⟩)] w fun e w' => ∃ p c, e = .returned (.slice p R.length c) ∧ w'.ownsRow w.heap.size 2 1 (.slice p R.length c) R.length (R.map (fun x => pv x.1.at_)) ∧ Below w.heap.size w w' := by
  have hle := h.le
  obtain ⟨p, c, rfl, _, _, hp⟩ := IsRf.row_some3 h.row
  obtain ⟨i0, hi, hz0, hz1, hz2⟩ := info_parts info2
  go_enter Tryz.func31, Tryz.ntmps31
  go_wp2
  go_loopw [3, 4] (fun out k wr => ∃ (l r : List (Ob × Value)), R = l ++ r ∧ k = .int .i64 l.length ∧ wr.ownsRow w.heap.size 2 1 out l.length (l.map (fun x => pv x.1.at_)) ∧ Below w.heap.size w wr) (fun _ k _ => R.length - (intOf k).toNat)
  case atStart => exact ⟨[], R, rfl, rfl, World.ownsRow_nil _ _ _ _, Below.refl _ _⟩
  case round =>
    obtain ⟨l, r, hR, rfl, hrow, hB⟩ := hrel
    have h' := h.below hB
    have hc := h'.c2
    cases r with
    | nil =>
      have hR' : R = l := by simpa using hR
      have hq : ¬ ((l.length : Int) < (R.length : Int)) := by rw [hR']; omega
      have E1 : Hid _ := hR'
      obtain ⟨p1, c1, hv, _, _⟩ := IsAr.row_form hrow
      have E2 : Hid _ := hv
      clear hR hR' hp hv
      go_wp2
      go_ret
      have e := E2.out
      refine ⟨p1, c1, ?_, ?_, hB⟩
      · rw [E1.out, ← e]; rfl
      · rw [E1.out, ← e]; exact hrow
    | cons x r =>
      have hlR : l.length < R.length := by rw [hR]; simp
      obtain ⟨g, rfl⟩ := hp (by omega)
      have hxm : x ∈ R := by rw [hR]; simp
      obtain ⟨e0, e1, e2⟩ := h'.elem (j := l.length) (x := x) (by rw [hR]; simp)
      obtain ⟨b1, b2, _⟩ := h.bnd x hxm
      have HR : Hid (R = l ++ x :: r) := hR
      have hsz := hB.size
      clear hR hxm
      go_wp2_with (at_builtin; refine wpList_append_own _ rfl _ _ 29 rfl w.heap.size 2 i0 (.int .i64 0) 1 8 Tryz.underlying29 hi hz0 hz1 hz2 rfl (by decide) _ l.length _ rfl (hrow.alloc _) ⟨wr.heap.size, 0, none⟩ 1 1 [.int .i64 x.1.at_] rfl rfl (cell_one_new _ _ _) (by simp [Value.oneCell']) (by unfold maxLen; omega) (by omega) (by simp; omega) ?_; intro v4 w4 hown4 hgrow4 _)
      go_roundw
      case rel =>
        have e1 : (((l ++ [x]).length : Nat) : Int) = l.length + 1 := by simp
        refine ⟨l ++ [x], r, by have := HR.out; simpa using this, by rw [e1], ?_, ?_⟩
        · simpa [pv] using hown4
        · exact (hB.alloc hB.size _).trans (rbelow_grown hgrow4 (fun q e => (hrow.lt q e).1) (by simp; omega))
      case measure => simp [intOf]; omega

end

/-- Both heaps, for those that only read. -/
structure Bq (n₀ bh b br lim : Nat) (w : World) (s : BSt) : Prop where
  hp : Hp n₀ bh b s.vw s.vb w lim s.used (s.R.map Prod.fst)
  rf : IsRq n₀ br s.vo w lim s.used s.R

theorem Bq.below {n₀ bh b br lim : Nat} {w : World} {s : BSt} (h : Bq n₀ bh b br lim w s) {w' : World} (hB : Below w.heap.size w w') : Bq n₀ bh b br lim w' s := ⟨h.hp.below hB, h.rf.below hB⟩

theorem Bo.bq {n₀ bh b br lim : Nat} {w : World} {s : BSt} (h : Bo n₀ bh b br lim w s) : Bq n₀ bh b br lim w s := ⟨h.hp, h.rf.rq⟩

set_option maxRecDepth 20000 in
set_option maxHeartbeats 2000000 in
theorem same_realQ {n₀ bh b br lim : Nat} {w : World} {s : BSt} (h : Bq n₀ bh b br lim w s) : Calls Tryz.prog 11 #[.pointer (some ⟨bh, 0, none⟩), .pointer (some ⟨br, 0, none⟩)] w fun e w' => e = .returned (.bool true) ∧ Below w.heap.size w w' := by
  have HH : Hid (Bq n₀ bh b br lim w s) := h
  have hle : s.R.length ≤ 1048576 := h.rf.le
  have a1 := usedM h.hp
  have a2 := rused_inQ h.rf
  have a3 := wordsM h.hp
  have a4 := rwords_inQ h.rf
  have a5 : Calls Tryz.prog 30 #[.pointer (some ⟨bh, 0, none⟩)] w fun e W' => ∃ p c, e = .returned (.slice p s.R.length c) ∧ W'.ownsRow w.heap.size 2 1 (.slice p s.R.length c) s.R.length ((s.R.map (fun x => x.1.at_)).map pv) ∧ Below w.heap.size w W' := by
    have := placesM h.hp
    simpa [List.map_map, Function.comp_def] using this
  have a6 : ∀ W, Below w.heap.size w W → Calls Tryz.prog 31 #[.pointer (some ⟨br, 0, none⟩)] W fun e w' => ∃ p c, e = .returned (.slice p s.R.length c) ∧ w'.ownsRow W.heap.size 2 1 (.slice p s.R.length c) s.R.length ((s.R.map (fun x => x.1.at_)).map pv) ∧ Below W.heap.size W w' := by
    intro W hB
    have := rplaces_inQ (h.rf.below hB)
    simpa [List.map_map, Function.comp_def] using this
  obtain ⟨p, c, hvo, _, _, hp⟩ := IsRf.row_some3 h.rf.row
  have HV : Hid _ := hvo
  clear h hvo
  go_enter Tryz.func11, Tryz.ntmps11
  go_wp2_with (first
    | (go_at_call 26; refine a1.mono ?_; clear a1; rintro e w ⟨rfl, rfl⟩)
    | (go_at_call 27; refine a2.mono ?_; clear a2; rintro e w ⟨rfl, rfl⟩)
    | (go_at_call 28; refine a3.mono ?_; clear a3; rintro e w ⟨rfl, rfl⟩)
    | (go_at_call 29; refine a4.mono ?_; clear a4; rintro e w ⟨rfl, rfl⟩)
    | (go_at_call 30; refine a5.mono ?_; clear a5; rintro e w1 ⟨p1, c1, rfl, hrow1, hB1⟩)
    | (go_at_call 31; refine (a6 _ hB1).mono ?_; clear a6; rintro e w2 ⟨p2, c2, rfl, hrow2, hB2⟩; have a7 := same_places (by simp) hle (IsRf.row_kept hrow1 (fun k hk => hB2.block k (hrow1.lt k hk).2)) hrow2)
    | (go_at_call 9; refine a7.mono ?_; clear a7; rintro e w3 ⟨rfl, hB3⟩))
  have hB12 := (hB1.trans (hB2.mono hB1.size)).trans (hB3.mono (Nat.le_trans hB1.size hB2.size))
  clear hrow1 hrow2 hB1 hB2 hB3
  go_loopw [5] (fun k wr => ∃ (l r : List (Ob × Value)), s.R = l ++ r ∧ k = .int .i64 l.length ∧ Below w.heap.size w wr) (fun k _ => s.R.length - (intOf k).toNat)
  case atStart => exact ⟨[], s.R, rfl, rfl, hB12⟩
  case round =>
    clear hB12
    obtain ⟨l, r, hR, rfl, hB⟩ := hrel
    have h' := HH.out.below hB
    have hc := h'.rf.c2
    rw [HV.out] at hc
    cases r with
    | nil =>
      have hR' : s.R = l := by simpa using hR
      have hq : ¬ ((l.length : Int) < (s.R.length : Int)) := by rw [hR']; omega
      clear hR hR' hp
      go_wp2
      go_ret
      exact ⟨rfl, hB⟩
    | cons x r =>
      have hlR : l.length < s.R.length := by rw [hR]; simp
      obtain ⟨g, rfl⟩ := hp (by omega)
      have hxm : x ∈ s.R := by rw [hR]; simp
      have hrf := h'.rf
      rw [HV.out] at hrf
      obtain ⟨e0, e1, e2⟩ := hrf.elem (j := l.length) (x := x) (by rw [hR]; simp)
      obtain ⟨b3, b4, b5⟩ := h'.rf.bnd x hxm
      have hw1 := h'.rf.wrds x hxm
      obtain ⟨pw, cw, hw, _, _, hpw⟩ := row_formV hw1
      have HW : Hid _ := hw
      rw [hw] at e2 hw1
      have hwc : ∀ (gw : Nat), pw = some ⟨gw, 0, none⟩ → ∀ (j y : Nat), x.1.ws[j]? = some y → wr.cell? ⟨gw, j, none⟩ = some (.int .u64 y) := fun gw hg j y hj => by
        rw [hg] at hw1
        exact row_cell hw1 (by simp [hj, wv]) (List.getElem?_eq_some_iff.1 hj).1
      have hM : ∀ W, Below wr.heap.size wr W → Hp n₀ bh b s.vw s.vb W lim s.used (l.map Prod.fst ++ x.1 :: r.map Prod.fst) := fun W hW => by
        have := (h'.below hW).hp
        rwa [map_split hR] at this
      have a8 := fun W hW => kindM (hM W hW)
      have a9 := fun W hW => sizeM (hM W hW)
      have HR : Hid (s.R = l ++ x :: r) := hR
      clear hR hxm hw hrf h'
      go_wp2_with (first
        | (go_at_call 32; refine (a8 _ ((Below.refl _ _).alloc (Nat.le_refl _) _)).mono ?_; clear a8; rintro e W ⟨rfl, rfl⟩)
        | (go_at_call 33; refine (a9 _ ((Below.refl _ _).alloc (Nat.le_refl _) _)).mono ?_; clear a9; rintro e W ⟨rfl, rfl⟩))
      obtain ⟨W0, hW0⟩ : ∃ W0, wr.alloc (.cells #[.int .i64 x.1.at_, .int .u8 x.1.kind, .slice pw x.1.ws.length cw] 85) = W0 := ⟨_, rfl⟩
      have hBW : Below wr.heap.size wr W0 := hW0 ▸ below_op wr _
      have hn0 : W0.heap[wr.heap.size]? = some (.cells #[.int .i64 x.1.at_, .int .u8 x.1.kind, .slice pw x.1.ws.length cw] 85 (0, 0)) := hW0 ▸ heap_alloc_new wr _
      have k0 : W0.cell? ⟨wr.heap.size, 0, none⟩ = some (.int .i64 x.1.at_) := by rw [cell_of_row W0 _ 0 _ _ _ hn0]; rfl
      have k2 : W0.cell? ⟨wr.heap.size, 2, none⟩ = some (.slice pw x.1.ws.length cw) := by rw [cell_of_row W0 _ 2 _ _ _ hn0]; rfl
      have hwc' : ∀ (gw : Nat), pw = some ⟨gw, 0, none⟩ → ∀ (j y : Nat), x.1.ws[j]? = some y → W0.cell? ⟨gw, j, none⟩ = some (.int .u64 y) := fun gw hg j y hj => (World.cell?_of_block (a := ⟨gw, j, none⟩) (hBW.block gw (World.block_lt_of_cell? wr _ (hwc gw hg j y hj)))).trans (hwc gw hg j y hj)
      have a10 := fun (j y : Nat) hy => readM (hM W0 hBW) j y hy
      rw [hW0]
      have HM : Hid _ := hM
      have HB : Hid (Below wr.heap.size wr W0) := hBW
      clear hW0 hn0 hw1 hwc e0 e1 e2 hM hBW hc
      go_loop [11] (fun k => ∃ j : Nat, k = .int .i64 j ∧ j ≤ x.1.ws.length) (fun k => x.1.ws.length - (intOf k).toNat)
      case atStart => exact ⟨0, rfl, by omega⟩
      case round =>
        obtain ⟨j, rfl, hj⟩ := hrel
        by_cases hjn : j < x.1.ws.length
        · obtain ⟨y, hy⟩ : ∃ y, x.1.ws[j]? = some y := ⟨x.1.ws[j]'hjn, by simp⟩
          have a11 := a10 j y hy
          obtain ⟨gw, rfl⟩ := hpw (by omega)
          have k3 := hwc' gw rfl j y hy
          clear a10 hwc' hy hpw
          go_wp2_with (go_at_call 34; refine a11.mono ?_; clear a11; rintro e W ⟨rfl, rfl⟩)
          go_round
          case rel => exact ⟨j + 1, by simp, by omega⟩
          case measure => simp [intOf]; omega
        · have hq : ¬ ((j : Int) < (x.1.ws.length : Int)) := by omega
          clear a10 hwc' hpw
          go_wp2
          go_roundw
          case rel =>
            have e1 : (((l ++ [x]).length : Nat) : Int) = l.length + 1 := by simp
            exact ⟨l ++ [x], r, by have := HR.out; simpa using this, by rw [e1], hB.trans (HB.out.mono hB.size)⟩
          case measure => simp [intOf]; omega


end Go.Proofs.YtampilfebmfhaaaGreatDoor
