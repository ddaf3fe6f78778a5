/- A row's place and cells. -/
import Derived.Test.YtampilfebmfhaaaGreatDoorModel
import Derived.Test.YtampilfebmfhaaaGreatDoorAsked
namespace Go.Proofs.YtampilfebmfhaaaGreatDoor
open Go.RowKit

/-- A row's place, where it is not empty. -/
theorem row_where {w : World} {base e n c : Nat} {p : Option Addr} {xs : List Value} (h : w.ownsRow base e 1 (.slice p n c) n xs) (hn : 0 < n) : ∃ g, p = some ⟨g, 0, none⟩ := by
  obtain ⟨g, c', e1, _⟩ := IsAr.row_some h hn
  simp at e1
  exact ⟨g, e1.1⟩

theorem row_cell {w : World} {base e n c g j : Nat} {u : Value} {xs : List Value} (h : w.ownsRow base e 1 (.slice (some ⟨g, 0, none⟩) n c) n xs) (hj : xs[j]? = some u) (hn : j < n) : w.cell? ⟨g, j, none⟩ = some u := by
  rw [h.cellAt _ (by omega)]; exact hj

end Go.Proofs.YtampilfebmfhaaaGreatDoor

namespace Go.Proofs.YtampilfebmfhaaaGreatDoor
open Go.RowKit

set_option maxRecDepth 20000 in
set_option maxHeartbeats 1000000 in
theorem same_places {w : World} {b1 b2 n c1 c2 : Nat} {p1 p2 : Option Addr} {L : List Nat} (hL : n = L.length) (hn : n ≤ 1048576) (h1 : w.ownsRow b1 2 1 (.slice p1 n c1) n (L.map pv)) (h2 : w.ownsRow b2 2 1 (.slice p2 n c2) n (L.map pv)) :
    Calls Tryz.prog 9 #[.slice p1 n c1, .slice p2 n c2] w fun e w' => e = .returned (.bool true) ∧ Below w.heap.size w w' := by
  have HL : Hid _ := hL
  clear hL
  go_enter Tryz.func9, Tryz.ntmps9
  go_wp2
  go_loopw [5] (fun k wr => ∃ j : Nat, k = .int .i64 j ∧ j ≤ n ∧ Below w.heap.size w wr) (fun k _ => n - (intOf k).toNat)
  case atStart => exact ⟨0, rfl, by omega, Below.refl _ _⟩
  case round =>
    obtain ⟨j, rfl, hj, hB⟩ := hrel
    by_cases hjn : j < n
    · obtain ⟨g1, rfl⟩ := row_where h1 (by omega)
      obtain ⟨g2, rfl⟩ := row_where h2 (by omega)
      obtain ⟨y, hy⟩ : ∃ y, L[j]? = some y := ⟨L[j]'(by rw [← HL.out]; exact hjn), by simp⟩
      have hu : (L.map pv)[j]? = some (.int .i64 y) := by simp [hy, pv]
      have d1 := row_cell (IsRf.row_kept h1 (fun k hk => hB.block k (h1.lt k hk).2)) hu hjn
      have d2 := row_cell (IsRf.row_kept h2 (fun k hk => hB.block k (h2.lt k hk).2)) hu hjn
      clear hu hy h1 h2
      go_wp2
      go_quiet (fail)
      go_wp2
      go_roundw
      case rel => exact ⟨j + 1, by simp, by omega, below_drewN' hB _⟩
      case measure => simp [intOf]; omega
    · have hq : ¬ ((j : Int) < (n : Int)) := by omega
      clear h1 h2
      go_wp2
      go_ret
      exact ⟨rfl, hB⟩

theorem same_nil (w : World) : Calls Tryz.prog 9 #[.slice none 0 0, .slice none 0 0] w fun e w' => e = .returned (.bool true) ∧ Below w.heap.size w w' :=
  same_places (b1 := 0) (b2 := 0) (L := []) rfl (by omega) (World.ownsRow_nil _ _ _ _) (World.ownsRow_nil _ _ _ _)

set_option maxRecDepth 20000 in
set_option maxHeartbeats 1000000 in
theorem same_gone {w : World} {v : Value} (h : Gone w v) : Calls Tryz.prog 11 #[v, .pointer none] w fun e w' => e = .returned (.bool true) ∧ Below w.heap.size w w' := by
  have a1 := gused h
  have a2 := nused w
  have a3 := gwords h
  have a4 := nwords w
  have a5 := gplaces h
  have a6 := nplaces w
  have a7 := same_nil w
  clear h
  go_enter Tryz.func11, Tryz.ntmps11
  go_wp2_with (first
    | (go_at_call 26; refine a1.mono ?_; clear a1; rintro e w ⟨rfl, rfl⟩)
    | (go_at_call 27; refine a2.mono ?_; clear a2; rintro e w ⟨rfl, rfl⟩)
    | (go_at_call 28; refine a3.mono ?_; clear a3; rintro e w ⟨rfl, rfl⟩)
    | (go_at_call 29; refine a4.mono ?_; clear a4; rintro e w ⟨rfl, rfl⟩)
    | (go_at_call 30; refine a5.mono ?_; clear a5; rintro e w ⟨rfl, rfl⟩)
    | (go_at_call 31; refine a6.mono ?_; clear a6; rintro e w ⟨rfl, rfl⟩)
    | (go_at_call 9; refine a7.mono ?_; clear a7; rintro e w1 ⟨rfl, hB⟩))
  go_loop [5] (fun k => k = .int .i64 0) (fun _ => 0)
  case atStart => rfl
  case round =>
    subst hrel
    go_wp2
    go_ret
    exact ⟨rfl, hB⟩

set_option maxRecDepth 20000 in
set_option maxHeartbeats 2000000 in
theorem same_real {n₀ bh b br lim : Nat} {w : World} {s : BSt} (h : Bo n₀ bh b br lim w s) : Calls Tryz.prog 11 #[.pointer (some ⟨bh, 0, none⟩), .pointer (some ⟨br, 0, none⟩)] w fun e w' => e = .returned (.bool true) ∧ Below w.heap.size w w' := by
  have HH : Hid (Bo n₀ bh b br lim w s) := h
  obtain ⟨hs1, hs2, hs3⟩ := h.size
  have hle : s.R.length ≤ 1048576 := by omega
  have a1 := usedM h.hp
  have a2 := rused_in h.rf
  have a3 := wordsM h.hp
  have a4 := rwords_in h.rf
  have a5 : Calls Tryz.prog 30 #[.pointer (some ⟨bh, 0, none⟩)] w fun e W' => ∃ p c, e = .returned (.slice p s.R.length c) ∧ W'.ownsRow w.heap.size 2 1 (.slice p s.R.length c) s.R.length ((s.R.map (fun x => x.1.at_)).map pv) ∧ Below w.heap.size w W' := by
    have := placesM h.hp
    simpa [List.map_map, Function.comp_def] using this
  have a6 : ∀ W, Below w.heap.size w W → Calls Tryz.prog 31 #[.pointer (some ⟨br, 0, none⟩)] W fun e w' => ∃ p c, e = .returned (.slice p s.R.length c) ∧ w'.ownsRow W.heap.size 2 1 (.slice p s.R.length c) s.R.length ((s.R.map (fun x => x.1.at_)).map pv) ∧ Below W.heap.size W w' := by
    intro W hB
    have := rplaces_in (h.rf.below hB)
    simpa [List.map_map, Function.comp_def] using this
  obtain ⟨p, c, hvo, _, _, hp⟩ := IsRf.row_some3 h.rf.row
  have HV : Hid _ := hvo
  clear h hvo
  go_enter Tryz.func11, Tryz.ntmps11
  go_wp2_with (first
    | (go_at_call 26; refine a1.mono ?_; clear a1; rintro e w ⟨rfl, rfl⟩)
    | (go_at_call 27; refine a2.mono ?_; clear a2; rintro e w ⟨rfl, rfl⟩)
    | (go_at_call 28; refine a3.mono ?_; clear a3; rintro e w ⟨rfl, rfl⟩)
    | (go_at_call 29; refine a4.mono ?_; clear a4; rintro e w ⟨rfl, rfl⟩)
    | (go_at_call 30; refine a5.mono ?_; clear a5; rintro e w1 ⟨p1, c1, rfl, hrow1, hB1⟩)
    | (go_at_call 31; refine (a6 _ hB1).mono ?_; clear a6; rintro e w2 ⟨p2, c2, rfl, hrow2, hB2⟩; have a7 := same_places (by simp) hle (IsRf.row_kept hrow1 (fun k hk => hB2.block k (hrow1.lt k hk).2)) hrow2)
    | (go_at_call 9; refine a7.mono ?_; clear a7; rintro e w3 ⟨rfl, hB3⟩))
  have hB12 := (hB1.trans (hB2.mono hB1.size)).trans (hB3.mono (Nat.le_trans hB1.size hB2.size))
  clear hrow1 hrow2 hB1 hB2 hB3
  go_loopw [5] (fun k wr => ∃ (l r : List (Ob × Value)), s.R = l ++ r ∧ k = .int .i64 l.length ∧ Below w.heap.size w wr) (fun k _ => s.R.length - (intOf k).toNat)
  case atStart => exact ⟨[], s.R, rfl, rfl, hB12⟩
  case round =>
    clear hB12
    obtain ⟨l, r, hR, rfl, hB⟩ := hrel
    have h' := HH.out.below hB
    have hc := h'.rf.c2
    rw [HV.out] at hc
    cases r with
    | nil =>
      have hR' : s.R = l := by simpa using hR
      have hq : ¬ ((l.length : Int) < (s.R.length : Int)) := by rw [hR']; omega
      clear hR hR' hp
      go_wp2
      go_ret
      exact ⟨rfl, hB⟩
    | cons x r =>
      have hlR : l.length < s.R.length := by rw [hR]; simp
      obtain ⟨g, rfl⟩ := hp (by omega)
      have hxm : x ∈ s.R := by rw [hR]; simp
      have hrf := h'.rf
      rw [HV.out] at hrf
      obtain ⟨e0, e1, e2⟩ := hrf.elem (j := l.length) (x := x) (by rw [hR]; simp)
      obtain ⟨b3, b4, b5⟩ := h'.rf.bnd x hxm
      obtain ⟨hw1, hw2⟩ := h'.rf.wrds x hxm
      obtain ⟨gw, cw, hw⟩ := wform hw1 hw2
      have HW : Hid _ := hw
      rw [hw] at e2 hw1
      have hwc : ∀ (j y : Nat), x.1.ws[j]? = some y → wr.cell? ⟨gw, j, none⟩ = some (.int .u64 y) := fun j y hj => row_cell hw1 (by simp [hj, wv]) (List.getElem?_eq_some_iff.1 hj).1
      have hgw : gw < wr.heap.size := (hw1.lt gw rfl).2
      have hM : ∀ W, Below wr.heap.size wr W → Hp n₀ bh b s.vw s.vb W lim s.used (l.map Prod.fst ++ x.1 :: r.map Prod.fst) := fun W hW => by
        have := (h'.below hW).hp
        rwa [map_split hR] at this
      have a8 := fun W hW => kindM (hM W hW)
      have a9 := fun W hW => sizeM (hM W hW)
      have HR : Hid (s.R = l ++ x :: r) := hR
      clear hR hxm hw hw2 hrf h'
      go_wp2_with (first
        | (go_at_call 32; refine (a8 _ ((Below.refl _ _).alloc (Nat.le_refl _) _)).mono ?_; clear a8; rintro e W ⟨rfl, rfl⟩)
        | (go_at_call 33; refine (a9 _ ((Below.refl _ _).alloc (Nat.le_refl _) _)).mono ?_; clear a9; rintro e W ⟨rfl, rfl⟩))
      obtain ⟨W0, hW0⟩ : ∃ W0, wr.alloc (.cells #[.int .i64 x.1.at_, .int .u8 x.1.kind, .slice (some ⟨gw, 0, none⟩) x.1.ws.length cw] 85) = W0 := ⟨_, rfl⟩
      have hBW : Below wr.heap.size wr W0 := hW0 ▸ below_op wr _
      have hn0 : W0.heap[wr.heap.size]? = some (.cells #[.int .i64 x.1.at_, .int .u8 x.1.kind, .slice (some ⟨gw, 0, none⟩) x.1.ws.length cw] 85 (0, 0)) := hW0 ▸ heap_alloc_new wr _
      have k0 : W0.cell? ⟨wr.heap.size, 0, none⟩ = some (.int .i64 x.1.at_) := by rw [cell_of_row W0 _ 0 _ _ _ hn0]; rfl
      have k2 : W0.cell? ⟨wr.heap.size, 2, none⟩ = some (.slice (some ⟨gw, 0, none⟩) x.1.ws.length cw) := by rw [cell_of_row W0 _ 2 _ _ _ hn0]; rfl
      have hwc' : ∀ (j y : Nat), x.1.ws[j]? = some y → W0.cell? ⟨gw, j, none⟩ = some (.int .u64 y) := fun j y hj => (World.cell?_of_block (a := ⟨gw, j, none⟩) (hBW.block gw hgw)).trans (hwc j y hj)
      have a10 := fun (j y : Nat) hy => readM (hM W0 hBW) j y hy
      rw [hW0]
      have HM : Hid _ := hM
      have HB : Hid (Below wr.heap.size wr W0) := hBW
      clear hW0 hn0 hw1 hwc e0 e1 e2 hgw hM hBW hc
      go_loop [11] (fun k => ∃ j : Nat, k = .int .i64 j ∧ j ≤ x.1.ws.length) (fun k => x.1.ws.length - (intOf k).toNat)
      case atStart => exact ⟨0, rfl, by omega⟩
      case round =>
        obtain ⟨j, rfl, hj⟩ := hrel
        by_cases hjn : j < x.1.ws.length
        · obtain ⟨y, hy⟩ : ∃ y, x.1.ws[j]? = some y := ⟨x.1.ws[j]'hjn, by simp⟩
          have a11 := a10 j y hy
          have k3 := hwc' j y hy
          clear a10 hwc' hy
          go_wp2_with (go_at_call 34; refine a11.mono ?_; clear a11; rintro e W ⟨rfl, rfl⟩)
          go_round
          case rel => exact ⟨j + 1, by simp, by omega⟩
          case measure => simp [intOf]; omega
        · have hq : ¬ ((j : Int) < (x.1.ws.length : Int)) := by omega
          clear a10 hwc'
          go_wp2
          go_roundw
          case rel =>
            have e1 : (((l ++ [x]).length : Nat) : Int) = l.length + 1 := by simp
            exact ⟨l ++ [x], r, by have := HR.out; simpa using this, by rw [e1], hB.trans (HB.out.mono hB.size)⟩
          case measure => simp [intOf]; omega

end Go.Proofs.YtampilfebmfhaaaGreatDoor
