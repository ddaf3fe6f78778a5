/- What is put behind: moved, push, putItem, Put of a list. -/
import Derived.Test.YtkombdkhodjckaaGreatObEach
namespace Go.Proofs.YtkombdkhodjckaaGreat
set_option linter.unusedVariables false
set_option linter.unusedSimpArgs false
open Go.RowKit

variable {n₀ bh b lim used : Nat} {vw vb : Value} {w : World} {M : List Ob}

/-- The values that words hold. -/
def valsOf (ws : List Nat) (n : Nat) : List Vl := (List.range n).map (fun i => ⟨valK ws (2 * i), valN ws (2 * i)⟩)

theorem valsOf_len (ws : List Nat) (n : Nat) : (valsOf ws n).length = n := by simp [valsOf]

theorem valsOf_succ (ws : List Nat) (n : Nat) : valsOf ws (n + 1) = valsOf ws n ++ [⟨valK ws (2 * n), valN ws (2 * n)⟩] := by simp [valsOf, List.range_succ]

theorem valK_lt (ws : List Nat) (i : Nat) : valK ws i < 256 := by unfold valK; split <;> omega

set_option maxRecDepth 20000 in
set_option maxHeartbeats 1000000 in
theorem moved1_in (h : Hp n₀ bh b vw vb w lim used M) {q : Ob} (hq : q ∈ M) (cnt i k : Nat) (n : Int) (hi : 2 * i + 1 < q.ws.length) (hk : k < 256) {Bm Bt : Nat} (g1 : w.heap[Bm]? = some (.cells #[.pointer (some ⟨bh, 0, none⟩)] 54 (0, 0))) (g2 : w.heap[Bt]? = some (.cells #[.int .i64 cnt, .int .i64 0, .int .i64 q.at_, .int .i64 0] 58 (0, 0))) :
    Calls Tryz.prog 120 #[.int .i64 i, .agg #[.int .u8 k, .int .i64 n], .pointer (some ⟨Bm, 0, none⟩), .pointer (some ⟨Bt, 0, none⟩)] w fun e w' => e = .returned (.bool true) ∧ Hp n₀ bh b vw vb w' lim used (put M q.at_ (lay q.ws (2 * i) k n)) ∧ Step b vw vb w vw vb w' := by
  have hb := below1 w (.cells #[.int .u8 k, .int .i64 n] 29)
  have c1 := cell_row1 (alloc_keeps g1 (.cells #[.int .u8 k, .int .i64 n] 29))
  have ⟨⟨d0, d1, d2, d3⟩, _⟩ := cell_row4 (alloc_keeps g2 (.cells #[.int .u8 k, .int .i64 n] 29))
  have H1 := hold_at (h.below hb) hq cnt 0 0 i k n (by omega) (by omega) hk
  rw [Nat.zero_add] at H1
  have HV : Hid (∀ k, vw.ownBlock = some k → k < w.heap.size) := fun k e => (h.blocks k (.inr (.inr (.inl e)))).2.1
  unfold mem at H1
  simp only [show ((0 : Nat) : Int) = 0 from rfl] at H1
  go_enter Tryz.func120, Tryz.ntmps120
  go_wp2_with (first
    | (go_at_call 59; refine H1.mono ?_; clear H1; rintro e w1 ⟨rfl, hp1, hS1⟩))
  go_ret
  exact ⟨rfl, hp1, Step.belowL hb hS1 HV.out⟩

theorem step_set4 {b : Nat} {vw vb vw' vb' : Value} {w W : World} (hS : Step b vw vb w vw' vb' W) {g : Nat} (hg : w.heap.size ≤ g) (x y z u : Value) : Step b vw vb w vw' vb' ((((W.setCell ⟨g, 0, none⟩ x).setCell ⟨g, 1, none⟩ y).setCell ⟨g, 2, none⟩ z).setCell ⟨g, 3, none⟩ u) := by
  refine ⟨hS.os, hS.tape, hS.output, by simpa [World.setCell] using hS.size, fun k hk h1 h2 h3 => ?_, hS.fw, hS.fb⟩
  rw [heap_setCell_other _ ⟨g, 3, none⟩ k _ (by simp only; omega), heap_setCell_other _ ⟨g, 2, none⟩ k _ (by simp only; omega), heap_setCell_other _ ⟨g, 1, none⟩ k _ (by simp only; omega), heap_setCell_other _ ⟨g, 0, none⟩ k _ (by simp only; omega)]
  exact hS.block k hk h1 h2 h3

theorem Hp.keepT (h : Hp n₀ bh b vw vb w lim used M) {vw' vb' : Value} {w' : World} (hS : Step b vw vb w vw' vb' w') : KeepT w w' := fun k cur t hk ht => h.stays hS hk (fun cur' t' e => by cases e; rcases ht with rfl | rfl <;> decide)

set_option maxRecDepth 20000 in
set_option maxHeartbeats 1000000 in
theorem moved_in (h : Hp n₀ bh b vw vb w lim used M) {q q' : Ob} (hq : q ∈ M) (hq' : q' ∈ M) (hne : q.at_ ≠ q'.at_) (cnt room : Nat) (hl : 2 * cnt ≤ q.ws.length) (hl' : 2 * cnt ≤ q'.ws.length) :
    Calls Tryz.prog 100 #[mem bh, .agg #[.int .i64 cnt, .int .i64 room, .int .i64 q.at_, .int .i64 0], .int .i64 q'.at_] w fun e w' => e = .returned (.agg #[.int .i64 cnt, .int .i64 0, .int .i64 q'.at_, .int .i64 0]) ∧
      Hp n₀ bh b vw vb w' lim used (put M q'.at_ (lays q'.ws 0 (valsOf q.ws cnt))) ∧ Step b vw vb w vw vb w' := by
  have h20 := at_lt h hq
  have hb4 : Below w.heap.size w ((((w.alloc (.cells #[.pointer (some ⟨bh, 0, none⟩)] 54)).alloc (.cells #[.int .i64 cnt, .int .i64 room, .int .i64 q.at_, .int .i64 0] 58)).alloc (.cells #[.int .i64 0, .int .i64 0, .int .i64 0, .int .i64 0] 58)).alloc (.cells #[.int .i64 cnt, .int .i64 0, .int .i64 q'.at_, .int .i64 0] 58)) := allocs_below [_, _, _, _] w
  have g := allocs_get [Obj.cells #[.pointer (some ⟨bh, 0, none⟩)] 54, .cells #[.int .i64 cnt, .int .i64 room, .int .i64 q.at_, .int .i64 0] 58, .cells #[.int .i64 0, .int .i64 0, .int .i64 0, .int .i64 0] 58, .cells #[.int .i64 cnt, .int .i64 0, .int .i64 q'.at_, .int .i64 0] 58] w
  have HV : Hid (∀ k, vw.ownBlock = some k → k < w.heap.size) := fun k e => (h.blocks k (.inr (.inr (.inl e)))).2.1
  have HE := each_moved1 bh cnt room q.at_ 0 (by omega) w.heap.size (w.heap.size + 1 + 1 + 1)
    (fun i W => Hp n₀ bh b vw vb W lim used (put M q'.at_ (lays q'.ws 0 (valsOf q.ws i))) ∧ Step b vw vb w vw vb W ∧ W.heap[w.heap.size]? = some (.cells #[.pointer (some ⟨bh, 0, none⟩)] 54 (0, 0)) ∧ W.heap[w.heap.size + 1 + 1 + 1]? = some (.cells #[.int .i64 cnt, .int .i64 0, .int .i64 q'.at_, .int .i64 0] 58 (0, 0)))
    (fun _ _ => False) (fun i => valK q.ws (2 * i)) (fun i => valN q.ws (2 * i)) ((((w.alloc (.cells #[.pointer (some ⟨bh, 0, none⟩)] 54)).alloc (.cells #[.int .i64 cnt, .int .i64 room, .int .i64 q.at_, .int .i64 0] 58)).alloc (.cells #[.int .i64 0, .int .i64 0, .int .i64 0, .int .i64 0] 58)).alloc (.cells #[.int .i64 cnt, .int .i64 0, .int .i64 q'.at_, .int .i64 0] 58))
    (by
      refine ⟨?_, Step.belowL hb4 (Step.refl _ _ _ _) HV.out, g 0 _ rfl, g 3 _ rfl⟩
      simp only [valsOf, List.range_zero, List.map_nil, lays]
      rw [put_self h.srt.1 hq']
      exact h.below hb4)
    (fun i w' w'' ⟨r1, r2, r3, r4⟩ hB => ⟨r1.below hB, r2.trans (Step.belowL hB (Step.refl _ _ _ _) (fun k e => (r1.blocks k (.inr (.inr (.inl e)))).2.1)), (hB.block _ (Array.getElem?_eq_some_iff.1 r3).1).trans r3, (hB.block _ (Array.getElem?_eq_some_iff.1 r4).1).trans r4⟩)
    (fun i w' hi ⟨r1, r2, r3, r4⟩ => by
      have := value_at r1 (put_other hq hne _) cnt room 0 i (by omega) (by omega)
      rw [Nat.zero_add] at this
      exact this.mono (fun e w'' ⟨h1, hB⟩ => ⟨h1, ⟨r1.below hB, r2.trans (Step.belowL hB (Step.refl _ _ _ _) (fun k e => (r1.blocks k (.inr (.inr (.inl e)))).2.1)), (hB.block _ (Array.getElem?_eq_some_iff.1 r3).1).trans r3, (hB.block _ (Array.getElem?_eq_some_iff.1 r4).1).trans r4⟩, KeepT.below hB⟩))
    (fun i w' hi ⟨r1, r2, r3, r4⟩ => by
      refine (moved1_in r1 (put_mem hq' _) cnt i (valK q.ws (2 * i)) (valN q.ws (2 * i)) (by simp only [lays_len]; omega) (valK_lt _ _) r3 r4).mono ?_
      rintro e w'' ⟨he, hp, hS⟩
      refine ⟨.inl ⟨he, ?_, r2.trans hS, (r1.keepT hS).mem r3, (r1.keepT hS).body r4⟩, r1.keepT hS⟩
      rw [put_put] at hp
      rw [valsOf_succ, lays_snoc, valsOf_len, Nat.zero_add]
      exact hp)
  unfold mem at HE ⊢
  simp only [show ((0 : Nat) : Int) = 0 from rfl] at HE
  go_enter Tryz.func100, Tryz.ntmps100
  go_wp2_with (first
    | (go_at_call 62; refine HE.mono ?_; clear HE; rintro e w1 ⟨⟨rfl, hp1, hS1, n1, n2⟩ | ⟨_, _, _, hF⟩, hK1⟩; have n3 := hK1.body (g 2 _ rfl); obtain ⟨⟨x0, x1, x2, x3⟩, _⟩ := cell_row4 n2; obtain ⟨⟨y0, y1, y2, y3⟩, f0, f1, f2, f3⟩ := cell_row4 n3))
  refine bodyPost_ret (results_cell_row (by rfl) _ _ (w.heap.size + 1 + 1) 58 _ _ _ (by rfl) (set4_row n3) Tryz.underlying58 (by rfl) infoBody) (by rfl) ?_
  refine ⟨rfl, hp1.kept (fun i hi => ?_), ?_⟩
  · have hne : i ≠ w.heap.size + 2 := fun e => hp1.other n3 (fun cur t e => by cases e; decide) (by rw [← e]; exact hi)
    rw [heap_setCell_other _ ⟨w.heap.size + 2, 3, none⟩ i _ hne, heap_setCell_other _ ⟨w.heap.size + 2, 2, none⟩ i _ hne, heap_setCell_other _ ⟨w.heap.size + 2, 1, none⟩ i _ hne, heap_setCell_other _ ⟨w.heap.size + 2, 0, none⟩ i _ hne]
  · exact step_set4 hS1 (by omega) _ _ _ _

theorem heap_set4 {W : World} {g k : Nat} (h : k ≠ g) (x y z u : Value) : ((((W.setCell ⟨g, 0, none⟩ x).setCell ⟨g, 1, none⟩ y).setCell ⟨g, 2, none⟩ z).setCell ⟨g, 3, none⟩ u).heap[k]? = W.heap[k]? := by
  rw [heap_setCell_other _ ⟨g, 3, none⟩ k _ h, heap_setCell_other _ ⟨g, 2, none⟩ k _ h, heap_setCell_other _ ⟨g, 1, none⟩ k _ h, heap_setCell_other _ ⟨g, 0, none⟩ k _ h]

theorem ValsT.set4 {W : World} {p : Option Addr} {vs : List Vl} (h : ValsT W p vs) {g : Nat} {cur : Array Value} (hg : W.heap[g]? = some (.cells cur 58 (0, 0))) (x y z u : Value) : ValsT ((((W.setCell ⟨g, 0, none⟩ x).setCell ⟨g, 1, none⟩ y).setCell ⟨g, 2, none⟩ z).setCell ⟨g, 3, none⟩ u) p vs := by
  have hne : ∀ b0 off, p = some ⟨b0, off, none⟩ → b0 ≠ g := by
    intro b0 off e e2
    obtain ⟨cur', hc⟩ := h.typ b0 off e
    rw [e2, hg] at hc
    simp at hc
  refine ⟨fun j v hj => ?_, fun b0 off e => ?_⟩
  · obtain ⟨b0, off, e, h1, h2⟩ := h.vals j v hj
    exact ⟨b0, off, e, (cell_set4 (hne b0 off e)).trans h1, (cell_set4 (hne b0 off e)).trans h2⟩
  · obtain ⟨cur', hc⟩ := h.typ b0 off e
    exact ⟨cur', (heap_set4 (hne b0 off e) _ _ _ _).trans hc⟩

theorem Hp.set4 (h : Hp n₀ bh b vw vb w lim used M) {g : Nat} {cur : Array Value} (hg : w.heap[g]? = some (.cells cur 58 (0, 0))) (x y z u : Value) : Hp n₀ bh b vw vb ((((w.setCell ⟨g, 0, none⟩ x).setCell ⟨g, 1, none⟩ y).setCell ⟨g, 2, none⟩ z).setCell ⟨g, 3, none⟩ u) lim used M :=
  h.kept (fun i hi => heap_set4 (fun e => h.other hg (fun cur t e => by cases e; decide) (by rw [← e]; exact hi)) _ _ _ _)

theorem put_comm {X : List Ob} {a c : Nat} (h : a ≠ c) (A C : List Nat) : put (put X c C) a A = put (put X a A) c C := by
  unfold put
  rw [List.map_map, List.map_map]
  refine List.map_congr_left (fun o _ => ?_)
  simp only [Function.comp]
  by_cases h1 : o.at_ = a
  · have h2 : ¬ o.at_ = c := fun e => h (h1.symm.trans e)
    have h3 : ¬ a = c := h
    simp [h1, h3]
  · by_cases h2 : o.at_ = c
    · have h3 : ¬ c = a := fun e => h e.symm
      simp [h2, h3]
    · simp [h1, h2]

theorem put4 {X : List Ob} {a c : Nat} (h : a ≠ c) (A B C D : List Nat) : put (put (put (put X a A) c C) a B) c D = put (put X a B) c D := by
  rw [put_comm h, put_put, put_put]

/-- The heap once a list or a map has grown. -/
def grown (M : List Ob) (used room : Nat) (o q : Ob) (n : Nat) (vs : List Vl) : List Ob :=
  put (put (M ++ [⟨used, 8, List.replicate (2 * room) 0⟩]) used (lays (lays (List.replicate (2 * room) 0) 0 (valsOf q.ws n)) (2 * n) vs)) o.at_ [n + vs.length, used + 1]

set_option maxRecDepth 20000 in
set_option maxHeartbeats 1000000 in
theorem push_grow (h : Hp n₀ bh b vw vb w lim used M) {o q : Ob} {n room : Nat} (hr : RowOb M o q n room) (hoq : o.at_ ≠ q.at_) (least room' : Nat) (hroom : room' = max least (2 * room)) (hl4 : least ≤ 100) (hr20 : room ≤ 131072) {p : Option Addr} {vs : List Vl} (c : Nat) (hv : ValsT w p vs) (hk8 : ∀ v ∈ vs, v.k < 256) (hg : room < n + vs.length) (hg2 : n + vs.length ≤ room') (hf : used + 2 * room' + 1 ≤ lim) :
    Calls Tryz.prog 60 #[mem bh, .int .i64 o.at_, .agg #[.int .i64 n, .int .i64 room, .int .i64 q.at_, .int .i64 0], .int .i64 least, .slice p vs.length c] w fun e w' => e = .returned (.int .i64 0) ∧
      ∃ vw' vb', Hp n₀ bh b vw' vb' w' lim (used + 2 * room' + 1) (grown M used room' o q n vs) ∧ Step b vw vb w vw' vb' w' := by
  have hle := h.le
  have hu : ∀ x ∈ M, x.at_ < used := fun x hx => by have := h.srt.2 x hx; unfold Ob.end_ at this; omega
  have ho1 := hu o hr.mem
  have hq1 := hu q hr.memq
  have hsz := hr.size
  have hnr := hr.le
  have hb2 := below2' w (.cells #[.pointer (some ⟨bh, 0, none⟩)] 54) (.cells #[.int .i64 n, .int .i64 room, .int .i64 q.at_, .int .i64 0] 58)
  have HV : Hid (∀ k, vw.ownBlock = some k → k < w.heap.size) := fun k e => (h.blocks k (.inr (.inr (.inl e)))).2.1
  have hgi : (room : Int) < (n : Int) + (vs.length : Int) := by omega
  by_cases hlr : least < 2 * room
  · have hlr' : (least : Int) < 2 * (room : Int) := by omega
    obtain rfl : room' = 2 * room := by omega
    clear hroom
    have H1 := allocM (h.below hb2) 8 (2 * (2 * room)) (by omega) (by omega) (by omega)
    simp only [Int.natCast_mul, show ((2 : Nat) : Int) = 2 from rfl] at H1
    unfold mem
    go_enter Tryz.func60, Tryz.ntmps60
    go_wp2_with (first
      | (go_at_call 53; refine H1.mono ?_; clear H1; rintro e w2 ⟨rfl, vw2, vb2, hp2, hS2⟩
         have k1 := ((h.below hb2).keepT hS2).mem (alloc_keeps (heap_alloc_new w (.cells #[.pointer (some ⟨bh, 0, none⟩)] 54)) (.cells #[.int .i64 n, .int .i64 room, .int .i64 q.at_, .int .i64 0] 58)); have k2 := ((h.below hb2).keepT hS2).body (heap_two w (.cells #[.pointer (some ⟨bh, 0, none⟩)] 54) (.cells #[.int .i64 n, .int .i64 room, .int .i64 q.at_, .int .i64 0] 58))
         have c0 := cell_row1 k1; have ⟨⟨x0, x1, x2, x3⟩, y0, y1, y2, y3⟩ := cell_row4 k2
         have H2 := moved_in hp2 (q := q) (q' := ⟨used, 8, List.replicate (2 * (2 * room)) 0⟩) (by simp [hr.memq]) (by simp) (by simp only; omega) n room (by omega) (by simp; omega)
         unfold mem at H2)
      | (go_at_call 100; refine H2.mono ?_; clear H2; rintro e w3 ⟨rfl, hp3, hS3⟩
         have k3 := (hp2.keepT hS3).mem k1; have k4 := (hp2.keepT hS3).body k2
         have c0 := cell_row1 k3; have ⟨⟨x0, x1, x2, x3⟩, y0, y1, y2, y3⟩ := cell_row4 k4
         have hp3' := hp3.set4 k4 (.int .i64 n) (.int .i64 0) (.int .i64 used) (.int .i64 0)
         have hS3' := step_set4 ((Step.belowL hb2 hS2 HV.out).trans hS3) (show w.heap.size ≤ w.heap.size + 1 by omega) (.int .i64 n) (.int .i64 0) (.int .i64 used) (.int .i64 0)
         have hv3' := ((((hv.below hb2).step (h.below hb2) hS2).step hp2 hS3).set4 k4 (.int .i64 n) (.int .i64 0) (.int .i64 used) (.int .i64 0))
         have k5 := (heap_set4 (W := w3) (show w.heap.size ≠ w.heap.size + 1 by omega) (.int .i64 n) (.int .i64 0) (.int .i64 used) (.int .i64 0)).trans k3
         have k6 := set4_row (x := .int .i64 n) (y := .int .i64 0) (z := .int .i64 used) (u := .int .i64 0) k4
         have c5 := cell_row1 k5
         have H4 := write_at hp3' (o := o) (put_other (List.mem_append_left _ hr.mem) (Nat.ne_of_lt ho1) _) 1 (used + 1) (by rw [hr.ws]; simp) (by omega)
         simp only [Int.natCast_add, show ((1 : Nat) : Int) = 1 from rfl] at H4)
      | (go_at_call 54; refine H4.mono ?_; clear H4; rintro e w4 ⟨rfl, hp4, hS4⟩
         have k7 := (hp3'.keepT hS4).mem k5; have k8 := (hp3'.keepT hS4).body k6
         have c7 := cell_row1 k7; have ⟨⟨z0, z1, z2, z3⟩, _⟩ := cell_row4 k8
         rw [hr.ws] at hp4
         have H5 := add_at hp4 (o := { o with ws := [n, used + 1] }) (q := ⟨used, 8, lays (List.replicate (2 * (2 * room)) 0) 0 (valsOf q.ws n)⟩) (put_mem (put_other (List.mem_append_left _ hr.mem) (Nat.ne_of_lt ho1) _) _) (put_other (put_mem (o := ⟨used, 8, List.replicate (2 * (2 * room)) 0⟩) (by simp) _) (Nat.ne_of_gt ho1) _) (Nat.ne_of_lt ho1) n 0 c (hv3'.step hp3' hS4) hk8 (by simp only [lays_len, List.length_replicate]; omega) (by simp)
         unfold mem at H5
         simp only [show ((0 : Nat) : Int) = 0 from rfl] at H5)
      | (go_at_call 55; refine H5.mono ?_; clear H5; rintro e w5 ⟨rfl, hp5, hS5⟩))
    go_ret
    refine ⟨rfl, vw2, vb2, ?_, (hS3'.trans hS4).trans hS5⟩
    have hfin := hp5
    rw [put4 (Nat.ne_of_gt ho1)] at hfin
    exact hfin
  · have hlr' : ¬ (least : Int) < 2 * (room : Int) := by omega
    obtain rfl : room' = least := by omega
    clear hroom
    have H1 := allocM (h.below hb2) 8 (2 * (room')) (by omega) (by omega) (by omega)
    simp only [Int.natCast_mul, show ((2 : Nat) : Int) = 2 from rfl] at H1
    unfold mem
    go_enter Tryz.func60, Tryz.ntmps60
    go_wp2_with (first
      | (go_at_call 53; refine H1.mono ?_; clear H1; rintro e w2 ⟨rfl, vw2, vb2, hp2, hS2⟩
         have k1 := ((h.below hb2).keepT hS2).mem (alloc_keeps (heap_alloc_new w (.cells #[.pointer (some ⟨bh, 0, none⟩)] 54)) (.cells #[.int .i64 n, .int .i64 room, .int .i64 q.at_, .int .i64 0] 58)); have k2 := ((h.below hb2).keepT hS2).body (heap_two w (.cells #[.pointer (some ⟨bh, 0, none⟩)] 54) (.cells #[.int .i64 n, .int .i64 room, .int .i64 q.at_, .int .i64 0] 58))
         have c0 := cell_row1 k1; have ⟨⟨x0, x1, x2, x3⟩, y0, y1, y2, y3⟩ := cell_row4 k2
         have H2 := moved_in hp2 (q := q) (q' := ⟨used, 8, List.replicate (2 * (room')) 0⟩) (by simp [hr.memq]) (by simp) (by simp only; omega) n room (by omega) (by simp; omega)
         unfold mem at H2)
      | (go_at_call 100; refine H2.mono ?_; clear H2; rintro e w3 ⟨rfl, hp3, hS3⟩
         have k3 := (hp2.keepT hS3).mem k1; have k4 := (hp2.keepT hS3).body k2
         have c0 := cell_row1 k3; have ⟨⟨x0, x1, x2, x3⟩, y0, y1, y2, y3⟩ := cell_row4 k4
         have hp3' := hp3.set4 k4 (.int .i64 n) (.int .i64 0) (.int .i64 used) (.int .i64 0)
         have hS3' := step_set4 ((Step.belowL hb2 hS2 HV.out).trans hS3) (show w.heap.size ≤ w.heap.size + 1 by omega) (.int .i64 n) (.int .i64 0) (.int .i64 used) (.int .i64 0)
         have hv3' := ((((hv.below hb2).step (h.below hb2) hS2).step hp2 hS3).set4 k4 (.int .i64 n) (.int .i64 0) (.int .i64 used) (.int .i64 0))
         have k5 := (heap_set4 (W := w3) (show w.heap.size ≠ w.heap.size + 1 by omega) (.int .i64 n) (.int .i64 0) (.int .i64 used) (.int .i64 0)).trans k3
         have k6 := set4_row (x := .int .i64 n) (y := .int .i64 0) (z := .int .i64 used) (u := .int .i64 0) k4
         have c5 := cell_row1 k5
         have H4 := write_at hp3' (o := o) (put_other (List.mem_append_left _ hr.mem) (Nat.ne_of_lt ho1) _) 1 (used + 1) (by rw [hr.ws]; simp) (by omega)
         simp only [Int.natCast_add, show ((1 : Nat) : Int) = 1 from rfl] at H4)
      | (go_at_call 54; refine H4.mono ?_; clear H4; rintro e w4 ⟨rfl, hp4, hS4⟩
         have k7 := (hp3'.keepT hS4).mem k5; have k8 := (hp3'.keepT hS4).body k6
         have c7 := cell_row1 k7; have ⟨⟨z0, z1, z2, z3⟩, _⟩ := cell_row4 k8
         rw [hr.ws] at hp4
         have H5 := add_at hp4 (o := { o with ws := [n, used + 1] }) (q := ⟨used, 8, lays (List.replicate (2 * (room')) 0) 0 (valsOf q.ws n)⟩) (put_mem (put_other (List.mem_append_left _ hr.mem) (Nat.ne_of_lt ho1) _) _) (put_other (put_mem (o := ⟨used, 8, List.replicate (2 * (room')) 0⟩) (by simp) _) (Nat.ne_of_gt ho1) _) (Nat.ne_of_lt ho1) n 0 c (hv3'.step hp3' hS4) hk8 (by simp only [lays_len, List.length_replicate]; omega) (by simp)
         unfold mem at H5
         simp only [show ((0 : Nat) : Int) = 0 from rfl] at H5)
      | (go_at_call 55; refine H5.mono ?_; clear H5; rintro e w5 ⟨rfl, hp5, hS5⟩))
    go_ret
    refine ⟨rfl, vw2, vb2, ?_, (hS3'.trans hS4).trans hS5⟩
    have hfin := hp5
    rw [put4 (Nat.ne_of_gt ho1)] at hfin
    exact hfin

theorem vals1 {W : World} {g k : Nat} {x : Int} (h : W.heap[g]? = some (.cells #[.int .u8 k, .int .i64 x] 29 (0, 0))) : ValsT W (some ⟨g, 0, none⟩) [⟨k, x⟩] := by
  refine ⟨fun j v hj => ?_, fun b0 off e => ?_⟩
  · rcases j with _ | j
    · simp at hj; subst hj
      exact ⟨g, 0, rfl, (cell_row2 h).1, (cell_row2 h).2⟩
    · simp at hj
  · cases e; exact ⟨_, h⟩

set_option maxRecDepth 20000 in
set_option maxHeartbeats 1000000 in
theorem putItem_grow (h : Hp n₀ bh b vw vb w lim used M) {o q : Ob} {n room : Nat} (hr : RowOb M o q n room) (hoq : o.at_ ≠ q.at_) (hn : n = room) (hn6 : n < 65536) (k : Nat) (x : Int) (hm : MayHeld M k x) (hk8 : k < 256) (hf : used + 2 * (max 4 (2 * room)) + 1 ≤ lim) :
    Calls Tryz.prog 24 #[mem bh, .int .i64 o.at_, .agg #[.int .i64 n, .int .i64 room, .int .i64 q.at_, .int .i64 0], .agg #[.int .u8 2, .int .i64 n], .agg #[.int .u8 k, .int .i64 x]] w fun e w' => e = .returned (.int .i64 0) ∧
      ∃ vw' vb', Hp n₀ bh b vw' vb' w' lim (used + 2 * (max 4 (2 * room)) + 1) (grown M used (max 4 (2 * room)) o q n [⟨k, x⟩]) ∧ Step b vw vb w vw' vb' w' := by
  subst hn
  have H1 := fun w' (hB : Below w.heap.size w w') => mayBeHeld_yes (h.below hB) k x hm
  have H2 := fun w' (hB : Below w.heap.size w w') p (hv : ValsT w' p [⟨k, x⟩]) => push_grow (h.below hB) hr hoq 4 (max 4 (2 * n)) rfl (by omega) (by omega) 1 hv (by simpa using hk8) (by simp) (by simp; omega) hf
  have HV : Hid (∀ k, vw.ownBlock = some k → k < w.heap.size) := fun k e => (h.blocks k (.inr (.inr (.inl e)))).2.1
  have hb4 : Below w.heap.size w ((((w.alloc (.cells #[.pointer (some ⟨bh, 0, none⟩)] 54)).alloc (.cells #[.int .i64 n, .int .i64 n, .int .i64 q.at_, .int .i64 0] 58)).alloc (.cells #[.int .u8 2, .int .i64 n] 29)).alloc (.cells #[.int .u8 k, .int .i64 x] 29)) := allocs_below [_, _, _, _] w
  unfold mem at H1 H2 ⊢
  simp only [List.length_cons, List.length_nil, Nat.zero_add, show ((4 : Nat) : Int) = 4 from rfl] at H2
  have hne : ((n : Int) == 65536) = false := by simp; omega
  go_enter Tryz.func24, Tryz.ntmps24
  go_wp2_with (first
    | (go_at_call 26; refine (H1 _ hb4).mono ?_; clear H1; rintro e w1 ⟨rfl, hB1⟩; obtain ⟨g, hBz⟩ := laterN [Obj.cells #[.pointer (some ⟨bh, 0, none⟩)] 54, .cells #[.int .i64 n, .int .i64 n, .int .i64 q.at_, .int .i64 0] 58, .cells #[.int .u8 2, .int .i64 n] 29, .cells #[.int .u8 k, .int .i64 x] 29] hB1
       have c0 : w1.cell? ⟨w.heap.size, 0, none⟩ = some (.pointer (some ⟨bh, 0, none⟩)) := cell_row1 (g 0 _ rfl)
       obtain ⟨⟨d0, d1, d2, d3⟩, _⟩ := cell_row4 (g 1 _ rfl); obtain ⟨e0, e1⟩ := cell_row2 (g 2 _ rfl); obtain ⟨e2, e3⟩ := cell_row2 (g 3 _ rfl))
    | (go_at_call 60; go_loud (refine (H2 _ (hBz.alloc hBz.size _) _ (vals1 (heap_alloc_new w1 _))).mono ?_); clear H2; rintro e w2 ⟨rfl, vw', vb', hp2, hS2⟩))
  go_ret
  exact ⟨rfl, vw', vb', hp2, Step.belowL (hBz.alloc hBz.size _) hS2 HV.out⟩

end Go.Proofs.YtkombdkhodjckaaGreat
