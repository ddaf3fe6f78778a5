/- A new list or map: fits, newRow. -/
import Derived.Test.YtkombdkhodjckaaGreatObAdd
namespace Go.Proofs.YtkombdkhodjckaaGreat
set_option linter.unusedVariables false
set_option linter.unusedSimpArgs false
open Go.RowKit

variable {n₀ bh b lim used : Nat} {vw vb : Value} {w : World} {M : List Ob}

set_option maxHeartbeats 400000 in
theorem fits_yes (h : Hp n₀ bh b vw vb w lim used M) (n : Nat) (hn : used + n ≤ lim) : Calls Tryz.prog 52 #[mem bh, .int .i64 n] w fun e w' => e = .returned (.bool true) ∧ Below w.heap.size w w' := by
  have hb := below1 w (.cells #[.pointer (some ⟨bh, 0, none⟩)] 54)
  have hle := h.le
  have H1 := fun w' (hB : Below w.heap.size w w') => wordsM (h.below hB)
  have H2 := fun w' (hB : Below w.heap.size w w') => usedM (h.below hB)
  have c0 := cell_row1 (heap_alloc_new w (.cells #[.pointer (some ⟨bh, 0, none⟩)] 54))
  have hd : decide ((n : Int) ≤ IntKind.i64.wrap ((lim : Int) - (used : Int))) = true := by rw [IntKind.wrap_i64]; simp; omega
  have HD : Hid _ := hd
  clear hd
  unfold mem
  go_enter Tryz.func52, Tryz.ntmps52
  go_wp2
  go_region_held3 (fun W => W.cell? ⟨w.heap.size, 0, none⟩ = some (.pointer (some ⟨bh, 0, none⟩))) (first | exact c0 | go_keep)
    ((first
      | (go_at_call 49; refine (H1 _ (below_drew hb)).mono ?_; rintro e w' ⟨rfl, hw'⟩; obtain rfl := hw'.symm)
      | (go_at_call 13; refine (H2 _ (below_drew hb)).mono ?_; rintro e w' ⟨rfl, hw'⟩; obtain rfl := hw'.symm)))
  all_goals
    go_wp2
    go_ret
    exact ⟨by rw [← HD.out]; rfl, below_drew hb⟩

theorem two_items (k used n : Nat) (Z L : List Nat) (hs : Srt 0 (M ++ [⟨used, k, [0, 0]⟩] ++ [⟨used + 2 + 1, 8, Z⟩])) :
    put (put (put (M ++ [⟨used, k, [0, 0]⟩] ++ [⟨used + 2 + 1, 8, Z⟩]) used [0, used + 4]) (used + 2 + 1) L) used [n, used + 4] = M ++ [⟨used, k, [n, used + 4]⟩] ++ [⟨used + 3, 8, L⟩] := by
  have hne : ∀ q ∈ M, q.at_ ≠ used ∧ q.at_ ≠ used + 2 + 1 := by
    intro q hq
    rw [List.append_assoc] at hs
    have h1 := Srt.apart hs q hq ⟨used, k, [0, 0]⟩ (by simp)
    simp only [Ob.end_] at h1
    omega
  have n1 : ¬ used = used + 2 + 1 := by omega
  have n2 : ¬ used + 2 + 1 = used := by omega
  unfold put
  simp only [List.map_append, List.map_map, List.map_cons, List.map_nil]
  congr 1
  · congr 1
    · refine (List.map_congr_left (g := id) (fun q hq => ?_)).trans (List.map_id M)
      obtain ⟨h1, h2⟩ := hne q hq
      simp [Function.comp, h1, h2]
    · simp [n1]
  · simp [n2]

set_option maxRecDepth 20000 in
set_option maxHeartbeats 1000000 in
theorem newRow_ok (h : Hp n₀ bh b vw vb w lim used M) (k : Nat) (hk : k = 4 ∨ k = 5) (room : Nat) {p : Option Addr} {vs : List Vl} (c : Nat) (hv : ValsT w p vs) (hk8 : ∀ v ∈ vs, v.k < 256) (hr0 : 0 < room) (hr : vs.length ≤ room) (hf : used + 4 + 2 * room ≤ lim) :
    Calls Tryz.prog 21 #[mem bh, .int .u8 k, .slice p vs.length c, .int .i64 room] w fun e w' => e = .returned (.tuple #[.agg #[.int .u8 k, .int .i64 used], .int .i64 0]) ∧
      ∃ vw' vb', Hp n₀ bh b vw' vb' w' lim (used + 4 + 2 * room) (M ++ [⟨used, k, [vs.length, used + 4]⟩] ++ [⟨used + 3, 8, lays (List.replicate (2 * room) 0) 0 vs⟩]) ∧ Step b vw vb w vw' vb' w' := by
  have hle := h.le
  have H1 := fun w' (hB : Below w.heap.size w w') => fits_yes (h.below hB) (4 + 2 * room) (by omega)
  have H2 := fun w' (hB : Below w.heap.size w w') => allocM (h.below hB) k 2 (by omega) (by omega) (by omega)
  have hr0' : (0 : Int) < (room : Int) := by omega
  have hb2 := below2' w (.cells #[.pointer (some ⟨bh, 0, none⟩)] 54) (.cells #[.int .u8 0, .int .i64 0] 29)
  have HV : Hid (∀ k, vw.ownBlock = some k → k < w.heap.size) := fun k e => (h.blocks k (.inr (.inr (.inl e)))).2.1
  rw [show ((4 + 2 * room : Nat) : Int) = 3 + (1 + 2 * (room : Int)) by omega] at H1
  unfold mem at H1 ⊢
  go_enter Tryz.func21, Tryz.ntmps21
  go_wp2_with (first
    | (go_at_call 52; refine (H1 _ hb2).mono ?_; clear H1; rintro e w1 ⟨rfl, hB1⟩; obtain ⟨m1, m2, hBz⟩ := later2o hB1; have c0 := cell_row1 m1)
    | (go_at_call 53; refine (H2 _ hBz).mono ?_; clear H2; rintro e w2 ⟨rfl, vw2, vb2, hp2, hS2⟩
       have k1 := ((h.below hBz).stays hS2 m1 (fun cur t e => by cases e; decide)).trans m1; have k2 := ((h.below hBz).stays hS2 m2 (fun cur t e => by cases e; decide)).trans m2; have c0 := cell_row1 k1
       have H3 := allocM hp2 8 (2 * room) (by omega) (by omega) (by omega)
       rw [show ((2 * room : Nat) : Int) = 2 * (room : Int) by omega] at H3)
    | (go_at_call 53; refine H3.mono ?_; clear H3; rintro e w3 ⟨rfl, vw3, vb3, hp3, hS3⟩
       have k3 := (hp2.stays hS3 k1 (fun cur t e => by cases e; decide)).trans k1; have k4 := (hp2.stays hS3 k2 (fun cur t e => by cases e; decide)).trans k2; have c0 := cell_row1 k3
       have H4 := write_at hp3 (o := ⟨used, k, List.replicate 2 0⟩) (by simp) 1 (used + 2 + 1 + 1) (by simp) (by omega)
       simp only [Int.natCast_add, show ((1 : Nat) : Int) = 1 from rfl, show ((2 : Nat) : Int) = 2 from rfl] at H4)
    | (go_at_call 54; refine H4.mono ?_; clear H4; rintro e w4 ⟨rfl, hp4, hS4⟩
       have k5 := (hp3.stays hS4 k3 (fun cur t e => by cases e; decide)).trans k3; have k6 := (hp3.stays hS4 k4 (fun cur t e => by cases e; decide)).trans k4; have c0 := cell_row1 k5
       have hS24 := (hS2.trans hS3).trans hS4
       have hv4 : ValsT w4 p vs := (((hv.below hBz).step (h.below hBz) hS2).step hp2 hS3).step hp3 hS4
       have H5 := add_at hp4 (o := ⟨used, k, [0, used + 4]⟩) (q := ⟨used + 2 + 1, 8, List.replicate (2 * room) 0⟩) (put_mem (o := ⟨used, k, List.replicate 2 0⟩) (by simp) _) (put_other (by simp) (by simp only; omega) _) (by simp only; omega) 0 0 c hv4 hk8 (by simp; omega) (by simp)
       simp only [Int.natCast_add, show ((1 : Nat) : Int) = 1 from rfl, show ((2 : Nat) : Int) = 2 from rfl, show ((0 : Nat) : Int) = 0 from rfl] at H5
       unfold mem at H5)
    | (go_at_call 55; refine H5.mono ?_; clear H5; rintro e w5 ⟨rfl, hp5, hS5⟩
       have k8 := (hp4.stays hS5 k6 (fun cur t e => by cases e; decide)).trans k6; obtain ⟨⟨x0, x1⟩, y0, y1⟩ := cell_row2f k8))
  refine bodyPost_ret (results_row_tmp (by rfl) _ _ (w.heap.size + 1) 29 #[.int .u8 k, .int .i64 used] (0, 0) _ (by rfl) (set2_row k8) Tryz.underlying29 (by rfl) infoVal2) (by rfl) ?_
  have hS := Step.belowL hBz (hS24.trans hS5) HV.out
  refine ⟨rfl, vw3, vb3, ?_, step_set2 hS (by omega) _ _⟩
  have hfin : Hp n₀ bh b vw3 vb3 w5 lim (used + 4 + 2 * room) (M ++ [⟨used, k, [vs.length, used + 4]⟩] ++ [⟨used + 3, 8, lays (List.replicate (2 * room) 0) 0 vs⟩]) := by
    have := hp5
    rw [← two_items k used vs.length (List.replicate (2 * room) 0) _ hp3.srt.1, show used + 4 + 2 * room = used + 2 + 1 + 2 * room + 1 by omega]
    simpa using this
  refine hfin.kept (fun i hi => ?_)
  have hne : i ≠ w.heap.size + 1 := fun e => hp5.other k8 (fun cur t e => by cases e; decide) (by rw [← e]; exact hi)
  rw [heap_setCell_other _ ⟨w.heap.size + 1, 1, none⟩ i _ hne, heap_setCell_other _ ⟨w.heap.size + 1, 0, none⟩ i _ hne]

set_option maxRecDepth 20000 in
set_option maxHeartbeats 1000000 in
theorem newRow_none (h : Hp n₀ bh b vw vb w lim used M) (k : Nat) (hk : k = 4 ∨ k = 5) (p : Option Addr) (c : Nat) (hf : used + 3 ≤ lim) :
    Calls Tryz.prog 21 #[mem bh, .int .u8 k, .slice p 0 c, .int .i64 0] w fun e w' => e = .returned (.tuple #[.agg #[.int .u8 k, .int .i64 used], .int .i64 0]) ∧
      ∃ vw' vb', Hp n₀ bh b vw' vb' w' lim (used + 3) (M ++ [⟨used, k, [0, 0]⟩]) ∧ Step b vw vb w vw' vb' w' := by
  have hle := h.le
  have H1 := fun w' (hB : Below w.heap.size w w') => fits_yes (h.below hB) 3 (by omega)
  have H2 := fun w' (hB : Below w.heap.size w w') => allocM (h.below hB) k 2 (by omega) (by omega) (by omega)
  have hb2 := below2' w (.cells #[.pointer (some ⟨bh, 0, none⟩)] 54) (.cells #[.int .u8 0, .int .i64 0] 29)
  have HV : Hid (∀ k, vw.ownBlock = some k → k < w.heap.size) := fun k e => (h.blocks k (.inr (.inr (.inl e)))).2.1
  unfold mem at H1 ⊢
  go_enter Tryz.func21, Tryz.ntmps21
  go_wp2_with (first
    | (go_at_call 52; refine (H1 _ hb2).mono ?_; clear H1; rintro e w1 ⟨rfl, hB1⟩; obtain ⟨m1, m2, hBz⟩ := later2o hB1; have c0 := cell_row1 m1)
    | (go_at_call 53; refine (H2 _ hBz).mono ?_; clear H2; rintro e w2 ⟨rfl, vw2, vb2, hp2, hS2⟩
       have k2 := ((h.below hBz).stays hS2 m2 (fun cur t e => by cases e; decide)).trans m2; obtain ⟨⟨x0, x1⟩, y0, y1⟩ := cell_row2f k2))
  refine bodyPost_ret (results_row_tmp (by rfl) _ _ (w.heap.size + 1) 29 #[.int .u8 k, .int .i64 used] (0, 0) _ (by rfl) (set2_row k2) Tryz.underlying29 (by rfl) infoVal2) (by rfl) ?_
  refine ⟨rfl, vw2, vb2, ?_, step_set2 (Step.belowL hBz hS2 HV.out) (by omega) _ _⟩
  refine Hp.kept (show Hp n₀ bh b vw2 vb2 w2 lim (used + 3) (M ++ [⟨used, k, [0, 0]⟩]) from hp2) (fun i hi => ?_)
  have hne : i ≠ w.heap.size + 1 := fun e => hp2.other k2 (fun cur t e => by cases e; decide) (by rw [← e]; exact hi)
  rw [heap_setCell_other _ ⟨w.heap.size + 1, 1, none⟩ i _ hne, heap_setCell_other _ ⟨w.heap.size + 1, 0, none⟩ i _ hne]

end Go.Proofs.YtkombdkhodjckaaGreat
