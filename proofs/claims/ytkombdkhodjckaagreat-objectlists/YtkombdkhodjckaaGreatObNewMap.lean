/- NewMap; the value of a map's key. -/
import Derived.Test.YtkombdkhodjckaaGreatObOnce
import Derived.Test.YtkombdkhodjckaaGreatObMay
import Derived.Test.YtkombdkhodjckaaGreatObMap
import Derived.Test.YtkombdkhodjckaaGreatObPut
import Derived.Test.YtkombdkhodjckaaGreatObKeyAt
namespace Go.Proofs.YtkombdkhodjckaaGreat
set_option linter.unusedVariables false
set_option linter.unusedSimpArgs false
open Go.RowKit Go.Maps

variable {n₀ bh b lim used : Nat} {vw vb : Value} {w : World} {M : List Ob} {T : Vl → Option ByteArray}

/-- A row of one's own is a slice of values. -/
theorem vals_of_row {base n : Nat} {t : Value} {vs : List Vl} (h : w.ownsRow base 29 2 t n (vcells vs)) : ∃ p c, t = .slice p n c ∧ ValsT w p vs := by
  obtain ⟨p, c, rfl, h1, h2⟩ := row_form2 h
  have hn : vs.length = n := by have := h.1; rw [vcells_len] at this; omega
  refine ⟨p, c, rfl, fun j v hj => ?_, fun b0 off e => ?_⟩
  · have hj2 := (List.getElem?_eq_some_iff.1 hj).1
    obtain ⟨g, rfl⟩ := row_some2 h (by omega)
    obtain ⟨g1, g2⟩ := vcells_get vs j v hj
    have e : ∀ k, (⟨g, 0, none⟩ : Addr).add k = ⟨g, k, none⟩ := fun k => by cases k <;> simp [Addr.add]
    have h1 := h.cells (g := g) rfl _ _ g1
    have h2 := h.cells (g := g) rfl _ _ g2
    rw [e] at h1 h2
    exact ⟨g, 0, rfl, by rw [Nat.zero_add]; exact h1, by rw [Nat.zero_add]; exact h2⟩
  · by_cases h0 : 0 < n
    · obtain ⟨g, rfl⟩ := row_some2 h h0
      cases e
      exact row_typ h rfl
    · rcases h.2 with ⟨h3, _⟩ | ⟨g, cap, cur, h3, _, h4, _⟩
      · simp at h3; rw [e] at h3; simp at h3
      · simp at h3; rw [e] at h3; simp at h3; obtain ⟨⟨rfl, rfl⟩, rfl⟩ := h3; exact ⟨cur, h4⟩

set_option maxRecDepth 20000 in
set_option maxHeartbeats 1000000 in
theorem NewMap_ok (h : Hp n₀ bh b vw vb w lim used M) (hl1 : 1 ≤ lim) (ps : List (Vl × Vl)) {p : Option Addr} (c : Nat) (hv : ValsT w p (flat ps)) (hfit : ∀ q ∈ ps, q.1.fits ∧ q.2.fits) (hm : ∀ v ∈ flat ps, MayHeld M v.k v.n) (h0 : 0 < ps.length) (hl : ps.length ≤ 4096) (HT : ∀ q ∈ ps, TextTold T bh q.1 w) (hs : ∀ q ∈ ps, ∀ s, T q.1 = some s → s.size ≤ maxLen) (hf : used + 4 + 2 * (flat ps).length ≤ lim) :
    Calls Tryz.prog 16 #[.pointer (some ⟨bh, 0, none⟩), .slice p (flat ps).length c] w fun e w' => e = .returned (.tuple #[.agg #[.int .u8 5, .int .i64 used], .int .i64 0]) ∧
      ∃ vw' vb', Hp n₀ bh b vw' vb' w' lim (used + 4 + 2 * (flat ps).length) (M ++ [⟨used, 5, [(flat (once T ps)).length, used + 4]⟩] ++ [⟨used + 3, 8, lays (List.replicate (2 * (flat ps).length) 0) 0 (flat (once T ps))⟩]) ∧ Step b vw vb w vw' vb' w' := by
  have hb2 := below2' w (.cells #[.int .u8 0, .int .i64 0] 29) (.cells #[.pointer (some ⟨bh, 0, none⟩)] 54)
  have HV : Hid (∀ k, vw.ownBlock = some k → k < w.heap.size) := fun k e => (h.blocks k (.inr (.inr (.inl e)))).2.1
  have hfl := flat_len ps
  have hol := once_len T ps
  have hofl := flat_len (once T ps)
  have hof : ∀ v ∈ flat (once T ps), v.k < 256 := fun v hv' => by
    obtain ⟨q, hq, hor⟩ := flat_mem.1 hv'
    have := once_mem T Vl.fits ps [] hfit (by simp) q hq
    rcases hor with rfl | rfl
    · exact this.1.1
    · exact this.2.1
  have H1 := fun w' (hB : Below w.heap.size w w') => othere_in (h.below hB) hl1
  have H2 := fun w' (hB : Below w.heap.size w w') => allMay_yes (h.below hB) c (hv.vals.below hB) (by omega) hm
  have H3 := fun w' (hB : Below w.heap.size w w') => eachKeyOnce_in (T := T) (bh := bh) ps c (hv.vals.below hB) (by omega) hfit (fun q hq => (HT q hq).later hB) hs
  have H4 := fun w' (hB : Below w.heap.size w w') (p' : Option Addr) (c' : Nat) (hv' : ValsT w' p' (flat (once T ps))) => newRow_ok (h.below hB) 5 (.inr rfl) (flat ps).length c' hv' hof (by omega) (by omega) hf
  obtain ⟨N, hN⟩ : ∃ N, N = (flat ps).length := ⟨_, rfl⟩
  rw [← hN] at H2 H3 H4 hf ⊢
  have hl' : ¬ (131072 : Int) < (N : Int) := by omega
  have em : ((N : Int).tmod 2) = 0 := by rw [Int.tmod_eq_emod_of_nonneg (by omega)]; omega
  unfold mem at H1 H2 H3 H4
  simp only [show ((5 : Nat) : Int) = 5 from rfl] at H4
  clear hm hof HT hs hfit hv hN hfl hol hofl
  go_enter Tryz.func16, Tryz.ntmps16
  go_wp2_with (first
    | (go_at_call 19; refine (H1 _ hb2).mono ?_; clear H1; rintro e w1 ⟨rfl, hB1⟩; obtain ⟨m1, m2, hBz⟩ := laterR hB1; have c2 := cell_row1 m2)
    | (go_at_call 20; refine (H2 _ hBz).mono ?_; clear H2; rintro e w2 ⟨rfl, hB2⟩; have hBy := hBz.trans (hB2.mono hBz.size); have n1 := (hB2.block _ (Array.getElem?_eq_some_iff.1 m1).1).trans m1; have n2 := (hB2.block _ (Array.getElem?_eq_some_iff.1 m2).1).trans m2; have c3 := cell_row1 n2))
  have hD2 : Below w.heap.size w w2.drew := below_drew hBy
  have c3d : w2.drew.cell? ⟨w.heap.size + 1, 0, none⟩ = some (.pointer (some ⟨bh, 0, none⟩)) := c3
  go_region_held3 (fun W => W.cell? ⟨w.heap.size + 1, 0, none⟩ = some (.pointer (some ⟨bh, 0, none⟩)))
    (first | with_reducible exact c3d | with_reducible exact c4 | with_reducible exact c5 | with_reducible exact (cell_set2 (by simp)).trans c5 | go_keep)
    ((first
      | (go_at_call 44; (with_reducible refine (H3 _ hD2).mono ?_); clear H3; rintro e w3 ⟨v3, rfl, hrow3, hB3⟩; obtain ⟨p3, c3', rfl, hv3⟩ := vals_of_row hrow3; have hBx := hD2.trans (hB3.mono hD2.size); have o1 := (hB3.block _ (Array.getElem?_eq_some_iff.1 n1).1).trans n1; have o2 := (hB3.block _ (Array.getElem?_eq_some_iff.1 n2).1).trans n2; have c4 := cell_row1 o2)
      | (go_at_call 21; (with_reducible refine (H4 _ hBx p3 c3' hv3).mono ?_); clear H4; rintro e w4 ⟨rfl, vw', vb', hp4, hS4⟩; have m5 := ((h.below hBx).stays hS4 o1 (fun cur t e => by cases e; decide)).trans o1; have m6 := ((h.below hBx).stays hS4 o2 (fun cur t e => by cases e; decide)).trans o2; obtain ⟨⟨x0, x1⟩, f0, f1⟩ := cell_row2f m5; have c5 := cell_row1 m6)))
  all_goals
    go_wp2
    refine bodyPost_ret (results_row_tmp (by rfl) _ _ w.heap.size 29 #[.int .u8 5, .int .i64 used] (0, 0) _ (by rfl) (set2_row m5) Tryz.underlying29 (by rfl) infoVal2) (by rfl) ?_
    refine ⟨rfl, vw', vb', hp4.kept (fun k hk => ?_), step_set2 (Step.belowL hBx hS4 HV.out) (by omega) _ _⟩
    have hne : k ≠ w.heap.size := fun e => hp4.other m5 (fun cur t e => by cases e; decide) (by rw [← e]; exact hk)
    rw [heap_setCell_other _ ⟨w.heap.size, 1, none⟩ k _ hne, heap_setCell_other _ ⟨w.heap.size, 0, none⟩ k _ hne]

theorem below4' (w : World) (o1 o2 o3 o4 : Obj) : Below w.heap.size w ((((w.alloc o1).alloc o2).alloc o3).alloc o4) := allocs_below [o1, o2, o3, o4] w

theorem later4o {w w1 : World} {o1 o2 o3 o4 : Obj} (hB : Below ((((w.alloc o1).alloc o2).alloc o3).alloc o4).heap.size ((((w.alloc o1).alloc o2).alloc o3).alloc o4) w1) :
    w1.heap[w.heap.size]? = some o1 ∧ w1.heap[w.heap.size + 1]? = some o2 ∧ w1.heap[w.heap.size + 1 + 1]? = some o3 ∧ w1.heap[w.heap.size + 1 + 1 + 1]? = some o4 ∧ Below w.heap.size w w1 := by
  obtain ⟨h, hb⟩ := laterN [o1, o2, o3, o4] hB
  exact ⟨h 0 _ rfl, h 1 _ rfl, h 2 _ rfl, h 3 _ rfl, hb⟩

theorem KeyAt.uniq {ws : List Nat} {cnt k i j : Nat} {n : Int} (h : KeyAt ws cnt k n i) (g : KeyAt ws cnt k n j) : i = j := by
  obtain ⟨_, e1, h1, h2⟩ := h
  obtain ⟨_, e2, g1, g2⟩ := g
  rcases Nat.lt_trichotomy i j with hl | hl | hl
  · exact (g2 i hl e1 h1).elim
  · exact hl
  · exact (h2 j hl e2 g1).elim

set_option maxRecDepth 20000 in
set_option maxHeartbeats 1000000 in
theorem valueOf_yes (h : Hp n₀ bh b vw vb w lim used M) {q : Ob} (hq : q ∈ M) (cnt room k : Nat) (n : Int) (hk : k ≠ 3) (hk0 : k ≠ 0) (hl : 2 * cnt ≤ q.ws.length) {i : Nat} (hK : KeyAt q.ws cnt k n i) :
    Calls Tryz.prog 46 #[mem bh, .agg #[.int .i64 cnt, .int .i64 room, .int .i64 q.at_, .int .i64 0], .agg #[.int .u8 k, .int .i64 n]] w fun e w' => e = .returned (.agg #[.int .u8 (valK q.ws (2 * (i + 1))), .int .i64 (valN q.ws (2 * (i + 1)))]) ∧ Below w.heap.size w w' := by
  have h20 := at_lt h hq
  have hic := hK.1
  have hb4 := below4' w (.cells #[.pointer (some ⟨bh, 0, none⟩)] 54) (.cells #[.int .i64 cnt, .int .i64 room, .int .i64 q.at_, .int .i64 0] 58) (.cells #[.int .u8 k, .int .i64 n] 29) (.cells #[.int .u8 0, .int .i64 0] 29)
  have H1 : ∀ w', Below w.heap.size w w' → Calls Tryz.prog 58 #[mem bh, .agg #[.int .i64 cnt, .int .i64 room, .int .i64 q.at_, .int .i64 0], .agg #[.int .u8 k, .int .i64 n]] w' fun e w'' => e = .returned (.tuple #[.int .i64 i, .bool true]) ∧ Below w'.heap.size w' w'' := fun w' hB => (keyAt_plain (h.below hB) hq cnt room k n hk hk0 hl).mono (fun e w'' ⟨ho, hB2⟩ => by
    rcases ho with ⟨j, hj, rfl⟩ | ⟨hno, _⟩
    · rw [hK.uniq hj]; exact ⟨rfl, hB2⟩
    · exact (hno i hK.1 hK.2.1 hK.2.2.1).elim)
  have H2 := fun w' (hB : Below w.heap.size w w') => value_at (h.below hB) hq cnt room 0 (i + 1) (by omega) (by omega)
  simp only [Int.natCast_add, Nat.zero_add, show ((1 : Nat) : Int) = 1 from rfl, show ((0 : Nat) : Int) = 0 from rfl] at H2
  unfold mem at H1 H2 ⊢
  clear hK
  go_enter Tryz.func46, Tryz.ntmps46
  go_wp2_with (first
    | (go_at_call 58; refine (H1 _ hb4).mono ?_; clear H1; rintro e w1 ⟨rfl, hB1⟩; obtain ⟨m0, m1, m2, m3, hBz⟩ := later4o hB1; have c0 := cell_row1 m0; have ⟨⟨d0, d1, d2, d3⟩, _⟩ := cell_row4 m1)
    | (go_at_call 47; refine (H2 _ hBz).mono ?_; clear H2; rintro e w2 ⟨rfl, hB2⟩; have m4 := (hB2.block _ (Array.getElem?_eq_some_iff.1 m3).1).trans m3; obtain ⟨⟨x0, x1⟩, y0, y1⟩ := cell_row2f m4))
  refine bodyPost_ret (results_cell_row (by rfl) _ _ (w.heap.size + 1 + 1 + 1) 29 _ _ _ (by rfl) (set2_row m4) Tryz.underlying29 (by rfl) infoVal3) (by rfl) ?_
  exact ⟨rfl, below_set (below_set (hBz.trans (hB2.mono hBz.size)) (by omega) _) (by omega) _⟩

set_option maxRecDepth 20000 in
set_option maxHeartbeats 1000000 in
/-- Get of a map, by what valueOf tells. -/
theorem Get_map (h : Hp n₀ bh b vw vb w lim used M) (hl1 : 1 ≤ lim) {o q : Ob} {n room : Nat} (hr : RowOb M o q (2 * n) room) (hk5 : o.kind = 5) (hn : n ≤ 65536) (key res : Vl)
    (HO : ∀ w', Below w.heap.size w w' → Calls Tryz.prog 46 #[mem bh, .agg #[.int .i64 (2 * n : Nat), .int .i64 room, .int .i64 q.at_, .int .i64 0], .agg #[.int .u8 key.k, .int .i64 key.n]] w' fun e w'' => e = .returned (.agg #[.int .u8 res.k, .int .i64 res.n]) ∧ Below w'.heap.size w' w'') :
    Calls Tryz.prog 18 #[.pointer (some ⟨bh, 0, none⟩), .agg #[.int .u8 5, .int .i64 o.at_], .agg #[.int .u8 key.k, .int .i64 key.n]] w fun e w' => e = .returned (.tuple #[.agg #[.int .u8 res.k, .int .i64 res.n], .int .i64 0]) ∧ Below w.heap.size w w' := by
  have H1 := fun w' (hB : Below w.heap.size w w') p (hk : Kinds w' p [3, 4, 5]) => take_row (h.below hB) hl1 (fun w'' hB' => find_map ((h.below hB).below hB') hr (by omega) hk5) 3 hk (by simp) (by simp)
  obtain ⟨N, hN⟩ : ∃ N, N = 2 * n := ⟨_, rfl⟩
  rw [← hN] at H1 HO
  clear hN
  unfold mem at H1 HO
  go_enter Tryz.func18, Tryz.ntmps18
  go_wp2_with (first
    | (go_at_call 22; go_loud (refine (H1 _ (below5' _ _ _ _ _ _) _ (kinds3 _ _ _ _ _ _ (heap5_4 _ _ _ _ _ _))).mono ?_; clear H1; rintro e w1 ⟨rfl, hB1⟩; obtain ⟨⟨m1, m2, m3, m4⟩, hBz⟩ := later5o hB1)
       have k1 := alloc_keeps m1 (.cells #[.int .i64 N, .int .i64 room, .int .i64 q.at_, .int .i64 0] 58); have k2 := alloc_keeps m2 (.cells #[.int .i64 N, .int .i64 room, .int .i64 q.at_, .int .i64 0] 58); have k3 := alloc_keeps m3 (.cells #[.int .i64 N, .int .i64 room, .int .i64 q.at_, .int .i64 0] 58); have k4 := alloc_keeps m4 (.cells #[.int .i64 N, .int .i64 room, .int .i64 q.at_, .int .i64 0] 58)
       have ⟨d0, d1⟩ := cell_row2 k1; have ⟨d2, d3⟩ := cell_row2 k2; have d4 := cell_row1 k4; have hBy := hBz.alloc hBz.size (.cells #[.int .i64 N, .int .i64 room, .int .i64 q.at_, .int .i64 0] 58))
    | (go_at_call 46; refine (HO _ hBy).mono ?_; clear HO; rintro e w2 ⟨rfl, hB2⟩; have k5 := (hB2.block _ (Array.getElem?_eq_some_iff.1 k3).1).trans k3; obtain ⟨⟨x0, x1⟩, f0, f1⟩ := cell_row2f k5))
  refine bodyPost_ret (results_row_tmp (by rfl) _ _ (w.heap.size + 1 + 1) 29 #[.int .u8 res.k, .int .i64 res.n] (0, 0) _ (by rfl) (set2_row k5) Tryz.underlying29 (by rfl) infoVal2) (by rfl) ?_
  exact ⟨rfl, below_set (below_set (hBy.trans (hB2.mono hBy.size)) (by omega) _) (by omega) _⟩

end Go.Proofs.YtkombdkhodjckaaGreat
