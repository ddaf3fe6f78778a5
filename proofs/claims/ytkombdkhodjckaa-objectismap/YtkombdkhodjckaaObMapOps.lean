/- Get, Put, Len, Items of a map. -/
import Derived.Test.YtkombdkhodjckaaObKeyG
import Derived.Test.YtkombdkhodjckaaObAlive
namespace Go.Proofs.Ytkombdkhodjckaa
set_option linter.unusedVariables false
set_option linter.unusedSimpArgs false
open Go.RowKit

variable {n₀ bh b lim used : Nat} {vw vb : Value} {w : World} {M : List Ob} {at_ room inn : Nat} {vs : List Vl} {c : Vl → Bool}

/-- keyAt is told by c. -/
def KeyTold (bh : Nat) (vs : List Vl) (room inn : Nat) (c : Vl → Bool) (key : Vl) (w : World) : Prop :=
  ∀ w', Below w.heap.size w w' → Calls Try.prog 52 #[mem bh, .agg #[.int .i64 vs.length, .int .i64 room, .int .i64 inn, .int .i64 0], .agg #[.int .u8 key.k, .int .i64 key.n]] w' fun e w'' => KeyAns vs c e ∧ Below w'.heap.size w' w''

theorem KeyTold.yes {key : Vl} (h : KeyTold bh vs room inn c key w) {i : Nat} (hi : FirstAt vs c i) : ∀ w', Below w.heap.size w w' → Calls Try.prog 52 #[mem bh, .agg #[.int .i64 vs.length, .int .i64 room, .int .i64 inn, .int .i64 0], .agg #[.int .u8 key.k, .int .i64 key.n]] w' fun e w'' => e = .returned (.tuple #[.int .i64 i, .bool true]) ∧ Below w'.heap.size w' w'' := fun w' hB => (h w' hB).mono (fun e w'' ⟨ho, hB2⟩ => by
  rcases ho with ⟨j, hj, rfl⟩ | ⟨hno, _⟩
  · rw [hi.uniq hj]; exact ⟨rfl, hB2⟩
  · exact (hno.no hi).elim)

theorem KeyTold.no {key : Vl} (h : KeyTold bh vs room inn c key w) (hi : NoneAt vs c) : ∀ w', Below w.heap.size w w' → Calls Try.prog 52 #[mem bh, .agg #[.int .i64 vs.length, .int .i64 room, .int .i64 inn, .int .i64 0], .agg #[.int .u8 key.k, .int .i64 key.n]] w' fun e w'' => (∃ j : Int, e = .returned (.tuple #[.int .i64 j, .bool false])) ∧ Below w'.heap.size w' w'' := fun w' hB => (h w' hB).mono (fun e w'' ⟨ho, hB2⟩ => by
  rcases ho with ⟨j, hj, rfl⟩ | ⟨hno, j, rfl⟩
  · exact (hi.no hj).elim
  · exact ⟨⟨j, rfl⟩, hB2⟩)

set_option maxRecDepth 20000 in
set_option maxHeartbeats 1000000 in
theorem Rw.valueOf_yes {kind : Nat} (r : Rw M at_ kind vs room inn) (h : Hp n₀ bh b vw vb w lim used M) (hl : vs.length ≤ 131072) {key v : Vl} (HK : KeyTold bh vs room inn c key w) {i : Nat} (hi : FirstAt vs c i) (hv : vs[i + 1]? = some v) :
    Calls Try.prog 29 #[mem bh, .agg #[.int .i64 vs.length, .int .i64 room, .int .i64 inn, .int .i64 0], .agg #[.int .u8 key.k, .int .i64 key.n]] w fun e w' => e = .returned (.agg #[.int .u8 v.k, .int .i64 v.n]) ∧ Below w.heap.size w w' := by
  have hil := (List.getElem?_eq_some_iff.1 hv).1
  have hb4 := below4' w (.cells #[.pointer (some ⟨bh, 0, none⟩)] 55) (.cells #[.int .i64 vs.length, .int .i64 room, .int .i64 inn, .int .i64 0] 61) (.cells #[.int .u8 key.k, .int .i64 key.n] 26) (.cells #[.int .u8 0, .int .i64 0] 26)
  have H1 := HK.yes hi
  have H2 := fun w' (hB : Below w.heap.size w w') => r.value (h.below hB) hv (by omega)
  simp only [Int.natCast_add, show ((1 : Nat) : Int) = 1 from rfl] at H2
  unfold mem at H1 H2 ⊢
  clear HK r hi
  go_enter Try.func29, Try.ntmps29
  go_wp2_with (first
    | (go_at_call 52; refine (H1 _ hb4).mono ?_; clear H1; rintro e w1 ⟨rfl, hB1⟩; obtain ⟨m0, m1, m2, m3, hBz⟩ := later4o hB1; have c0 := cell_row1 m0; have ⟨⟨d0, d1, d2, d3⟩, _⟩ := cell_row4 m1)
    | (go_at_call 30; refine (H2 _ hBz).mono ?_; clear H2; rintro e w2 ⟨rfl, hB2⟩; have m4 := (hB2.block _ (Array.getElem?_eq_some_iff.1 m3).1).trans m3; obtain ⟨⟨x0, x1⟩, y0, y1⟩ := cell_row2f m4))
  refine bodyPost_ret (results_cell_row (by rfl) _ _ (w.heap.size + 1 + 1 + 1) 26 _ _ _ (by rfl) (set2_row m4) Try.underlying26 (by rfl) infoVal3) (by rfl) ?_
  exact ⟨rfl, below_set (below_set (hBz.trans (hB2.mono hBz.size)) (by omega) _) (by omega) _⟩

set_option maxRecDepth 20000 in
set_option maxHeartbeats 1000000 in
theorem Rw.valueOf_no {key : Vl} (HK : KeyTold bh vs room inn c key w) (hi : NoneAt vs c) :
    Calls Try.prog 29 #[mem bh, .agg #[.int .i64 vs.length, .int .i64 room, .int .i64 inn, .int .i64 0], .agg #[.int .u8 key.k, .int .i64 key.n]] w fun e w' => e = .returned (.agg #[.int .u8 0, .int .i64 0]) ∧ Below w.heap.size w w' := by
  have hb4 := below4' w (.cells #[.pointer (some ⟨bh, 0, none⟩)] 55) (.cells #[.int .i64 vs.length, .int .i64 room, .int .i64 inn, .int .i64 0] 61) (.cells #[.int .u8 key.k, .int .i64 key.n] 26) (.cells #[.int .u8 0, .int .i64 0] 26)
  have H1 := HK.no hi
  unfold mem at H1 ⊢
  clear HK hi
  go_enter Try.func29, Try.ntmps29
  go_wp2_with (first
    | (go_at_call 52; refine (H1 _ hb4).mono ?_; clear H1; rintro e w1 ⟨⟨j, rfl⟩, hB1⟩; obtain ⟨m0, m1, m2, m3, hBz⟩ := later4o hB1; obtain ⟨⟨x0, x1⟩, y0, y1⟩ := cell_row2f m3))
  refine bodyPost_ret (results_cell_row (by rfl) _ _ (w.heap.size + 1 + 1 + 1) 26 _ _ _ (by rfl) (set2_row m3) Try.underlying26 (by rfl) infoVal3) (by rfl) ?_
  exact ⟨rfl, below_set (below_set hBz (by omega) _) (by omega) _⟩

set_option maxRecDepth 20000 in
set_option maxHeartbeats 1000000 in
/-- Get of a map, by what valueOf tells. -/
theorem Rw.getMap (r : Rw M at_ 5 vs room inn) (h : Hp n₀ bh b vw vb w lim used M) (hl1 : 1 ≤ lim) {n : Nat} (he : vs.length = 2 * n) (hn : n ≤ 65536) (key res : Vl)
    (HO : ∀ w', Below w.heap.size w w' → Calls Try.prog 29 #[mem bh, .agg #[.int .i64 vs.length, .int .i64 room, .int .i64 inn, .int .i64 0], .agg #[.int .u8 key.k, .int .i64 key.n]] w' fun e w'' => e = .returned (.agg #[.int .u8 res.k, .int .i64 res.n]) ∧ Below w'.heap.size w' w'') :
    Calls Try.prog 12 #[.pointer (some ⟨bh, 0, none⟩), .agg #[.int .u8 5, .int .i64 at_], .agg #[.int .u8 key.k, .int .i64 key.n]] w fun e w' => e = .returned (.tuple #[.agg #[.int .u8 res.k, .int .i64 res.n], .int .i64 0]) ∧ Below w.heap.size w w' := by
  have H1 := fun w' (hB : Below w.heap.size w w') p (hk : Kinds w' p [3, 4, 5]) => take_row (h.below hB) hl1 (fun w'' hB' => r.find5 ((h.below hB).below hB') he hn) 3 hk (by simp) (by simp)
  obtain ⟨N, hN⟩ : ∃ N, N = vs.length := ⟨_, rfl⟩
  rw [← hN] at H1 HO
  clear hN r he
  unfold mem at H1 HO
  go_enter Try.func12, Try.ntmps12
  go_wp2_with (first
    | (go_at_call 26; go_loud (refine (H1 _ (below5' _ _ _ _ _ _) _ (kinds3 _ _ _ _ _ _ (heap5_4 _ _ _ _ _ _))).mono ?_; clear H1; rintro e w1 ⟨rfl, hB1⟩; obtain ⟨⟨m1, m2, m3, m4⟩, hBz⟩ := later5o hB1)
       have k1 := alloc_keeps m1 (.cells #[.int .i64 N, .int .i64 room, .int .i64 inn, .int .i64 0] 61); have k2 := alloc_keeps m2 (.cells #[.int .i64 N, .int .i64 room, .int .i64 inn, .int .i64 0] 61); have k3 := alloc_keeps m3 (.cells #[.int .i64 N, .int .i64 room, .int .i64 inn, .int .i64 0] 61); have k4 := alloc_keeps m4 (.cells #[.int .i64 N, .int .i64 room, .int .i64 inn, .int .i64 0] 61)
       have ⟨d0, d1⟩ := cell_row2 k1; have ⟨d2, d3⟩ := cell_row2 k2; have d4 := cell_row1 k4; have hBy := hBz.alloc hBz.size (.cells #[.int .i64 N, .int .i64 room, .int .i64 inn, .int .i64 0] 61))
    | (go_at_call 29; refine (HO _ hBy).mono ?_; clear HO; rintro e w2 ⟨rfl, hB2⟩; have k5 := (hB2.block _ (Array.getElem?_eq_some_iff.1 k3).1).trans k3; obtain ⟨⟨x0, x1⟩, f0, f1⟩ := cell_row2f k5))
  refine bodyPost_ret (results_row_tmp (by rfl) _ _ (w.heap.size + 1 + 1) 26 #[.int .u8 res.k, .int .i64 res.n] (0, 0) _ (by rfl) (set2_row k5) Try.underlying26 (by rfl) infoVal2) (by rfl) ?_
  exact ⟨rfl, below_set (below_set (hBy.trans (hB2.mono hBy.size)) (by omega) _) (by omega) _⟩

set_option maxRecDepth 20000 in
set_option maxHeartbeats 1000000 in
theorem Rw.lenMap (r : Rw M at_ 5 vs room inn) (h : Hp n₀ bh b vw vb w lim used M) (hl1 : 1 ≤ lim) {n : Nat} (he : vs.length = 2 * n) (hn : n ≤ 65536) :
    Calls Try.prog 10 #[.pointer (some ⟨bh, 0, none⟩), .agg #[.int .u8 5, .int .i64 at_]] w fun e w' => e = .returned (.tuple #[.int .i64 n, .int .i64 0]) ∧ Below w.heap.size w w' := by
  have H1 := fun w' (hB : Below w.heap.size w w') p (hk : Kinds w' p [3, 4, 5]) => take_row (h.below hB) hl1 (fun w'' hB' => r.find5 ((h.below hB).below hB') he hn) 3 hk (by simp) (by simp)
  obtain ⟨N, hN⟩ : ∃ N, N = vs.length := ⟨_, rfl⟩
  rw [← hN] at H1
  have hq : (N : Int).tdiv 2 = (n : Int) := by rw [Int.tdiv_eq_ediv_of_nonneg (by omega)]; omega
  clear hN r he
  unfold mem at H1
  go_enter Try.func10, Try.ntmps10
  go_wp2_with (first
    | (go_at_call 26; refine (H1 _ (below2' _ _ _) _ (kinds3 _ _ _ _ _ _ (heap_two _ _ _))).mono ?_; clear H1; rintro e w1 ⟨rfl, hB1⟩; obtain ⟨m1, m2, hBz⟩ := later2o hB1
       have ⟨d0, d1⟩ := cell_row2 (alloc_keeps m1 (.cells #[.int .i64 N, .int .i64 room, .int .i64 inn, .int .i64 0] 61))))
  refine bodyPost_ret (results_tmp2 (by rfl) _ _ _) (by rfl) ?_
  exact ⟨rfl, hBz.alloc hBz.size _⟩

set_option maxRecDepth 20000 in
set_option maxHeartbeats 1000000 in
/-- The values, by what take finds. -/
theorem Rw.items5 (r : Rw M at_ 5 vs room inn) (h : Hp n₀ bh b vw vb w lim used M) (hl1 : 1 ≤ lim) {n : Nat} (he : vs.length = 2 * n) (hn : n ≤ 65536) :
    Calls Try.prog 19 #[.pointer (some ⟨bh, 0, none⟩), .agg #[.int .u8 5, .int .i64 at_]] w fun e w' => ∃ p c, e = .returned (.tuple #[.slice p vs.length c, .int .i64 0]) ∧ w'.ownsRow w.heap.size 26 2 (.slice p vs.length c) vs.length (vcells vs) ∧ Below w.heap.size w w' := by
  have hb2 := below2' w (.cells #[.int .u8 5, .int .i64 at_] 26) (.cells #[.pointer (some ⟨bh, 0, none⟩)] 55)
  have H1 := fun w' (hB : Below w.heap.size w w') p (hk : Kinds w' p [4, 5]) => take_row (h.below hB) hl1 (fun w'' hB' => r.find5 ((h.below hB).below hB') he hn) 2 hk (by simp) (by simp)
  have H2 := fun w' (hB : Below w.heap.size w w') => r.values (h.below hB) (by omega)
  unfold mem at H1 H2
  clear r he
  go_enter Try.func19, Try.ntmps19
  go_wp2_with (first
    | (go_at_call 26; go_loud (refine (H1 _ (below3' _ _ _ _) _ (kinds2 _ _ _ _ _ (heap3_2 _ _ _ _))).mono ?_; clear H1; rintro e w1 ⟨rfl, hB1⟩; obtain ⟨m1, m2, m3, hBz⟩ := later3o hB1)
       have k2 := alloc_keeps m2 (.cells #[.int .i64 vs.length, .int .i64 room, .int .i64 inn, .int .i64 0] 61); have d4 := cell_row1 k2; have hBy := hBz.alloc hBz.size (.cells #[.int .i64 vs.length, .int .i64 room, .int .i64 inn, .int .i64 0] 61)
       have ⟨⟨x0, x1, x2, x3⟩, _⟩ := cell_row4 (heap_alloc_new w1 (.cells #[.int .i64 vs.length, .int .i64 room, .int .i64 inn, .int .i64 0] 61)))
    | (go_at_call 37; refine (H2 _ hBy).mono ?_; clear H2; rintro e w2 ⟨p, c, rfl, hrow, hB2⟩))
  go_ret2
  exact ⟨p, c, rfl, row_mono2 hrow hBy.size, hBy.trans (hB2.mono hBy.size)⟩

set_option maxRecDepth 20000 in
set_option maxHeartbeats 1000000 in
/-- A key that is there gets another value. -/
theorem Rw.putPair_yes (r : Rw M at_ 5 vs room inn) (h : Hp n₀ bh b vw vb w lim used M) (hl : vs.length ≤ 131072) {key x : Vl} (hk : MayHeld M key.k key.n) (hx : MayHeld M x.k x.n) (hfx : Fit x) (HK : KeyTold bh vs room inn c key w) {i : Nat} (hi : FirstAt vs c i) (hil : i + 1 < vs.length) :
    Calls Try.prog 35 #[mem bh, .int .i64 at_, .agg #[.int .i64 vs.length, .int .i64 room, .int .i64 inn, .int .i64 0], .agg #[.int .u8 key.k, .int .i64 key.n], .agg #[.int .u8 x.k, .int .i64 x.n]] w fun e w' => e = .returned (.int .i64 0) ∧
      ∃ M', Hp n₀ bh b vw vb w' lim used M' ∧ Step b vw vb w vw vb w' ∧ Rw M' at_ 5 (vs.set (i + 1) x) room inn ∧ Kept M M' at_ inn room := by
  have hb4 := below4' w (.cells #[.pointer (some ⟨bh, 0, none⟩)] 55) (.cells #[.int .i64 vs.length, .int .i64 room, .int .i64 inn, .int .i64 0] 61) (.cells #[.int .u8 key.k, .int .i64 key.n] 26) (.cells #[.int .u8 x.k, .int .i64 x.n] 26)
  have HV : Hid (∀ k, vw.ownBlock = some k → k < w.heap.size) := fun k e => (h.blocks k (.inr (.inr (.inl e)))).2.1
  have H1 := fun w' (hB : Below w.heap.size w w') => mayBeHeld_yes (h.below hB) key.k key.n hk
  have H2 := fun w' (hB : Below w.heap.size w w') => mayBeHeld_yes (h.below hB) x.k x.n hx
  have H3 := HK.yes hi
  have H4 := fun w' (hB : Below w.heap.size w w') => r.hold (h.below hB) hil hfx
  simp only [Int.natCast_add, show ((1 : Nat) : Int) = 1 from rfl] at H4
  unfold mem at H1 H2 H3 H4 ⊢
  clear HK r hi
  go_enter Try.func35, Try.ntmps35
  go_wp2_with (first
    | (go_at_call 55; (with_reducible refine (H1 _ hb4).mono ?_); clear H1; rintro e w1 ⟨rfl, hB1⟩; obtain ⟨m0, m1, m2, m3, hBz⟩ := later4o hB1; have c0 := cell_row1 m0; have ⟨⟨d0, d1, d2, d3⟩, _⟩ := cell_row4 m1; have ⟨e0, e1⟩ := cell_row2 m2; have ⟨f0, f1⟩ := cell_row2 m3)
    | (go_at_call 55; (with_reducible refine (H2 _ hBz).mono ?_); clear H2; rintro e w2 ⟨rfl, hB2⟩; have hBy := hBz.trans (hB2.mono hBz.size); have n0 := (hB2.block _ (Array.getElem?_eq_some_iff.1 m0).1).trans m0; have n1 := (hB2.block _ (Array.getElem?_eq_some_iff.1 m1).1).trans m1; have n2 := (hB2.block _ (Array.getElem?_eq_some_iff.1 m2).1).trans m2; have n3 := (hB2.block _ (Array.getElem?_eq_some_iff.1 m3).1).trans m3; have c0 := cell_row1 n0; have ⟨⟨d0, d1, d2, d3⟩, _⟩ := cell_row4 n1; have ⟨e0, e1⟩ := cell_row2 n2; have ⟨f0, f1⟩ := cell_row2 n3)
    | (go_at_call 52; (with_reducible refine (H3 _ hBy).mono ?_); clear H3; rintro e w3 ⟨rfl, hB3⟩; have hBx := hBy.trans (hB3.mono hBy.size); have o0 := (hB3.block _ (Array.getElem?_eq_some_iff.1 n0).1).trans n0; have o1 := (hB3.block _ (Array.getElem?_eq_some_iff.1 n1).1).trans n1; have o3 := (hB3.block _ (Array.getElem?_eq_some_iff.1 n3).1).trans n3; have c0 := cell_row1 o0; have ⟨⟨d0, d1, d2, d3⟩, _⟩ := cell_row4 o1; have ⟨f0, f1⟩ := cell_row2 o3)
    | (go_at_call 59; (with_reducible refine (H4 _ hBx).mono ?_); clear H4; rintro e w4 ⟨rfl, M', hp4, hS4, hR4, hK4⟩))
  go_ret
  exact ⟨rfl, M', hp4, Step.belowL hBx hS4 HV.out, hR4, hK4⟩

set_option maxRecDepth 20000 in
set_option maxHeartbeats 1000000 in
/-- A key that is not there is put behind. -/
theorem Rw.putPair_no (r : Rw M at_ 5 vs room inn) (h : Hp n₀ bh b vw vb w lim used M) (hl : vs.length < 131072) (hr20 : room ≤ 131072) {key x : Vl} (hk : MayHeld M key.k key.n) (hx : MayHeld M x.k x.n) (hfk : Fit key) (hfx : Fit x) (HK : KeyTold bh vs room inn c key w) (hi : NoneAt vs c) (hle : vs.length + 2 ≤ max 8 (2 * room)) (hf : vs.length + 2 ≤ room ∨ used + 2 * max 8 (2 * room) + 1 ≤ lim) :
    Calls Try.prog 35 #[mem bh, .int .i64 at_, .agg #[.int .i64 vs.length, .int .i64 room, .int .i64 inn, .int .i64 0], .agg #[.int .u8 key.k, .int .i64 key.n], .agg #[.int .u8 x.k, .int .i64 x.n]] w fun e w' => e = .returned (.int .i64 0) ∧
      ∃ vw' vb' used' M' room' inn', Hp n₀ bh b vw' vb' w' lim used' M' ∧ Step b vw vb w vw' vb' w' ∧ Rw M' at_ 5 (vs ++ [key, x]) room' inn' ∧ Kept M M' at_ inn room ∧
        (vs.length + 2 ≤ room → room' = room ∧ used' = used) ∧ (room < vs.length + 2 → room' = max 8 (2 * room) ∧ used' = used + 2 * room' + 1) := by
  have hb4 := below4' w (.cells #[.pointer (some ⟨bh, 0, none⟩)] 55) (.cells #[.int .i64 vs.length, .int .i64 room, .int .i64 inn, .int .i64 0] 61) (.cells #[.int .u8 key.k, .int .i64 key.n] 26) (.cells #[.int .u8 x.k, .int .i64 x.n] 26)
  have HV : Hid (∀ k, vw.ownBlock = some k → k < w.heap.size) := fun k e => (h.blocks k (.inr (.inr (.inl e)))).2.1
  have H1 := fun w' (hB : Below w.heap.size w w') => mayBeHeld_yes (h.below hB) key.k key.n hk
  have H2 := fun w' (hB : Below w.heap.size w w') => mayBeHeld_yes (h.below hB) x.k x.n hx
  have H3 := HK.no hi
  have H4 := fun w' (hB : Below w.heap.size w w') p (hv : ValsT w' p [key, x]) => r.push (h.below hB) (least := 8) (by omega) (by omega) hr20 2 hv (by intro v hv; simp at hv; rcases hv with rfl | rfl; exact hfk; exact hfx) (by simp) (by simpa using hle) (by simpa using hf)
  have hne : ((vs.length : Int) == 131072) = false := by simp; omega
  simp only [List.length_cons, List.length_nil, Nat.zero_add, Nat.reduceAdd, show ((8 : Nat) : Int) = 8 from rfl] at H4
  unfold mem at H1 H2 H3 H4 ⊢
  clear HK r hi
  go_enter Try.func35, Try.ntmps35
  go_wp2_with (first
    | (go_at_call 55; (with_reducible refine (H1 _ hb4).mono ?_); clear H1; rintro e w1 ⟨rfl, hB1⟩; obtain ⟨m0, m1, m2, m3, hBz⟩ := later4o hB1; have c0 := cell_row1 m0; have ⟨⟨d0, d1, d2, d3⟩, _⟩ := cell_row4 m1; have ⟨e0, e1⟩ := cell_row2 m2; have ⟨f0, f1⟩ := cell_row2 m3)
    | (go_at_call 55; (with_reducible refine (H2 _ hBz).mono ?_); clear H2; rintro e w2 ⟨rfl, hB2⟩; have hBy := hBz.trans (hB2.mono hBz.size); have n0 := (hB2.block _ (Array.getElem?_eq_some_iff.1 m0).1).trans m0; have n1 := (hB2.block _ (Array.getElem?_eq_some_iff.1 m1).1).trans m1; have n2 := (hB2.block _ (Array.getElem?_eq_some_iff.1 m2).1).trans m2; have n3 := (hB2.block _ (Array.getElem?_eq_some_iff.1 m3).1).trans m3; have c0 := cell_row1 n0; have ⟨⟨d0, d1, d2, d3⟩, _⟩ := cell_row4 n1; have ⟨e0, e1⟩ := cell_row2 n2; have ⟨f0, f1⟩ := cell_row2 n3)
    | (go_at_call 52; (with_reducible refine (H3 _ hBy).mono ?_); clear H3; rintro e w3 ⟨⟨j, rfl⟩, hB3⟩; have hBx := hBy.trans (hB3.mono hBy.size); have o0 := (hB3.block _ (Array.getElem?_eq_some_iff.1 n0).1).trans n0; have o1 := (hB3.block _ (Array.getElem?_eq_some_iff.1 n1).1).trans n1; have o2 := (hB3.block _ (Array.getElem?_eq_some_iff.1 n2).1).trans n2; have o3 := (hB3.block _ (Array.getElem?_eq_some_iff.1 n3).1).trans n3; have c0 := cell_row1 o0; have ⟨⟨d0, d1, d2, d3⟩, _⟩ := cell_row4 o1; have ⟨e0, e1⟩ := cell_row2 o2; have ⟨f0, f1⟩ := cell_row2 o3)
    | (go_at_call 60; (with_reducible refine (H4 _ (hBx.alloc hBx.size (.cells #[.int .u8 key.k, .int .i64 key.n, .int .u8 x.k, .int .i64 x.n] 26)) _ (vals2 (heap_alloc_new w3 _))).mono ?_); clear H4; rintro e w4 ⟨rfl, vw', vb', used', M', room', inn', hp4, hS4, hR4, hK4, hU1, hU2⟩))
  go_ret
  exact ⟨rfl, vw', vb', used', M', room', inn', hp4, Step.belowL (hBx.alloc hBx.size _) hS4 HV.out, hR4, hK4, hU1, hU2⟩

end Go.Proofs.Ytkombdkhodjckaa
