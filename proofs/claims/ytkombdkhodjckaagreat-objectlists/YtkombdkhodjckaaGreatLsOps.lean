/- Get, Put, Len, Items of a map. -/
import Derived.Test.YtkombdkhodjckaaGreatObKeyG
import Derived.Test.YtkombdkhodjckaaGreatObAlive
import Derived.Test.YtkombdkhodjckaaGreatObPush2
namespace Go.Proofs.YtkombdkhodjckaaGreat
set_option linter.unusedVariables false
set_option linter.unusedSimpArgs false
open Go.RowKit

variable {n₀ bh b lim used : Nat} {vw vb : Value} {w : World} {M : List Ob} {at_ room inn : Nat} {vs : List Vl} {c : Vl → Bool}

/-- keyAt is told by c. -/
def KeyTold (bh : Nat) (vs : List Vl) (room inn : Nat) (c : Vl → Bool) (key : Vl) (w : World) : Prop :=
  ∀ w', Below w.heap.size w w' → Calls Tryz.prog 58 #[mem bh, .agg #[.int .i64 vs.length, .int .i64 room, .int .i64 inn, .int .i64 0], .agg #[.int .u8 key.k, .int .i64 key.n]] w' fun e w'' => KeyAns vs c e ∧ Below w'.heap.size w' w''

theorem KeyTold.yes {key : Vl} (h : KeyTold bh vs room inn c key w) {i : Nat} (hi : FirstAt vs c i) : ∀ w', Below w.heap.size w w' → Calls Tryz.prog 58 #[mem bh, .agg #[.int .i64 vs.length, .int .i64 room, .int .i64 inn, .int .i64 0], .agg #[.int .u8 key.k, .int .i64 key.n]] w' fun e w'' => e = .returned (.tuple #[.int .i64 i, .bool true]) ∧ Below w'.heap.size w' w'' := fun w' hB => (h w' hB).mono (fun e w'' ⟨ho, hB2⟩ => by
  rcases ho with ⟨j, hj, rfl⟩ | ⟨hno, _⟩
  · rw [hi.uniq hj]; exact ⟨rfl, hB2⟩
  · exact (hno.no hi).elim)

theorem KeyTold.no {key : Vl} (h : KeyTold bh vs room inn c key w) (hi : NoneAt vs c) : ∀ w', Below w.heap.size w w' → Calls Tryz.prog 58 #[mem bh, .agg #[.int .i64 vs.length, .int .i64 room, .int .i64 inn, .int .i64 0], .agg #[.int .u8 key.k, .int .i64 key.n]] w' fun e w'' => (∃ j : Int, e = .returned (.tuple #[.int .i64 j, .bool false])) ∧ Below w'.heap.size w' w'' := fun w' hB => (h w' hB).mono (fun e w'' ⟨ho, hB2⟩ => by
  rcases ho with ⟨j, hj, rfl⟩ | ⟨hno, j, rfl⟩
  · exact (hi.no hj).elim
  · exact ⟨⟨j, rfl⟩, hB2⟩)

set_option maxRecDepth 20000 in
set_option maxHeartbeats 1000000 in
theorem Rw.valueOf_yes {kind : Nat} (r : Rw M at_ kind vs room inn) (h : Hp n₀ bh b vw vb w lim used M) (hl : vs.length ≤ 131072) {key v : Vl} (HK : KeyTold bh vs room inn c key w) {i : Nat} (hi : FirstAt vs c i) (hv : vs[i + 1]? = some v) :
    Calls Tryz.prog 46 #[mem bh, .agg #[.int .i64 vs.length, .int .i64 room, .int .i64 inn, .int .i64 0], .agg #[.int .u8 key.k, .int .i64 key.n]] w fun e w' => e = .returned (.agg #[.int .u8 v.k, .int .i64 v.n]) ∧ Below w.heap.size w w' := by
  have hil := (List.getElem?_eq_some_iff.1 hv).1
  have hb4 := below4' w (.cells #[.pointer (some ⟨bh, 0, none⟩)] 54) (.cells #[.int .i64 vs.length, .int .i64 room, .int .i64 inn, .int .i64 0] 58) (.cells #[.int .u8 key.k, .int .i64 key.n] 29) (.cells #[.int .u8 0, .int .i64 0] 29)
  have H1 := HK.yes hi
  have H2 := fun w' (hB : Below w.heap.size w w') => r.value (h.below hB) hv (by omega)
  simp only [Int.natCast_add, show ((1 : Nat) : Int) = 1 from rfl] at H2
  unfold mem at H1 H2 ⊢
  clear HK r hi
  go_enter Tryz.func46, Tryz.ntmps46
  go_wp2_with (first
    | (go_at_call 58; refine (H1 _ hb4).mono ?_; clear H1; rintro e w1 ⟨rfl, hB1⟩; obtain ⟨m0, m1, m2, m3, hBz⟩ := later4o hB1; have c0 := cell_row1 m0; have ⟨⟨d0, d1, d2, d3⟩, _⟩ := cell_row4 m1)
    | (go_at_call 47; refine (H2 _ hBz).mono ?_; clear H2; rintro e w2 ⟨rfl, hB2⟩; have m4 := (hB2.block _ (Array.getElem?_eq_some_iff.1 m3).1).trans m3; obtain ⟨⟨x0, x1⟩, y0, y1⟩ := cell_row2f m4))
  refine bodyPost_ret (results_cell_row (by rfl) _ _ (w.heap.size + 1 + 1 + 1) 29 _ _ _ (by rfl) (set2_row m4) Tryz.underlying29 (by rfl) infoVal3) (by rfl) ?_
  exact ⟨rfl, below_set (below_set (hBz.trans (hB2.mono hBz.size)) (by omega) _) (by omega) _⟩

set_option maxRecDepth 20000 in
set_option maxHeartbeats 1000000 in
theorem Rw.valueOf_no {key : Vl} (HK : KeyTold bh vs room inn c key w) (hi : NoneAt vs c) :
    Calls Tryz.prog 46 #[mem bh, .agg #[.int .i64 vs.length, .int .i64 room, .int .i64 inn, .int .i64 0], .agg #[.int .u8 key.k, .int .i64 key.n]] w fun e w' => e = .returned (.agg #[.int .u8 0, .int .i64 0]) ∧ Below w.heap.size w w' := by
  have hb4 := below4' w (.cells #[.pointer (some ⟨bh, 0, none⟩)] 54) (.cells #[.int .i64 vs.length, .int .i64 room, .int .i64 inn, .int .i64 0] 58) (.cells #[.int .u8 key.k, .int .i64 key.n] 29) (.cells #[.int .u8 0, .int .i64 0] 29)
  have H1 := HK.no hi
  unfold mem at H1 ⊢
  clear HK hi
  go_enter Tryz.func46, Tryz.ntmps46
  go_wp2_with (first
    | (go_at_call 58; refine (H1 _ hb4).mono ?_; clear H1; rintro e w1 ⟨⟨j, rfl⟩, hB1⟩; obtain ⟨m0, m1, m2, m3, hBz⟩ := later4o hB1; obtain ⟨⟨x0, x1⟩, y0, y1⟩ := cell_row2f m3))
  refine bodyPost_ret (results_cell_row (by rfl) _ _ (w.heap.size + 1 + 1 + 1) 29 _ _ _ (by rfl) (set2_row m3) Tryz.underlying29 (by rfl) infoVal3) (by rfl) ?_
  exact ⟨rfl, below_set (below_set hBz (by omega) _) (by omega) _⟩

set_option maxRecDepth 20000 in
set_option maxHeartbeats 1000000 in
/-- Get of a map, by what valueOf tells. -/
theorem Rw.getMap (r : Rw M at_ 5 vs room inn) (h : Hp n₀ bh b vw vb w lim used M) (hl1 : 1 ≤ lim) {n : Nat} (he : vs.length = 2 * n) (hn : n ≤ 65536) (key res : Vl)
    (HO : ∀ w', Below w.heap.size w w' → Calls Tryz.prog 46 #[mem bh, .agg #[.int .i64 vs.length, .int .i64 room, .int .i64 inn, .int .i64 0], .agg #[.int .u8 key.k, .int .i64 key.n]] w' fun e w'' => e = .returned (.agg #[.int .u8 res.k, .int .i64 res.n]) ∧ Below w'.heap.size w' w'') :
    Calls Tryz.prog 18 #[.pointer (some ⟨bh, 0, none⟩), .agg #[.int .u8 5, .int .i64 at_], .agg #[.int .u8 key.k, .int .i64 key.n]] w fun e w' => e = .returned (.tuple #[.agg #[.int .u8 res.k, .int .i64 res.n], .int .i64 0]) ∧ Below w.heap.size w w' := by
  have H1 := fun w' (hB : Below w.heap.size w w') p (hk : Kinds w' p [3, 4, 5]) => take_row (h.below hB) hl1 (fun w'' hB' => r.find5 ((h.below hB).below hB') he hn) 3 hk (by simp) (by simp)
  obtain ⟨N, hN⟩ : ∃ N, N = vs.length := ⟨_, rfl⟩
  rw [← hN] at H1 HO
  clear hN r he
  unfold mem at H1 HO
  go_enter Tryz.func18, Tryz.ntmps18
  go_wp2_with (first
    | (go_at_call 22; go_loud (refine (H1 _ (below5' _ _ _ _ _ _) _ (kinds3 _ _ _ _ _ _ (heap5_4 _ _ _ _ _ _))).mono ?_; clear H1; rintro e w1 ⟨rfl, hB1⟩; obtain ⟨⟨m1, m2, m3, m4⟩, hBz⟩ := later5o hB1)
       have k1 := alloc_keeps m1 (.cells #[.int .i64 N, .int .i64 room, .int .i64 inn, .int .i64 0] 58); have k2 := alloc_keeps m2 (.cells #[.int .i64 N, .int .i64 room, .int .i64 inn, .int .i64 0] 58); have k3 := alloc_keeps m3 (.cells #[.int .i64 N, .int .i64 room, .int .i64 inn, .int .i64 0] 58); have k4 := alloc_keeps m4 (.cells #[.int .i64 N, .int .i64 room, .int .i64 inn, .int .i64 0] 58)
       have ⟨d0, d1⟩ := cell_row2 k1; have ⟨d2, d3⟩ := cell_row2 k2; have d4 := cell_row1 k4; have hBy := hBz.alloc hBz.size (.cells #[.int .i64 N, .int .i64 room, .int .i64 inn, .int .i64 0] 58))
    | (go_at_call 46; refine (HO _ hBy).mono ?_; clear HO; rintro e w2 ⟨rfl, hB2⟩; have k5 := (hB2.block _ (Array.getElem?_eq_some_iff.1 k3).1).trans k3; obtain ⟨⟨x0, x1⟩, f0, f1⟩ := cell_row2f k5))
  refine bodyPost_ret (results_row_tmp (by rfl) _ _ (w.heap.size + 1 + 1) 29 #[.int .u8 res.k, .int .i64 res.n] (0, 0) _ (by rfl) (set2_row k5) Tryz.underlying29 (by rfl) infoVal2) (by rfl) ?_
  exact ⟨rfl, below_set (below_set (hBy.trans (hB2.mono hBy.size)) (by omega) _) (by omega) _⟩

set_option maxRecDepth 20000 in
set_option maxHeartbeats 1000000 in
/-- The values, by what take finds. -/
theorem Rw.items5 (r : Rw M at_ 5 vs room inn) (h : Hp n₀ bh b vw vb w lim used M) (hl1 : 1 ≤ lim) {n : Nat} (he : vs.length = 2 * n) (hn : n ≤ 65536) :
    Calls Tryz.prog 9 #[.pointer (some ⟨bh, 0, none⟩), .agg #[.int .u8 5, .int .i64 at_]] w fun e w' => ∃ p c, e = .returned (.tuple #[.slice p vs.length c, .int .i64 0]) ∧ w'.ownsRow w.heap.size 29 2 (.slice p vs.length c) vs.length (vcells vs) ∧ Below w.heap.size w w' := by
  have hb2 := below2' w (.cells #[.int .u8 5, .int .i64 at_] 29) (.cells #[.pointer (some ⟨bh, 0, none⟩)] 54)
  have H1 := fun w' (hB : Below w.heap.size w w') p (hk : Kinds w' p [4, 5]) => take_row (h.below hB) hl1 (fun w'' hB' => r.find5 ((h.below hB).below hB') he hn) 2 hk (by simp) (by simp)
  have H2 := fun w' (hB : Below w.heap.size w w') => r.values (h.below hB) (by omega)
  unfold mem at H1 H2
  clear r he
  go_enter Tryz.func9, Tryz.ntmps9
  go_wp2_with (first
    | (go_at_call 22; go_loud (refine (H1 _ (below3' _ _ _ _) _ (kinds2 _ _ _ _ _ (heap3_2 _ _ _ _))).mono ?_; clear H1; rintro e w1 ⟨rfl, hB1⟩; obtain ⟨m1, m2, m3, hBz⟩ := later3o hB1)
       have k2 := alloc_keeps m2 (.cells #[.int .i64 vs.length, .int .i64 room, .int .i64 inn, .int .i64 0] 58); have d4 := cell_row1 k2; have hBy := hBz.alloc hBz.size (.cells #[.int .i64 vs.length, .int .i64 room, .int .i64 inn, .int .i64 0] 58)
       have ⟨⟨x0, x1, x2, x3⟩, _⟩ := cell_row4 (heap_alloc_new w1 (.cells #[.int .i64 vs.length, .int .i64 room, .int .i64 inn, .int .i64 0] 58)))
    | (go_at_call 25; refine (H2 _ hBy).mono ?_; clear H2; rintro e w2 ⟨p, c, rfl, hrow, hB2⟩))
  go_ret2
  exact ⟨p, c, rfl, row_mono2 hrow hBy.size, hBy.trans (hB2.mono hBy.size)⟩

set_option maxRecDepth 20000 in
set_option maxHeartbeats 1000000 in
/-- A key that is there gets another value. -/
theorem Rw.putPair_yes (r : Rw M at_ 5 vs room inn) (h : Hp n₀ bh b vw vb w lim used M) (hl : vs.length ≤ 131072) {key x : Vl} (hk : MayHeld M key.k key.n) (hx : MayHeld M x.k x.n) (hfx : Fit x) (HK : KeyTold bh vs room inn c key w) {i : Nat} (hi : FirstAt vs c i) (hil : i + 1 < vs.length) :
    Calls Tryz.prog 23 #[mem bh, .int .i64 at_, .agg #[.int .i64 vs.length, .int .i64 room, .int .i64 inn, .int .i64 0], .agg #[.int .u8 key.k, .int .i64 key.n], .agg #[.int .u8 x.k, .int .i64 x.n]] w fun e w' => e = .returned (.int .i64 0) ∧
      ∃ M', Hp n₀ bh b vw vb w' lim used M' ∧ Step b vw vb w vw vb w' ∧ Rw M' at_ 5 (vs.set (i + 1) x) room inn ∧ Kept M M' at_ inn room := by
  have hb4 := below4' w (.cells #[.pointer (some ⟨bh, 0, none⟩)] 54) (.cells #[.int .i64 vs.length, .int .i64 room, .int .i64 inn, .int .i64 0] 58) (.cells #[.int .u8 key.k, .int .i64 key.n] 29) (.cells #[.int .u8 x.k, .int .i64 x.n] 29)
  have HV : Hid (∀ k, vw.ownBlock = some k → k < w.heap.size) := fun k e => (h.blocks k (.inr (.inr (.inl e)))).2.1
  have H1 := fun w' (hB : Below w.heap.size w w') => mayBeHeld_yes (h.below hB) key.k key.n hk
  have H2 := fun w' (hB : Below w.heap.size w w') => mayBeHeld_yes (h.below hB) x.k x.n hx
  have H3 := HK.yes hi
  have H4 := fun w' (hB : Below w.heap.size w w') => r.hold (h.below hB) hil hfx
  simp only [Int.natCast_add, show ((1 : Nat) : Int) = 1 from rfl] at H4
  unfold mem at H1 H2 H3 H4 ⊢
  clear HK r hi
  go_enter Tryz.func23, Tryz.ntmps23
  go_wp2_with (first
    | (go_at_call 26; (with_reducible refine (H1 _ hb4).mono ?_); clear H1; rintro e w1 ⟨rfl, hB1⟩; obtain ⟨m0, m1, m2, m3, hBz⟩ := later4o hB1; have c0 := cell_row1 m0; have ⟨⟨d0, d1, d2, d3⟩, _⟩ := cell_row4 m1; have ⟨e0, e1⟩ := cell_row2 m2; have ⟨f0, f1⟩ := cell_row2 m3)
    | (go_at_call 26; (with_reducible refine (H2 _ hBz).mono ?_); clear H2; rintro e w2 ⟨rfl, hB2⟩; have hBy := hBz.trans (hB2.mono hBz.size); have n0 := (hB2.block _ (Array.getElem?_eq_some_iff.1 m0).1).trans m0; have n1 := (hB2.block _ (Array.getElem?_eq_some_iff.1 m1).1).trans m1; have n2 := (hB2.block _ (Array.getElem?_eq_some_iff.1 m2).1).trans m2; have n3 := (hB2.block _ (Array.getElem?_eq_some_iff.1 m3).1).trans m3; have c0 := cell_row1 n0; have ⟨⟨d0, d1, d2, d3⟩, _⟩ := cell_row4 n1; have ⟨e0, e1⟩ := cell_row2 n2; have ⟨f0, f1⟩ := cell_row2 n3)
    | (go_at_call 58; (with_reducible refine (H3 _ hBy).mono ?_); clear H3; rintro e w3 ⟨rfl, hB3⟩; have hBx := hBy.trans (hB3.mono hBy.size); have o0 := (hB3.block _ (Array.getElem?_eq_some_iff.1 n0).1).trans n0; have o1 := (hB3.block _ (Array.getElem?_eq_some_iff.1 n1).1).trans n1; have o3 := (hB3.block _ (Array.getElem?_eq_some_iff.1 n3).1).trans n3; have c0 := cell_row1 o0; have ⟨⟨d0, d1, d2, d3⟩, _⟩ := cell_row4 o1; have ⟨f0, f1⟩ := cell_row2 o3)
    | (go_at_call 59; (with_reducible refine (H4 _ hBx).mono ?_); clear H4; rintro e w4 ⟨rfl, M', hp4, hS4, hR4, hK4⟩))
  go_ret
  exact ⟨rfl, M', hp4, Step.belowL hBx hS4 HV.out, hR4, hK4⟩

set_option maxRecDepth 20000 in
set_option maxHeartbeats 1000000 in
/-- A key that is not there is put behind. -/
theorem Rw.putPair_no (r : Rw M at_ 5 vs room inn) (h : Hp n₀ bh b vw vb w lim used M) (hl : vs.length < 131072) (hr20 : room ≤ 131072) {key x : Vl} (hk : MayHeld M key.k key.n) (hx : MayHeld M x.k x.n) (hfk : Fit key) (hfx : Fit x) (HK : KeyTold bh vs room inn c key w) (hi : NoneAt vs c) (hle : vs.length + 2 ≤ max 8 (2 * room)) (hf : vs.length + 2 ≤ room ∨ used + 2 * max 8 (2 * room) + 1 ≤ lim) :
    Calls Tryz.prog 23 #[mem bh, .int .i64 at_, .agg #[.int .i64 vs.length, .int .i64 room, .int .i64 inn, .int .i64 0], .agg #[.int .u8 key.k, .int .i64 key.n], .agg #[.int .u8 x.k, .int .i64 x.n]] w fun e w' => e = .returned (.int .i64 0) ∧
      ∃ vw' vb' used' M' room' inn', Hp n₀ bh b vw' vb' w' lim used' M' ∧ Step b vw vb w vw' vb' w' ∧ Rw M' at_ 5 (vs ++ [key, x]) room' inn' ∧ Kept M M' at_ inn room ∧
        (vs.length + 2 ≤ room → room' = room ∧ used' = used) ∧ (room < vs.length + 2 → room' = max 8 (2 * room) ∧ used' = used + 2 * room' + 1) := by
  have hb4 := below4' w (.cells #[.pointer (some ⟨bh, 0, none⟩)] 54) (.cells #[.int .i64 vs.length, .int .i64 room, .int .i64 inn, .int .i64 0] 58) (.cells #[.int .u8 key.k, .int .i64 key.n] 29) (.cells #[.int .u8 x.k, .int .i64 x.n] 29)
  have HV : Hid (∀ k, vw.ownBlock = some k → k < w.heap.size) := fun k e => (h.blocks k (.inr (.inr (.inl e)))).2.1
  have H1 := fun w' (hB : Below w.heap.size w w') => mayBeHeld_yes (h.below hB) key.k key.n hk
  have H2 := fun w' (hB : Below w.heap.size w w') => mayBeHeld_yes (h.below hB) x.k x.n hx
  have H3 := HK.no hi
  have H4 := fun w' (hB : Below w.heap.size w w') p (hv : ValsT w' p [key, x]) => r.push (h.below hB) (least := 8) (by omega) (by omega) hr20 2 hv (by intro v hv; simp at hv; rcases hv with rfl | rfl; exact hfk; exact hfx) (by simp) (by simpa using hle) (by simpa using hf)
  have hne : ((vs.length : Int) == 131072) = false := by simp; omega
  simp only [List.length_cons, List.length_nil, Nat.zero_add, Nat.reduceAdd, show ((8 : Nat) : Int) = 8 from rfl] at H4
  unfold mem at H1 H2 H3 H4 ⊢
  clear HK r hi
  go_enter Tryz.func23, Tryz.ntmps23
  go_wp2_with (first
    | (go_at_call 26; (with_reducible refine (H1 _ hb4).mono ?_); clear H1; rintro e w1 ⟨rfl, hB1⟩; obtain ⟨m0, m1, m2, m3, hBz⟩ := later4o hB1; have c0 := cell_row1 m0; have ⟨⟨d0, d1, d2, d3⟩, _⟩ := cell_row4 m1; have ⟨e0, e1⟩ := cell_row2 m2; have ⟨f0, f1⟩ := cell_row2 m3)
    | (go_at_call 26; (with_reducible refine (H2 _ hBz).mono ?_); clear H2; rintro e w2 ⟨rfl, hB2⟩; have hBy := hBz.trans (hB2.mono hBz.size); have n0 := (hB2.block _ (Array.getElem?_eq_some_iff.1 m0).1).trans m0; have n1 := (hB2.block _ (Array.getElem?_eq_some_iff.1 m1).1).trans m1; have n2 := (hB2.block _ (Array.getElem?_eq_some_iff.1 m2).1).trans m2; have n3 := (hB2.block _ (Array.getElem?_eq_some_iff.1 m3).1).trans m3; have c0 := cell_row1 n0; have ⟨⟨d0, d1, d2, d3⟩, _⟩ := cell_row4 n1; have ⟨e0, e1⟩ := cell_row2 n2; have ⟨f0, f1⟩ := cell_row2 n3)
    | (go_at_call 58; (with_reducible refine (H3 _ hBy).mono ?_); clear H3; rintro e w3 ⟨⟨j, rfl⟩, hB3⟩; have hBx := hBy.trans (hB3.mono hBy.size); have o0 := (hB3.block _ (Array.getElem?_eq_some_iff.1 n0).1).trans n0; have o1 := (hB3.block _ (Array.getElem?_eq_some_iff.1 n1).1).trans n1; have o2 := (hB3.block _ (Array.getElem?_eq_some_iff.1 n2).1).trans n2; have o3 := (hB3.block _ (Array.getElem?_eq_some_iff.1 n3).1).trans n3; have c0 := cell_row1 o0; have ⟨⟨d0, d1, d2, d3⟩, _⟩ := cell_row4 o1; have ⟨e0, e1⟩ := cell_row2 o2; have ⟨f0, f1⟩ := cell_row2 o3)
    | (go_at_call 60; (with_reducible refine (H4 _ (hBx.alloc hBx.size (.cells #[.int .u8 key.k, .int .i64 key.n, .int .u8 x.k, .int .i64 x.n] 29)) _ (vals2 (heap_alloc_new w3 _))).mono ?_); clear H4; rintro e w4 ⟨rfl, vw', vb', used', M', room', inn', hp4, hS4, hR4, hK4, hU1, hU2⟩))
  go_ret
  exact ⟨rfl, vw', vb', used', M', room', inn', hp4, Step.belowL (hBx.alloc hBx.size _) hS4 HV.out, hR4, hK4, hU1, hU2⟩

end Go.Proofs.YtkombdkhodjckaaGreat

namespace Go.Proofs.YtkombdkhodjckaaGreat
set_option linter.unusedVariables false
set_option linter.unusedSimpArgs false
open Go.RowKit

variable {n₀ bh b lim used : Nat} {vw vb : Value} {w : World} {M : List Ob} {at_ room inn : Nat} {vs : List Vl} {c : Vl → Bool}

set_option maxRecDepth 20000 in
set_option maxHeartbeats 1000000 in
/-- Put of a map, by what putPair does. -/
theorem Rw.putMap (r : Rw M at_ 5 vs room inn) (h : Hp n₀ bh b vw vb w lim used M) (hl1 : 1 ≤ lim) {n : Nat} (he : vs.length = 2 * n) (hn : n ≤ 65536) (key x : Vl) (R : Value → Value → World → Prop)
    (HP : ∀ w', Below w.heap.size w w' → Calls Tryz.prog 23 #[mem bh, .int .i64 at_, .agg #[.int .i64 vs.length, .int .i64 room, .int .i64 inn, .int .i64 0], .agg #[.int .u8 key.k, .int .i64 key.n], .agg #[.int .u8 x.k, .int .i64 x.n]] w' fun e w'' => e = .returned (.int .i64 0) ∧ ∃ vw' vb', Step b vw vb w' vw' vb' w'' ∧ R vw' vb' w'') :
    Calls Tryz.prog 8 #[.pointer (some ⟨bh, 0, none⟩), .agg #[.int .u8 5, .int .i64 at_], .agg #[.int .u8 key.k, .int .i64 key.n], .agg #[.int .u8 x.k, .int .i64 x.n]] w fun e w' => e = .returned (.int .i64 0) ∧ ∃ vw' vb', Step b vw vb w vw' vb' w' ∧ R vw' vb' w' := by
  have H1 := fun w' (hB : Below w.heap.size w w') p (hk : Kinds w' p [4, 5]) => take_row (h.below hB) hl1 (fun w'' hB' => r.find5 ((h.below hB).below hB') he hn) 2 hk (by simp) (by simp)
  have HV : Hid (∀ k, vw.ownBlock = some k → k < w.heap.size) := fun k e => (h.blocks k (.inr (.inr (.inl e)))).2.1
  obtain ⟨N, hN⟩ : ∃ N, N = vs.length := ⟨_, rfl⟩
  rw [← hN] at H1 HP
  clear hN he r
  unfold mem at H1 HP
  go_enter Tryz.func8, Tryz.ntmps8
  go_wp2_with (first
    | (go_at_call 22; go_loud (refine (H1 _ (below5' _ _ _ _ _ _) _ (kinds2 _ _ _ _ _ (heap5_4 _ _ _ _ _ _))).mono ?_; clear H1; rintro e w1 ⟨rfl, hB1⟩; obtain ⟨⟨m1, m2, m3, m4⟩, hBz⟩ := later5o hB1)
       have k1 := alloc_keeps m1 (.cells #[.int .i64 N, .int .i64 room, .int .i64 inn, .int .i64 0] 58); have k2 := alloc_keeps m2 (.cells #[.int .i64 N, .int .i64 room, .int .i64 inn, .int .i64 0] 58); have k3 := alloc_keeps m3 (.cells #[.int .i64 N, .int .i64 room, .int .i64 inn, .int .i64 0] 58); have k4 := alloc_keeps m4 (.cells #[.int .i64 N, .int .i64 room, .int .i64 inn, .int .i64 0] 58)
       have ⟨d0, d1⟩ := cell_row2 k1; have ⟨d2, d3⟩ := cell_row2 k2; have ⟨d5, d6⟩ := cell_row2 k3; have d4 := cell_row1 k4; have hBy := hBz.alloc hBz.size (.cells #[.int .i64 N, .int .i64 room, .int .i64 inn, .int .i64 0] 58)
       have ⟨⟨x0, x1, x2, x3⟩, _⟩ := cell_row4 (heap_alloc_new w1 (.cells #[.int .i64 N, .int .i64 room, .int .i64 inn, .int .i64 0] 58)))
    | (go_at_call 23; refine (HP _ hBy).mono ?_; clear HP; rintro e w2 ⟨rfl, vw', vb', hS2, hR2⟩))
  go_ret
  exact ⟨rfl, vw', vb', Step.belowL hBy hS2 HV.out, hR2⟩

set_option maxRecDepth 20000 in
set_option maxHeartbeats 1000000 in
theorem NewMap_none (h : Hp n₀ bh b vw vb w lim used M) (hl1 : 1 ≤ lim) (p : Option Addr) (c : Nat) (hf : used + 3 ≤ lim) :
    Calls Tryz.prog 16 #[.pointer (some ⟨bh, 0, none⟩), .slice p 0 c] w fun e w' => e = .returned (.tuple #[.agg #[.int .u8 5, .int .i64 used], .int .i64 0]) ∧
      ∃ vw' vb', Hp n₀ bh b vw' vb' w' lim (used + 3) (M ++ [⟨used, 5, [0, 0]⟩]) ∧ Step b vw vb w vw' vb' w' := by
  have hb2 := below2' w (.cells #[.int .u8 0, .int .i64 0] 29) (.cells #[.pointer (some ⟨bh, 0, none⟩)] 54)
  have HV : Hid (∀ k, vw.ownBlock = some k → k < w.heap.size) := fun k e => (h.blocks k (.inr (.inr (.inl e)))).2.1
  have H1 := fun w' (hB : Below w.heap.size w w') => othere_in (h.below hB) hl1
  have hv0 : ∀ w', Vals w' p [] := fun w' j v hj => by simp at hj
  have H2 := fun w' (hB : Below w.heap.size w w') => allMay_yes (h.below hB) (p := p) (vs := []) c (hv0 w') (by simp) (by simp)
  have H3 := fun w' (hB : Below w.heap.size w w') => eachKeyOnce_in (w := w') (T := fun _ => none) (bh := bh) [] (p := p) c (hv0 w') (by simp) (by simp) (by simp) (by simp)
  have H4 := fun w' (hB : Below w.heap.size w w') (p' : Option Addr) (c' : Nat) => newRow_none (h.below hB) 5 (.inr rfl) p' c' hf
  simp only [flat, List.length_nil, show once (fun _ => none) [] = [] from rfl, show ((0 : Nat) : Int) = 0 from rfl] at H2 H3
  unfold mem at H1 H2 H3 H4
  simp only [show ((5 : Nat) : Int) = 5 from rfl] at H4
  clear hv0
  go_enter Tryz.func16, Tryz.ntmps16
  go_wp2_with (first
    | (go_at_call 19; refine (H1 _ hb2).mono ?_; clear H1; rintro e w1 ⟨rfl, hB1⟩; obtain ⟨m1, m2, hBz⟩ := laterR hB1; have c2 := cell_row1 m2)
    | (go_at_call 20; refine (H2 _ hBz).mono ?_; clear H2; rintro e w2 ⟨rfl, hB2⟩; have hBy := hBz.trans (hB2.mono hBz.size); have n1 := (hB2.block _ (Array.getElem?_eq_some_iff.1 m1).1).trans m1; have n2 := (hB2.block _ (Array.getElem?_eq_some_iff.1 m2).1).trans m2; have c3 := cell_row1 n2))
  have hD2 : Below w.heap.size w w2.drew := below_drew hBy
  have c3d : w2.drew.cell? ⟨w.heap.size + 1, 0, none⟩ = some (.pointer (some ⟨bh, 0, none⟩)) := c3
  go_region_held3 (fun W => W.cell? ⟨w.heap.size + 1, 0, none⟩ = some (.pointer (some ⟨bh, 0, none⟩)))
    (first | with_reducible exact c3d | with_reducible exact c4 | with_reducible exact c5 | with_reducible exact (cell_set2 (by simp)).trans c5 | go_keep)
    ((first
      | (go_at_call 44; (with_reducible refine (H3 _ hD2).mono ?_); clear H3; rintro e w3 ⟨v3, rfl, hrow3, hB3⟩; obtain ⟨p3, c3', rfl, hv3⟩ := vals_of_row (vs := []) hrow3; have hBx := hD2.trans (hB3.mono hD2.size); have o1 := (hB3.block _ (Array.getElem?_eq_some_iff.1 n1).1).trans n1; have o2 := (hB3.block _ (Array.getElem?_eq_some_iff.1 n2).1).trans n2; have c4 := cell_row1 o2)
      | (go_at_call 21; (with_reducible refine (H4 _ hBx p3 c3').mono ?_); clear H4; rintro e w4 ⟨rfl, vw', vb', hp4, hS4⟩; have m5 := ((h.below hBx).stays hS4 o1 (fun cur t e => by cases e; decide)).trans o1; have m6 := ((h.below hBx).stays hS4 o2 (fun cur t e => by cases e; decide)).trans o2; obtain ⟨⟨x0, x1⟩, f0, f1⟩ := cell_row2f m5; have c5 := cell_row1 m6)))
  all_goals
    go_wp2
    refine bodyPost_ret (results_row_tmp (by rfl) _ _ w.heap.size 29 #[.int .u8 5, .int .i64 used] (0, 0) _ (by rfl) (set2_row m5) Tryz.underlying29 (by rfl) infoVal2) (by rfl) ?_
    refine ⟨rfl, vw', vb', hp4.kept (fun k hk => ?_), step_set2 (Step.belowL hBx hS4 HV.out) (by omega) _ _⟩
    have hne : k ≠ w.heap.size := fun e => hp4.other m5 (fun cur t e => by cases e; decide) (by rw [← e]; exact hk)
    rw [heap_setCell_other _ ⟨w.heap.size, 1, none⟩ k _ hne, heap_setCell_other _ ⟨w.heap.size, 0, none⟩ k _ hne]

end Go.Proofs.YtkombdkhodjckaaGreat

namespace Go.Proofs.YtkombdkhodjckaaGreat
set_option linter.unusedVariables false
set_option linter.unusedSimpArgs false
open Go.RowKit

variable {n₀ bh b lim used : Nat} {vw vb : Value} {w : World} {M : List Ob}

/-- What is new is Items. -/
def NewK (M M' : List Ob) : Prop := ∀ x ∈ M', x.kind = 8 ∨ ∃ y ∈ M, y.at_ = x.at_ ∧ y.kind = x.kind

theorem NewK.refl (M : List Ob) : NewK M M := fun x hx => .inr ⟨x, hx, rfl, rfl⟩

theorem NewK.add (M : List Ob) (o : Ob) (ho : o.kind = 8) : NewK M (M ++ [o]) := fun x hx => by
  rcases List.mem_append.1 hx with hx | hx
  · exact .inr ⟨x, hx, rfl, rfl⟩
  · simp at hx; subst hx; exact .inl ho

theorem NewK.put {M M' : List Ob} (h : NewK M M') (a : Nat) (ws : List Nat) : NewK M (Go.Proofs.YtkombdkhodjckaaGreat.put M' a ws) := fun x hx => by
  unfold Go.Proofs.YtkombdkhodjckaaGreat.put at hx
  obtain ⟨y, hy, rfl⟩ := List.mem_map.1 hx
  have := h y hy
  by_cases e : y.at_ = a
  · simpa [e] using this
  · simpa [e] using this

theorem NewK.put2 {M M' : List Ob} (h : NewK M M') (a : Nat) (ws : List Nat) (a' : Nat) (ws' : List Nat) : NewK M (Go.Proofs.YtkombdkhodjckaaGreat.put (Go.Proofs.YtkombdkhodjckaaGreat.put M' a ws) a' ws') := (h.put a ws).put a' ws'

theorem NewK.trans {M M' M'' : List Ob} (h : NewK M M') (g : NewK M' M'') : NewK M M'' := fun x hx => by
  rcases g x hx with e | ⟨y, hy, e1, e2⟩
  · exact .inl e
  · rcases h y hy with e | ⟨z, hz, e3, e4⟩
    · exact .inl (by omega)
    · exact .inr ⟨z, hz, e3.trans e1, e4.trans e2⟩

theorem Rw.push2 {at_ kind room inn least : Nat} {vs new : List Vl} (r : Rw M at_ kind vs room inn) (h : Hp n₀ bh b vw vb w lim used M) (hl0 : 0 < least) (hl4 : least ≤ 100) (hr20 : room ≤ 131072) {p : Option Addr} (c : Nat) (hv : ValsT w p new) (hfit : ∀ v ∈ new, Fit v) (h0 : 0 < new.length) (hle : vs.length + new.length ≤ max least (2 * room)) (hf : vs.length + new.length ≤ room ∨ used + 2 * max least (2 * room) + 1 ≤ lim) :
    Calls Tryz.prog 60 #[mem bh, .int .i64 at_, .agg #[.int .i64 vs.length, .int .i64 room, .int .i64 inn, .int .i64 0], .int .i64 least, .slice p new.length c] w fun e w' => e = .returned (.int .i64 0) ∧
      ∃ vw' vb' used' M' room' inn', Hp n₀ bh b vw' vb' w' lim used' M' ∧ Step b vw vb w vw' vb' w' ∧ Rw M' at_ kind (vs ++ new) room' inn' ∧ Kept M M' at_ inn room ∧
        (vs.length + new.length ≤ room → room' = room ∧ used' = used) ∧ (room < vs.length + new.length → room' = max least (2 * room) ∧ used' = used + 2 * room' + 1) ∧ NewK M M' := by
  have hk8 : ∀ v ∈ new, v.k < 256 := fun v hv => (hfit v hv).1
  have hap : (vs ++ new).length = vs.length + new.length := List.length_append
  rcases r with ⟨o, q, hr, rfl, rfl, rfl, hne, hvs⟩ | ⟨h1, rfl, rfl, rfl⟩
  · have hsz := hr.size
    by_cases hg : vs.length + new.length ≤ room
    · refine (push_room h hr hne least c hv hk8 hg (by omega)).mono ?_
      rintro e w' ⟨he, hp, hS⟩
      refine ⟨he, vw, vb, used, _, room, q.at_, hp, hS, .inl ⟨{ o with ws := [vs.length + new.length, q.at_ + 1] }, { q with ws := lays q.ws (2 * vs.length) new }, ⟨put_mem (put_other hr.mem hne _) _, put_other (put_mem hr.memq (lays q.ws (2 * vs.length) new)) (Ne.symm hne) _, by rw [hap], hr.kindq, by simp only [lays_len]; exact hsz, by rw [hap]; exact hg⟩, rfl, rfl, rfl, hne, ?_⟩, ?_, fun _ => ⟨rfl, rfl⟩, fun hc => by omega, NewK.put2 (NewK.refl M) _ _ _ _⟩
      · rw [hap, valsOf_lays new q.ws vs.length (by omega) hfit, hvs]
      · intro x hx h1 h2
        rcases h2 with h2 | h2
        · exact put_other (put_other hx h2 _) h1 _
        · omega
    · have hf' : used + 2 * max least (2 * room) + 1 ≤ lim := by rcases hf with hf | hf <;> omega
      have hu : ∀ x ∈ M, x.at_ < used := fun x hx => by have := h.srt.2 x hx; unfold Ob.end_ at this; omega
      have ho1 := hu o hr.mem
      refine (push_grow h hr hne least _ rfl hl4 hr20 c hv hk8 (by omega) hle hf').mono ?_
      rintro e w' ⟨he, vw', vb', hp, hS⟩
      refine ⟨he, vw', vb', _, _, max least (2 * room), used, hp, hS, .inl ⟨{ o with ws := [vs.length + new.length, used + 1] }, ⟨used, 8, lays (lays (List.replicate (2 * max least (2 * room)) 0) 0 (valsOf q.ws vs.length)) (2 * vs.length) new⟩, ⟨put_mem (put_other (List.mem_append_left _ hr.mem) (Nat.ne_of_lt ho1) _) _, put_other (put_mem (o := ⟨used, 8, List.replicate (2 * max least (2 * room)) 0⟩) (by simp) _) (Nat.ne_of_gt ho1) _, by rw [hap], rfl, by simp [lays_len], by rw [hap]; exact hle⟩, rfl, rfl, rfl, Nat.ne_of_lt ho1, ?_⟩, ?_, fun hc => by omega, fun _ => ⟨rfl, rfl⟩, NewK.put2 (NewK.add M _ rfl) _ _ _ _⟩
      · have hvl : (valsOf q.ws vs.length).length = vs.length := valsOf_len _ _
        have hfv : ∀ v ∈ valsOf q.ws vs.length, Fit v := fun v hv => by
          simp only [valsOf, List.mem_map, List.mem_range] at hv
          obtain ⟨i, _, rfl⟩ := hv
          refine ⟨valK_lt _ _, ?_⟩
          show -9223372036854775808 ≤ valN q.ws (2 * i) ∧ valN q.ws (2 * i) ≤ 9223372036854775807
          unfold valN wrap64
          split <;> omega
        have e1 := lays_zero (max least (2 * room)) (valsOf q.ws vs.length) (by rw [hvl]; omega) hfv
        rw [hvl] at e1
        rw [hap, valsOf_lays new _ vs.length (by simp [lays_len]; omega) hfit, e1, hvs]
      · intro x hx h1 h2
        exact put_other (put_other (List.mem_append_left _ hx) (Nat.ne_of_lt (hu x hx)) _) h1 _
  · have hg : ¬ (0 + new.length ≤ 0) := by omega
    simp only [List.length_nil] at hf hle hap
    have hmx : max least (2 * 0) = least := by omega
    rw [hmx] at hf hle
    have hu : ∀ x ∈ M, x.at_ < used := fun x hx => by have := h.srt.2 x hx; unfold Ob.end_ at this; omega
    have ho1 := hu _ h1
    simp only at ho1
    have := push_first h h1 least hl0 hl4 c hv hk8 h0 (by omega) (by omega)
    refine this.mono ?_
    rintro e w' ⟨he, vw', vb', hp, hS⟩
    refine ⟨he, vw', vb', _, _, least, used, hp, hS, .inl ⟨⟨at_, kind, [new.length, used + 1]⟩, ⟨used, 8, lays (List.replicate (2 * least) 0) 0 new⟩, ⟨put_mem (o := ⟨at_, kind, [0, 0]⟩) (put_other (List.mem_append_left _ h1) (Nat.ne_of_lt ho1) _) _, put_other (put_mem (o := ⟨used, 8, List.replicate (2 * least) 0⟩) (by simp) _) (Nat.ne_of_gt ho1) _, by simp, rfl, by simp [lays_len], by rw [List.nil_append]; omega⟩, rfl, rfl, rfl, Nat.ne_of_lt ho1, ?_⟩, ?_, fun hc => (hg (by simpa using hc)).elim, fun _ => ⟨hmx.symm, rfl⟩, NewK.put2 (NewK.add M _ rfl) _ _ _ _⟩
    · simpa using lays_zero least new (by omega) hfit
    · intro x hx h2 h3
      exact put_other (put_other (List.mem_append_left _ hx) (Nat.ne_of_lt (hu x hx)) _) h2 _

end Go.Proofs.YtkombdkhodjckaaGreat

namespace Go.Proofs.YtkombdkhodjckaaGreat
set_option linter.unusedVariables false
set_option linter.unusedSimpArgs false
open Go.RowKit

variable {n₀ bh b lim used : Nat} {vw vb : Value} {w : World} {M : List Ob} {at_ room inn : Nat} {vs : List Vl}

/-- What a list becomes to which a value is put. -/
def Pushed (n₀ bh b lim used : Nat) (M : List Ob) (at_ room inn : Nat) (vs : List Vl) (x : Vl) (vw' vb' : Value) (w' : World) : Prop :=
  ∃ used' M' room' inn', Hp n₀ bh b vw' vb' w' lim used' M' ∧ Rw M' at_ 4 (vs ++ [x]) room' inn' ∧ Kept M M' at_ inn room ∧
    (vs.length + 1 ≤ room → room' = room ∧ used' = used) ∧ (room < vs.length + 1 → room' = max 4 (2 * room) ∧ used' = used + 2 * room' + 1) ∧ NewK M M'

set_option maxRecDepth 20000 in
set_option maxHeartbeats 1000000 in
theorem Rw.putItem (r : Rw M at_ 4 vs room inn) (h : Hp n₀ bh b vw vb w lim used M) (hn6 : vs.length < 65536) (hr20 : room ≤ 131072) (x : Vl) (hm : MayHeld M x.k x.n) (hfx : Fit x) (hle : vs.length ≤ room) (hf : vs.length + 1 ≤ room ∨ used + 2 * max 4 (2 * room) + 1 ≤ lim) :
    Calls Tryz.prog 24 #[mem bh, .int .i64 at_, .agg #[.int .i64 vs.length, .int .i64 room, .int .i64 inn, .int .i64 0], .agg #[.int .u8 2, .int .i64 vs.length], .agg #[.int .u8 x.k, .int .i64 x.n]] w fun e w' => e = .returned (.int .i64 0) ∧ ∃ vw' vb', Step b vw vb w vw' vb' w' ∧ Pushed n₀ bh b lim used M at_ room inn vs x vw' vb' w' := by
  have H1 := fun w' (hB : Below w.heap.size w w') => mayBeHeld_yes (h.below hB) x.k x.n hm
  have H2 := fun w' (hB : Below w.heap.size w w') p (hv : ValsT w' p [x]) => r.push2 (h.below hB) (least := 4) (by omega) (by omega) hr20 1 hv (by simpa using hfx) (by simp) (by simp; omega) hf
  have HV : Hid (∀ k, vw.ownBlock = some k → k < w.heap.size) := fun k e => (h.blocks k (.inr (.inr (.inl e)))).2.1
  have hb4 : Below w.heap.size w ((((w.alloc (.cells #[.pointer (some ⟨bh, 0, none⟩)] 54)).alloc (.cells #[.int .i64 vs.length, .int .i64 room, .int .i64 inn, .int .i64 0] 58)).alloc (.cells #[.int .u8 2, .int .i64 vs.length] 29)).alloc (.cells #[.int .u8 x.k, .int .i64 x.n] 29)) := allocs_below [_, _, _, _] w
  unfold mem at H1 H2 ⊢
  simp only [List.length_cons, List.length_nil, Nat.zero_add, show ((4 : Nat) : Int) = 4 from rfl] at H2
  have hne : ((vs.length : Int) == 65536) = false := by simp; omega
  obtain ⟨N, hN⟩ : ∃ N, vs.length = N := ⟨_, rfl⟩
  have HN : Hid (vs.length = N) := hN
  rw [hN] at H2 hne hb4 ⊢
  clear hle hf hn6 hN
  go_enter Tryz.func24, Tryz.ntmps24
  go_wp2_with (first
    | (go_at_call 26; refine (H1 _ hb4).mono ?_; clear H1; rintro e w1 ⟨rfl, hB1⟩; obtain ⟨g, hBz⟩ := laterN [Obj.cells #[.pointer (some ⟨bh, 0, none⟩)] 54, .cells #[.int .i64 N, .int .i64 room, .int .i64 inn, .int .i64 0] 58, .cells #[.int .u8 2, .int .i64 N] 29, .cells #[.int .u8 x.k, .int .i64 x.n] 29] hB1
       have c0 : w1.cell? ⟨w.heap.size, 0, none⟩ = some (.pointer (some ⟨bh, 0, none⟩)) := cell_row1 (g 0 _ rfl)
       obtain ⟨⟨d0, d1, d2, d3⟩, _⟩ := cell_row4 (g 1 _ rfl); obtain ⟨e0, e1⟩ := cell_row2 (g 2 _ rfl); obtain ⟨e2, e3⟩ := cell_row2 (g 3 _ rfl))
    | (go_at_call 60; go_loud (refine (H2 _ (hBz.alloc hBz.size _) _ (vals1 (heap_alloc_new w1 _))).mono ?_); clear H2; rintro e w2 ⟨rfl, vw', vb', used', M', room', inn', hp2, hS2, hr2, hk2, b1, b2, b3⟩))
  go_ret
  refine ⟨rfl, vw', vb', Step.belowL (hBz.alloc hBz.size _) hS2 HV.out, used', M', room', inn', hp2, hr2, hk2, ?_, ?_, b3⟩
  · rw [HN.out]; exact b1
  · rw [HN.out]; exact b2

set_option maxRecDepth 20000 in
set_option maxHeartbeats 1000000 in
theorem Rw.putList (r : Rw M at_ 4 vs room inn) (h : Hp n₀ bh b vw vb w lim used M) (hl1 : 1 ≤ lim) (hn6 : vs.length < 65536) (hr20 : room ≤ 131072) (x : Vl) (hm : MayHeld M x.k x.n) (hfx : Fit x) (hle : vs.length ≤ room) (hf : vs.length + 1 ≤ room ∨ used + 2 * max 4 (2 * room) + 1 ≤ lim) :
    Calls Tryz.prog 8 #[.pointer (some ⟨bh, 0, none⟩), .agg #[.int .u8 4, .int .i64 at_], .agg #[.int .u8 2, .int .i64 vs.length], .agg #[.int .u8 x.k, .int .i64 x.n]] w fun e w' => e = .returned (.int .i64 0) ∧ ∃ vw' vb', Step b vw vb w vw' vb' w' ∧ Pushed n₀ bh b lim used M at_ room inn vs x vw' vb' w' := by
  have H1 := fun w' (hB : Below w.heap.size w w') p (hk : Kinds w' p [4, 5]) => take_row (h.below hB) hl1 (fun w'' hB' => r.find4 ((h.below hB).below hB') (by omega)) 2 hk (by simp) (by simp)
  have HP := fun w' (hB : Below w.heap.size w w') => r.putItem (h.below hB) hn6 hr20 x hm hfx hle hf
  have HV : Hid (∀ k, vw.ownBlock = some k → k < w.heap.size) := fun k e => (h.blocks k (.inr (.inr (.inl e)))).2.1
  obtain ⟨N, hN⟩ : ∃ N, vs.length = N := ⟨_, rfl⟩
  rw [hN] at H1 HP ⊢
  clear hN hle hf hn6
  unfold mem at H1 HP
  go_enter Tryz.func8, Tryz.ntmps8
  go_wp2_with (first
    | (go_at_call 22; go_loud (refine (H1 _ (below5' _ _ _ _ _ _) _ (kinds2 _ _ _ _ _ (heap5_4 _ _ _ _ _ _))).mono ?_; clear H1; rintro e w1 ⟨rfl, hB1⟩; obtain ⟨⟨m1, m2, m3, m4⟩, hBz⟩ := later5o hB1)
       have k1 := alloc_keeps m1 (.cells #[.int .i64 N, .int .i64 room, .int .i64 inn, .int .i64 0] 58); have k2 := alloc_keeps m2 (.cells #[.int .i64 N, .int .i64 room, .int .i64 inn, .int .i64 0] 58); have k3 := alloc_keeps m3 (.cells #[.int .i64 N, .int .i64 room, .int .i64 inn, .int .i64 0] 58); have k4 := alloc_keeps m4 (.cells #[.int .i64 N, .int .i64 room, .int .i64 inn, .int .i64 0] 58)
       have ⟨d0, d1⟩ := cell_row2 k1; have ⟨d2, d3⟩ := cell_row2 k2; have ⟨d5, d6⟩ := cell_row2 k3; have d4 := cell_row1 k4; have hBy := hBz.alloc hBz.size (.cells #[.int .i64 N, .int .i64 room, .int .i64 inn, .int .i64 0] 58)
       have ⟨⟨x0, x1, x2, x3⟩, _⟩ := cell_row4 (heap_alloc_new w1 (.cells #[.int .i64 N, .int .i64 room, .int .i64 inn, .int .i64 0] 58)))
    | (go_at_call 24; refine (HP _ hBy).mono ?_; clear HP; rintro e w2 ⟨rfl, vw', vb', hS2, hR2⟩))
  go_ret
  exact ⟨rfl, vw', vb', Step.belowL hBy hS2 HV.out, hR2⟩

set_option maxRecDepth 20000 in
set_option maxHeartbeats 1000000 in
theorem Rw.items4 (r : Rw M at_ 4 vs room inn) (h : Hp n₀ bh b vw vb w lim used M) (hl1 : 1 ≤ lim) (hn : vs.length ≤ 65536) :
    Calls Tryz.prog 9 #[.pointer (some ⟨bh, 0, none⟩), .agg #[.int .u8 4, .int .i64 at_]] w fun e w' => ∃ p c, e = .returned (.tuple #[.slice p vs.length c, .int .i64 0]) ∧ w'.ownsRow w.heap.size 29 2 (.slice p vs.length c) vs.length (vcells vs) ∧ Below w.heap.size w w' := by
  have hb2 := below2' w (.cells #[.int .u8 4, .int .i64 at_] 29) (.cells #[.pointer (some ⟨bh, 0, none⟩)] 54)
  have H1 := fun w' (hB : Below w.heap.size w w') p (hk : Kinds w' p [4, 5]) => take_row (h.below hB) hl1 (fun w'' hB' => r.find4 ((h.below hB).below hB') hn) 2 hk (by simp) (by simp)
  have H2 := fun w' (hB : Below w.heap.size w w') => r.values (h.below hB) (by omega)
  unfold mem at H1 H2
  clear r
  go_enter Tryz.func9, Tryz.ntmps9
  go_wp2_with (first
    | (go_at_call 22; go_loud (refine (H1 _ (below3' _ _ _ _) _ (kinds2 _ _ _ _ _ (heap3_2 _ _ _ _))).mono ?_; clear H1; rintro e w1 ⟨rfl, hB1⟩; obtain ⟨m1, m2, m3, hBz⟩ := later3o hB1)
       have k2 := alloc_keeps m2 (.cells #[.int .i64 vs.length, .int .i64 room, .int .i64 inn, .int .i64 0] 58); have d4 := cell_row1 k2; have hBy := hBz.alloc hBz.size (.cells #[.int .i64 vs.length, .int .i64 room, .int .i64 inn, .int .i64 0] 58)
       have ⟨⟨x0, x1, x2, x3⟩, _⟩ := cell_row4 (heap_alloc_new w1 (.cells #[.int .i64 vs.length, .int .i64 room, .int .i64 inn, .int .i64 0] 58)))
    | (go_at_call 25; refine (H2 _ hBy).mono ?_; clear H2; rintro e w2 ⟨p, c, rfl, hrow, hB2⟩))
  go_ret2
  exact ⟨p, c, rfl, row_mono2 hrow hBy.size, hBy.trans (hB2.mono hBy.size)⟩

set_option maxRecDepth 20000 in
set_option maxHeartbeats 1000000 in
theorem NewList_none (h : Hp n₀ bh b vw vb w lim used M) (hl1 : 1 ≤ lim) (p : Option Addr) (c : Nat) (hf : used + 3 ≤ lim) :
    Calls Tryz.prog 7 #[.pointer (some ⟨bh, 0, none⟩), .slice p 0 c] w fun e w' => e = .returned (.tuple #[.agg #[.int .u8 4, .int .i64 used], .int .i64 0]) ∧
      ∃ vw' vb', Hp n₀ bh b vw' vb' w' lim (used + 3) (M ++ [⟨used, 4, [0, 0]⟩]) ∧ Step b vw vb w vw' vb' w' := by
  have hb2 := below2' w (.cells #[.int .u8 0, .int .i64 0] 29) (.cells #[.pointer (some ⟨bh, 0, none⟩)] 54)
  have HV : Hid (∀ k, vw.ownBlock = some k → k < w.heap.size) := fun k e => (h.blocks k (.inr (.inr (.inl e)))).2.1
  have H1 := fun w' (hB : Below w.heap.size w w') => othere_in (h.below hB) hl1
  have hv0 : ∀ w', Vals w' p [] := fun w' j v hj => by simp at hj
  have H2 := fun w' (hB : Below w.heap.size w w') => allMay_yes (h.below hB) (p := p) (vs := []) c (hv0 w') (by simp) (by simp)
  have H4 := fun w' (hB : Below w.heap.size w w') (p' : Option Addr) (c' : Nat) => newRow_none (h.below hB) 4 (.inl rfl) p' c' hf
  simp only [List.length_nil, show ((0 : Nat) : Int) = 0 from rfl] at H2
  unfold mem at H1 H2 H4
  simp only [show ((4 : Nat) : Int) = 4 from rfl] at H4
  clear hv0
  go_enter Tryz.func7, Tryz.ntmps7
  go_wp2_with (first
    | (go_at_call 19; refine (H1 _ hb2).mono ?_; clear H1; rintro e w1 ⟨rfl, hB1⟩; obtain ⟨m1, m2, hBz⟩ := laterR hB1; have c2 := cell_row1 m2)
    | (go_at_call 20; refine (H2 _ hBz).mono ?_; clear H2; rintro e w2 ⟨rfl, hB2⟩; have hBy := hBz.trans (hB2.mono hBz.size); have n1 := (hB2.block _ (Array.getElem?_eq_some_iff.1 m1).1).trans m1; have n2 := (hB2.block _ (Array.getElem?_eq_some_iff.1 m2).1).trans m2; have c3 := cell_row1 n2)
    | (go_at_call 21; go_loud (refine (H4 _ hBy p c).mono ?_; clear H4; rintro e w4 ⟨rfl, vw', vb', hp4, hS4⟩); have m5 := ((h.below hBy).stays hS4 n1 (fun cur t e => by cases e; decide)).trans n1; obtain ⟨⟨x0, x1⟩, f0, f1⟩ := cell_row2f m5))
  refine bodyPost_ret (results_row_tmp (by rfl) _ _ w.heap.size 29 #[.int .u8 4, .int .i64 used] (0, 0) _ (by rfl) (set2_row m5) Tryz.underlying29 (by rfl) infoVal2) (by rfl) ?_
  refine ⟨rfl, vw', vb', hp4.kept (fun k hk => ?_), step_set2 (Step.belowL hBy hS4 HV.out) (by omega) _ _⟩
  have hne : k ≠ w.heap.size := fun e => hp4.other m5 (fun cur t e => by cases e; decide) (by rw [← e]; exact hk)
  rw [heap_setCell_other _ ⟨w.heap.size, 1, none⟩ k _ hne, heap_setCell_other _ ⟨w.heap.size, 0, none⟩ k _ hne]

end Go.Proofs.YtkombdkhodjckaaGreat
