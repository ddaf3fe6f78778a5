/- object's calls on texts: NewText, Text, Len. -/
import Derived.Test.YtkombdkhodjckaaGreatObTake
namespace Go.Proofs.YtkombdkhodjckaaGreat
set_option linter.unusedVariables false
set_option linter.unusedSimpArgs false
open Go.RowKit

variable {n₀ bh b lim used : Nat} {vw vb : Value} {w : World} {M : List Ob}

theorem cell_row2f {W : World} {g : Nat} {a b : Value} {t : TypeId} (h : W.heap[g]? = some (.cells #[a, b] t (0, 0))) :
    (W.cell? ⟨g, 0, none⟩ = some a ∧ W.cell? ⟨g, 1, none⟩ = some b) ∧ W.frozen? ⟨g, 0, none⟩ = false ∧ W.frozen? ⟨g, 1, none⟩ = false :=
  ⟨cell_row2 h, frozen_of_row W g 0 _ _ h, frozen_of_row W g 1 _ _ h⟩

theorem cell_set2 {W : World} {g : Nat} {x y : Value} {a : Addr} (h : a.block ≠ g) : ((W.setCell ⟨g, 0, none⟩ x).setCell ⟨g, 1, none⟩ y).cell? a = W.cell? a :=
  (World.cell?_setCell_other _ _ _ _ (fun e => h (by cases e; rfl))).trans (World.cell?_setCell_other _ _ _ _ (fun e => h (by cases e; rfl)))

/-- A cell that was not there may be written. -/
theorem step_set2 {b : Nat} {vw vb vw' vb' : Value} {w W : World} (hS : Step b vw vb w vw' vb' W) {g : Nat} (hg : w.heap.size ≤ g) (x y : Value) : Step b vw vb w vw' vb' ((W.setCell ⟨g, 0, none⟩ x).setCell ⟨g, 1, none⟩ y) := by
  refine ⟨hS.os, hS.tape, hS.output, by simpa [World.setCell] using hS.size, fun k hk h1 h2 h3 => ?_, hS.fw, hS.fb⟩
  rw [heap_setCell_other _ ⟨g, 1, none⟩ k _ (by simp only; omega), heap_setCell_other _ ⟨g, 0, none⟩ k _ (by simp only; omega)]
  exact hS.block k hk h1 h2 h3

/-- A result's cell of two words and a memory's box, later. -/
theorem laterR {w w1 : World} {a c d : Value} {t1 t2 : TypeId} (hB : Below ((w.alloc (.cells #[c, d] t2)).alloc (.cells #[a] t1)).heap.size ((w.alloc (.cells #[c, d] t2)).alloc (.cells #[a] t1)) w1) :
    w1.heap[w.heap.size]? = some (.cells #[c, d] t2 (0, 0)) ∧ w1.heap[w.heap.size + 1]? = some (.cells #[a] t1 (0, 0)) ∧ Below w.heap.size w w1 :=
  ⟨(hB.block _ (by simp; omega)).trans ((Below.heap_alloc _ _ _ (by simp)).trans (heap_alloc_new w _)), (hB.block _ (by simp)).trans (heap_two w _ _), (below2' w _ _).trans (hB.mono (below2' w _ _).size)⟩

theorem cell_row1f {W : World} {g : Nat} {a : Value} {t : TypeId} (h : W.heap[g]? = some (.cells #[a] t (0, 0))) : W.cell? ⟨g, 0, none⟩ = some a := cell_row1 h

set_option maxRecDepth 20000 in
set_option maxHeartbeats 1000000 in
theorem NewText_limit (h : Hp n₀ bh b vw vb w lim used M) (hl1 : 1 ≤ lim) (s : ByteArray) (hs : 4096 < s.size) :
    Calls Tryz.prog 15 #[.pointer (some ⟨bh, 0, none⟩), .string s] w fun e w' => e = .returned (.tuple #[.agg #[.int .u8 0, .int .i64 0], .int .i64 3]) ∧ Below w.heap.size w w' := by
  have H1 := fun w' (hB : Below w.heap.size w w') => othere_in (h.below hB) hl1
  have hs' : (4096 : Int) < (s.size : Int) := by omega
  unfold mem at H1
  go_enter Tryz.func15, Tryz.ntmps15
  go_wp2_with (first
    | (go_at_call 19; refine (H1 _ (below2' _ _ _)).mono ?_; clear H1; rintro e w1 ⟨rfl, hB1⟩; obtain ⟨m1, m2, hBz⟩ := laterR hB1; obtain ⟨⟨c0, c1⟩, f0, f1⟩ := cell_row2f m1; have c2 := cell_row1 m2))
  refine bodyPost_ret (results_row_tmp (by rfl) _ _ w.heap.size 29 #[.int .u8 0, .int .i64 0] (0, 0) _ (by rfl) (set2_row m1) Tryz.underlying29 (by rfl) infoVal2) (by rfl) ?_
  exact ⟨rfl, below_set (below_set hBz (by omega) _) (by omega) _⟩

set_option maxRecDepth 20000 in
set_option maxHeartbeats 1000000 in
theorem NewText_ok (h : Hp n₀ bh b vw vb w lim used M) (hl1 : 1 ≤ lim) (s : ByteArray) (hs : s.size ≤ 4096) (hf : used + (1 + (s.size + 7) / 8) + 1 ≤ lim) :
    Calls Tryz.prog 15 #[.pointer (some ⟨bh, 0, none⟩), .string s] w fun e w' => e = .returned (.tuple #[.agg #[.int .u8 3, .int .i64 used], .int .i64 0]) ∧ ∃ vw' vb', Hp n₀ bh b vw' vb' w' lim (used + (1 + (s.size + 7) / 8) + 1) (M ++ [⟨used, 3, textW (bts s)⟩]) ∧ Step b vw vb w vw' vb' w' := by
  have H1 := fun w' (hB : Below w.heap.size w w') => othere_in (h.below hB) hl1
  have H2 := fun w' (hB : Below w.heap.size w w') => newText_ok (h.below hB) s hs hf
  have hs' : ¬ (4096 : Int) < (s.size : Int) := by omega
  have hvw : ∀ k, vw.ownBlock = some k → k < w.heap.size := fun k e => (h.blocks k (.inr (.inr (.inl e)))).2.1
  have hvb : ∀ k, vb.ownBlock = some k → k < w.heap.size := fun k e => (h.blocks k (.inr (.inr (.inr e)))).2.1
  have HV : Hid _ := hvw
  clear hvw
  unfold mem at H1 H2
  go_enter Tryz.func15, Tryz.ntmps15
  go_wp2_with (first
    | (go_at_call 19; refine (H1 _ (below2' _ _ _)).mono ?_; clear H1; rintro e w1 ⟨rfl, hB1⟩; obtain ⟨m1, m2, hBz⟩ := laterR hB1; have c2 := cell_row1 m2)
    | (go_at_call 43; refine (H2 _ hBz).mono ?_; clear H2; rintro e w2 ⟨rfl, vw', vb', hp2, hS2⟩; have m3 := ((h.below hBz).stays hS2 m1 (fun cur t e => by cases e; decide)).trans m1; obtain ⟨⟨c0, c1⟩, f0, f1⟩ := cell_row2f m3))
  refine bodyPost_ret (results_row_tmp (by rfl) _ _ w.heap.size 29 #[.int .u8 3, .int .i64 used] (0, 0) _ (by rfl) (set2_row m3) Tryz.underlying29 (by rfl) infoVal2) (by rfl) ?_
  have hS := Step.belowL hBz hS2 HV.out
  refine ⟨rfl, vw', vb', hp2.kept (fun k hk => ?_), ⟨hS.os, hS.tape, hS.output, by simpa [World.setCell] using hS.size, fun k hk h1 h2 h3 => ?_, hS.fw, hS.fb⟩⟩
  · have hne : k ≠ w.heap.size := fun e => hp2.other m3 (fun cur t e => by cases e; decide) (by rw [← e]; exact hk)
    rw [heap_setCell_other _ ⟨w.heap.size, 1, none⟩ k _ hne, heap_setCell_other _ ⟨w.heap.size, 0, none⟩ k _ hne]
  · rw [heap_setCell_other _ ⟨w.heap.size, 1, none⟩ k _ (by simp only; omega), heap_setCell_other _ ⟨w.heap.size, 0, none⟩ k _ (by simp only; omega)]
    exact hS.block k hk h1 h2 h3

/-- Three blocks at a call's start, later. -/
theorem later3o {w w1 : World} {o1 o2 o3 : Obj} (hB : Below (((w.alloc o1).alloc o2).alloc o3).heap.size (((w.alloc o1).alloc o2).alloc o3) w1) :
    w1.heap[w.heap.size]? = some o1 ∧ w1.heap[w.heap.size + 1]? = some o2 ∧ w1.heap[w.heap.size + 1 + 1]? = some o3 ∧ Below w.heap.size w w1 :=
  ⟨(hB.block _ (by simp; omega)).trans (heap3_0 w _ _ _), (hB.block _ (by simp)).trans (heap3_1 w _ _ _), (hB.block _ (by simp)).trans (heap3_2 w _ _ _), (below3' w _ _ _).trans (hB.mono (below3' w _ _ _).size)⟩

theorem kinds1 (W : World) (a : Nat) (g : Nat) (t : TypeId) (h : W.heap[g]? = some (.cells #[.int .u8 a] t (0, 0))) : Kinds W (some ⟨g, 0, none⟩) [a] := by
  intro j k hj
  rcases j with _ | j
  · simp at hj; subst hj; exact ⟨g, 0, rfl, by rw [Nat.zero_add, cell_of_row W g 0 _ _ _ h]; rfl⟩
  · simp at hj

theorem kinds3 (W : World) (a b c : Nat) (g : Nat) (t : TypeId) (h : W.heap[g]? = some (.cells #[.int .u8 a, .int .u8 b, .int .u8 c] t (0, 0))) : Kinds W (some ⟨g, 0, none⟩) [a, b, c] := by
  intro j k hj
  rcases j with _ | _ | _ | j
  · simp at hj; subst hj; exact ⟨g, 0, rfl, by rw [Nat.zero_add, cell_of_row W g 0 _ _ _ h]; rfl⟩
  · simp at hj; subst hj; exact ⟨g, 0, rfl, by rw [Nat.zero_add, cell_of_row W g 1 _ _ _ h]; rfl⟩
  · simp at hj; subst hj; exact ⟨g, 0, rfl, by rw [Nat.zero_add, cell_of_row W g 2 _ _ _ h]; rfl⟩
  · simp at hj

theorem alloc_keeps {W : World} {g : Nat} {o : Obj} (h : W.heap[g]? = some o) (o' : Obj) : (W.alloc o').heap[g]? = some o := (Below.heap_alloc W o' g (Array.getElem?_eq_some_iff.1 h).1).trans h

set_option maxRecDepth 20000 in
set_option maxHeartbeats 1000000 in
theorem Text_in {l r : List Ob} {o : Ob} (h : Hp n₀ bh b vw vb w lim used (l ++ o :: r)) (hl1 : 1 ≤ lim) {n : Nat} (ht : TextOb o n) :
    Calls Tryz.prog 17 #[.pointer (some ⟨bh, 0, none⟩), .agg #[.int .u8 3, .int .i64 o.at_]] w fun e w' => e = .returned (.tuple #[.string (strOfNums ((bytesW o.ws n).map (fun (n : Nat) => (n : Int)))), .int .i64 0]) ∧ Below w.heap.size w w' := by
  have H1 := fun w' (hB : Below w.heap.size w w') p (hk : Kinds w' p [3]) => take_text (h.below hB) hl1 ht 1 hk (by simp) (by simp)
  have H2 := fun w' (hB : Below w.heap.size w w') => said_in (h.below hB) n ht.most
  unfold mem at H1 H2
  go_enter Tryz.func17, Tryz.ntmps17
  go_wp2_with (first
    | (go_at_call 22; refine (H1 _ (below3' _ _ _ _) _ (kinds1 _ _ _ _ (heap3_2 _ _ _ _))).mono ?_; clear H1; rintro e w1 ⟨rfl, hB1⟩; obtain ⟨m1, m2, m3, hBz⟩ := later3o hB1
       have ⟨d0, d1⟩ := cell_row2 (alloc_keeps m1 (.cells #[.int .i64 n, .int .i64 0, .int .i64 0, .int .i64 0] 58)); have d2 := cell_row1 (alloc_keeps m2 (.cells #[.int .i64 n, .int .i64 0, .int .i64 0, .int .i64 0] 58)))
    | (go_at_call 45; refine (H2 _ (hBz.alloc hBz.size _)).mono ?_; clear H2; rintro e w2 ⟨rfl, hB2⟩))
  go_ret2
  have hBy := hBz.alloc hBz.size (.cells #[.int .i64 n, .int .i64 0, .int .i64 0, .int .i64 0] 58)
  exact ⟨rfl, hBy.trans (hB2.mono hBy.size)⟩

/-- Two blocks at a call's start, later. -/
theorem later2o {w w1 : World} {o1 o2 : Obj} (hB : Below ((w.alloc o1).alloc o2).heap.size ((w.alloc o1).alloc o2) w1) :
    w1.heap[w.heap.size]? = some o1 ∧ w1.heap[w.heap.size + 1]? = some o2 ∧ Below w.heap.size w w1 :=
  ⟨(hB.block _ (by simp; omega)).trans ((Below.heap_alloc _ _ _ (by simp)).trans (heap_alloc_new w _)), (hB.block _ (by simp)).trans (heap_two w _ _), (below2' w _ _).trans (hB.mono (below2' w _ _).size)⟩

set_option maxRecDepth 20000 in
set_option maxHeartbeats 1000000 in
theorem byteAt_in {l r : List Ob} {o : Ob} (h : Hp n₀ bh b vw vb w lim used (l ++ o :: r)) (i : Nat) (hi : i < 4096) :
    Calls Tryz.prog 48 #[mem bh, .int .i64 o.at_, .int .i64 i] w fun e w' => e = .returned (.string (strOfNums [(byteW o.ws i : Int)])) ∧ Below w.heap.size w w' := by
  have H1 := oword_in (h.below (below1 w (.cells #[.pointer (some ⟨bh, 0, none⟩)] 54))) (1 + i / 8)
  have ei : ((1 + i / 8 : Nat) : Int) = 1 + (i : Int) / 8 := by omega
  rw [ei] at H1
  clear ei
  obtain ⟨W, hW⟩ : ∃ W, o.ws.getD (1 + i / 8) 0 = W := ⟨_, rfl⟩
  rw [hW] at H1
  have HW : Hid _ := hW
  clear hW
  unfold mem at H1 ⊢
  go_enter Tryz.func48, Tryz.ntmps48
  go_wp2_with (first
    | (go_at_call 89; refine H1.mono ?_; clear H1; rintro e w2 ⟨rfl, hB2⟩
       have hconv := run_convert_bytes_arg (P := Tryz.prog) (w2.alloc (.cells #[.int .u8 ((W : Int) / 2 ^ (8 * (i % 8)) % 256)] 5)) 145 5 Tryz.underlying145 Tryz.underlying5 w2.heap.size 0 1 1 [((W : Int) / 2 ^ (8 * (i % 8)) % 256)] (by simp) (fun j hj => by
          obtain rfl : j = 0 := by omega
          rw [cell_of_row _ w2.heap.size 0 _ _ _ (heap_alloc_new w2 _)]; rfl) 9 Tryz.underlying9))
  go_ret
  have hb := below1 w (.cells #[.pointer (some ⟨bh, 0, none⟩)] 54)
  have hBz := hb.trans (hB2.mono hb.size)
  refine ⟨?_, hBz.alloc hBz.size _⟩
  have e : ((W : Int) / 2 ^ (8 * (i % 8)) % 256) = ((byteW o.ws i : Nat) : Int) := by
    unfold byteW
    rw [HW.out, Int.natCast_emod, Int.natCast_ediv, Int.natCast_pow]
    rw [show (256 : Nat) = 2 ^ 8 from rfl, show (((2 ^ 8 : Nat) : Nat) : Int) = (2 : Int) ^ 8 from rfl, ← Int.pow_mul]
    rfl
  rw [e]
  rfl

/-- Blocks one behind the other. -/
def allocs (w : World) : List Obj → World
  | [] => w
  | o :: r => allocs (w.alloc o) r

theorem allocs_size : ∀ (l : List Obj) (w : World), (allocs w l).heap.size = w.heap.size + l.length
  | [], w => by simp [allocs]
  | o :: r, w => by simp only [allocs]; rw [allocs_size r, World.size_alloc]; simp; omega

theorem allocs_below : ∀ (l : List Obj) (w : World), Below w.heap.size w (allocs w l)
  | [], w => Below.refl _ _
  | o :: r, w => (below1 w o).trans ((allocs_below r (w.alloc o)).mono (by simp))

theorem allocs_get : ∀ (l : List Obj) (w : World) (j : Nat) (o : Obj), l[j]? = some o → (allocs w l).heap[w.heap.size + j]? = some o
  | [], w, j, o, h => by simp at h
  | o' :: r, w, 0, o, h => by
    simp at h; subst h
    exact ((allocs_below r (w.alloc o')).block _ (by simp)).trans (heap_alloc_new w o')
  | o' :: r, w, j + 1, o, h => by
    have := allocs_get r (w.alloc o') j o (by simpa using h)
    rw [World.size_alloc] at this
    rw [show w.heap.size + (j + 1) = w.heap.size + 1 + j by omega]
    exact this

theorem laterN {w w1 : World} (l : List Obj) (hB : Below (allocs w l).heap.size (allocs w l) w1) : (∀ j o, l[j]? = some o → w1.heap[w.heap.size + j]? = some o) ∧ Below w.heap.size w w1 := by
  refine ⟨fun j o h => (hB.block _ ?_).trans (allocs_get l w j o h), (allocs_below l w).trans (hB.mono (allocs_below l w).size)⟩
  rw [allocs_size]
  have := (List.getElem?_eq_some_iff.1 h).1
  omega

theorem later5o {w w1 : World} {o1 o2 o3 o4 o5 : Obj} (hB : Below (((((w.alloc o1).alloc o2).alloc o3).alloc o4).alloc o5).heap.size (((((w.alloc o1).alloc o2).alloc o3).alloc o4).alloc o5) w1) :
    (w1.heap[w.heap.size]? = some o1 ∧ w1.heap[w.heap.size + 1]? = some o2 ∧ w1.heap[w.heap.size + 1 + 1]? = some o3 ∧ w1.heap[w.heap.size + 1 + 1 + 1]? = some o4) ∧ Below w.heap.size w w1 := by
  have := laterN [o1, o2, o3, o4, o5] hB
  exact ⟨⟨this.1 0 _ rfl, this.1 1 _ rfl, this.1 2 _ rfl, this.1 3 _ rfl⟩, this.2⟩

theorem below5' (w : World) (o1 o2 o3 o4 o5 : Obj) : Below w.heap.size w (((((w.alloc o1).alloc o2).alloc o3).alloc o4).alloc o5) := allocs_below [o1, o2, o3, o4, o5] w

theorem heap5_4 (w : World) (o1 o2 o3 o4 o5 : Obj) : (((((w.alloc o1).alloc o2).alloc o3).alloc o4).alloc o5).heap[w.heap.size + 1 + 1 + 1 + 1]? = some o5 := allocs_get [o1, o2, o3, o4, o5] w 4 o5 rfl

theorem bts_str (l : List Nat) (h : ∀ x ∈ l, x < 256) : bts (strOfNums (l.map (fun (n : Nat) => (n : Int)))) = l := by
  unfold strOfNums bts
  simp only [List.map_map]
  refine (List.map_congr_left (g := id) (fun x hx => ?_)).trans (List.map_id l)
  have := h x hx
  simp [Function.comp]
  omega

set_option maxRecDepth 20000 in
set_option maxHeartbeats 1000000 in
theorem Get_text {l r : List Ob} {o : Ob} (h : Hp n₀ bh b vw vb w lim used (l ++ o :: r)) (hl1 : 1 ≤ lim) {n : Nat} (ht : TextOb o n) (i : Nat) (hi : i < n) (hf : used + 3 ≤ lim) :
    Calls Tryz.prog 18 #[.pointer (some ⟨bh, 0, none⟩), .agg #[.int .u8 3, .int .i64 o.at_], .agg #[.int .u8 2, .int .i64 i]] w fun e w' => e = .returned (.tuple #[.agg #[.int .u8 3, .int .i64 used], .int .i64 0]) ∧
      ∃ vw' vb', Hp n₀ bh b vw' vb' w' lim (used + 3) ((l ++ o :: r) ++ [⟨used, 3, textW [byteW o.ws i]⟩]) ∧ Step b vw vb w vw' vb' w' := by
  have hn := ht.most
  have H1 := fun w' (hB : Below w.heap.size w w') p (hk : Kinds w' p [3, 4, 5]) => take_text (h.below hB) hl1 ht 3 hk (by simp) (by simp)
  have H2 := fun w' (hB : Below w.heap.size w w') => byteAt_in (h.below hB) i (by omega)
  have eb : bts (strOfNums [(byteW o.ws i : Int)]) = [byteW o.ws i] := bts_str [byteW o.ws i] (by unfold byteW; simp; omega)
  have es : (strOfNums [(byteW o.ws i : Int)]).size = 1 := by rw [← bts_len, eb]; rfl
  have H3 := fun w' (hB : Below w.heap.size w w') => newText_ok (h.below hB) (strOfNums [(byteW o.ws i : Int)]) (by rw [es]; omega) (by rw [es]; omega)
  rw [es, eb] at H3
  have hi' : (i : Int) < (n : Int) := by omega
  have HV : Hid (∀ k, vw.ownBlock = some k → k < w.heap.size) := fun k e => (h.blocks k (.inr (.inr (.inl e)))).2.1
  unfold mem at H1 H2 H3
  clear es eb
  go_enter Tryz.func18, Tryz.ntmps18
  go_wp2_with (first
    | (go_at_call 22; refine (H1 _ (below5' _ _ _ _ _ _) _ (kinds3 _ _ _ _ _ _ (heap5_4 _ _ _ _ _ _))).mono ?_; clear H1; rintro e w1 ⟨rfl, hB1⟩; obtain ⟨⟨m1, m2, m3, m4⟩, hBz⟩ := later5o hB1
       have k1 := alloc_keeps m1 (.cells #[.int .i64 n, .int .i64 0, .int .i64 0, .int .i64 0] 58); have k2 := alloc_keeps m2 (.cells #[.int .i64 n, .int .i64 0, .int .i64 0, .int .i64 0] 58); have k3 := alloc_keeps m3 (.cells #[.int .i64 n, .int .i64 0, .int .i64 0, .int .i64 0] 58); have k4 := alloc_keeps m4 (.cells #[.int .i64 n, .int .i64 0, .int .i64 0, .int .i64 0] 58)
       have ⟨d0, d1⟩ := cell_row2 k1; have ⟨d2, d3⟩ := cell_row2 k2; have d4 := cell_row1 k4; have hBy := hBz.alloc hBz.size (.cells #[.int .i64 n, .int .i64 0, .int .i64 0, .int .i64 0] 58)))
  go_region_held3 (fun W => W.cell? ⟨w.heap.size, 1, none⟩ = some (.int .i64 o.at_) ∧ W.cell? ⟨w.heap.size + 1, 1, none⟩ = some (.int .i64 i) ∧ W.cell? ⟨w.heap.size + 1 + 1 + 1, 0, none⟩ = some (.pointer (some ⟨bh, 0, none⟩))) (first | exact ⟨d1, d3, d4⟩ | exact S2 | exact ⟨z1, z2, z3⟩ | exact ⟨(cell_set2 (by simp only; omega)).trans z1, (cell_set2 (by simp only; omega)).trans z2, (cell_set2 (by simp only; omega)).trans z3⟩ | go_keep)
    ((first
      | (go_at_call 48; refine (H2 _ (below_drew hBy)).mono ?_; clear H2; rintro e w2 ⟨rfl, hB2⟩; have hBx := (below_drew hBy).trans (hB2.mono (below_drew hBy).size); have k3' := (hB2.block _ (Array.getElem?_eq_some_iff.1 k3).1).trans k3; have k4' := (hB2.block _ (Array.getElem?_eq_some_iff.1 k4).1).trans k4; have k1' := (hB2.block _ (Array.getElem?_eq_some_iff.1 k1).1).trans k1; have k2' := (hB2.block _ (Array.getElem?_eq_some_iff.1 k2).1).trans k2; have S2 := And.intro (cell_row2 k1').2 (And.intro (cell_row2 k2').2 (cell_row1 k4')))
      | (go_at_call 43; refine (H3 _ hBx).mono ?_; clear H3; rintro e w3 ⟨rfl, vw', vb', hp3, hS3⟩; have m5 := ((h.below hBx).stays hS3 k3' (fun cur t e => by cases e; decide)).trans k3'; obtain ⟨⟨c0, c1⟩, f0, f1⟩ := cell_row2f m5; obtain ⟨z1, z2, z3⟩ := And.intro (cell_row2 (((h.below hBx).stays hS3 k1' (fun cur t e => by cases e; decide)).trans k1')).2 (And.intro (cell_row2 (((h.below hBx).stays hS3 k2' (fun cur t e => by cases e; decide)).trans k2')).2 (cell_row1 (((h.below hBx).stays hS3 k4' (fun cur t e => by cases e; decide)).trans k4'))))))
  all_goals
    go_wp2
    refine bodyPost_ret (results_row_tmp (by rfl) _ _ (w.heap.size + 1 + 1) 29 #[.int .u8 3, .int .i64 used] (0, 0) _ (by rfl) (set2_row m5) Tryz.underlying29 (by rfl) infoVal2) (by rfl) ?_
    have hS := Step.belowL hBx hS3 HV.out
    refine ⟨rfl, vw', vb', hp3.kept (fun k hk => ?_), step_set2 hS (by omega) _ _⟩
    have hne : k ≠ w.heap.size + 1 + 1 := fun e => hp3.other m5 (fun cur t e => by cases e; decide) (by rw [← e]; exact hk)
    rw [heap_setCell_other _ ⟨w.heap.size + 1 + 1, 1, none⟩ k _ hne, heap_setCell_other _ ⟨w.heap.size + 1 + 1, 0, none⟩ k _ hne]

end Go.Proofs.YtkombdkhodjckaaGreat
