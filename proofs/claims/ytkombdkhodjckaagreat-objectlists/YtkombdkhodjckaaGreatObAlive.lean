/- Some answers that the document fixes. -/
import Derived.Test.YtkombdkhodjckaaGreatObNewMap
import Derived.Deep.DeepCutAuto
namespace Go.Proofs.YtkombdkhodjckaaGreat
set_option linter.unusedVariables false
set_option linter.unusedSimpArgs false
open Go.RowKit Go.Maps

variable {n₀ bh b lim used : Nat} {vw vb : Value} {w : World} {M : List Ob}

set_option maxHeartbeats 400000 in
theorem number_in (n : Int) (w : World) : Calls Tryz.prog 6 #[.int .i64 n] w fun e w' => e = .returned (.agg #[.int .u8 2, .int .i64 n]) ∧ Below w.heap.size w w' := by
  have m := heap_alloc_new w (.cells #[.int .u8 0, .int .i64 0] 29)
  obtain ⟨⟨e0, e1⟩, f0, f1⟩ := cell_row2f m
  go_enter Tryz.func6, Tryz.ntmps6
  go_wp2
  refine bodyPost_ret (results_cell_row (by rfl) _ _ w.heap.size 29 _ _ _ (by rfl) (heap_alloc_new w _) Tryz.underlying29 (by rfl) infoVal3) (by rfl) ?_
  exact ⟨rfl, below1 w _⟩

/-- A variable that holds a value. -/
def Bx (w : World) (g k : Nat) (n : Int) : Prop := w.heap[g]? = some (.cells #[.int .u8 k, .int .i64 n] 29 (0, 0))

theorem Bx.below {g k : Nat} {n : Int} (h : Bx w g k n) {w' : World} (hB : Below w.heap.size w w') : Bx w' g k n := (hB.block _ (Array.getElem?_eq_some_iff.1 h).1).trans h

theorem Bx.step {g k : Nat} {n : Int} (h : Bx w g k n) (hp : Hp n₀ bh b vw vb w lim used M) {vw' vb' : Value} {w' : World} (hS : Step b vw vb w vw' vb' w') : Bx w' g k n := (hp.stays hS h (fun cur t e => by cases e; decide)).trans h

theorem Bx.lt {g k : Nat} {n : Int} (h : Bx w g k n) : g < w.heap.size := (Array.getElem?_eq_some_iff.1 h).1

theorem Hp.setBx (h : Hp n₀ bh b vw vb w lim used M) {g k : Nat} {n : Int} (hb : Bx w g k n) (x y : Value) : Hp n₀ bh b vw vb ((w.setCell ⟨g, 0, none⟩ x).setCell ⟨g, 1, none⟩ y) lim used M := h.kept (fun q hq => by
  have hne : q ≠ g := fun e => h.other hb (fun cur t e => by cases e; decide) (by rw [← e]; exact hq)
  rw [heap_setCell_other _ ⟨g, 1, none⟩ q _ hne, heap_setCell_other _ ⟨g, 0, none⟩ q _ hne])

theorem Bx.set {g k : Nat} {n : Int} (h : Bx w g k n) (k' : Nat) (n' : Int) : Bx ((w.setCell ⟨g, 0, none⟩ (.int .u8 k')).setCell ⟨g, 1, none⟩ (.int .i64 n')) g k' n' := set2_row h

theorem Bx.other {g g' k : Nat} {n : Int} (h : Bx w g' k n) (hne : g' ≠ g) (x y : Value) : Bx ((w.setCell ⟨g, 0, none⟩ x).setCell ⟨g, 1, none⟩ y) g' k n := by
  unfold Bx
  rw [heap_setCell_other _ ⟨g, 1, none⟩ g' _ hne, heap_setCell_other _ ⟨g, 0, none⟩ g' _ hne]; exact h

theorem Bx.cells {g k : Nat} {n : Int} (h : Bx w g k n) : (w.cell? ⟨g, 0, none⟩ = some (.int .u8 k) ∧ w.cell? ⟨g, 1, none⟩ = some (.int .i64 n)) ∧ w.frozen? ⟨g, 0, none⟩ = false ∧ w.frozen? ⟨g, 1, none⟩ = false := cell_row2f h

def hello : ByteArray := ⟨#[104, 101, 108, 108, 111, 44, 32, 121, 111, 117]⟩

theorem hello_size : hello.size = 10 := rfl

theorem vals2 {W : World} {g k k' : Nat} {x x' : Int} (h : W.heap[g]? = some (.cells #[.int .u8 k, .int .i64 x, .int .u8 k', .int .i64 x'] 29 (0, 0))) : ValsT W (some ⟨g, 0, none⟩) [⟨k, x⟩, ⟨k', x'⟩] := by
  refine ⟨?_, fun b0 off e => by cases e; exact ⟨_, h⟩⟩
  intro j v hj
  obtain ⟨h1, h2⟩ := vcells_get _ j v hj
  refine ⟨g, 0, rfl, ?_, ?_⟩
  · simp only [World.cell?, h]; simpa [vcells] using h1
  · simp only [World.cell?, h]; simpa [vcells] using h2

theorem vals4 {W : World} {g k k' l l' : Nat} {x x' y y' : Int} (h : W.heap[g]? = some (.cells #[.int .u8 k, .int .i64 x, .int .u8 k', .int .i64 x', .int .u8 l, .int .i64 y, .int .u8 l', .int .i64 y'] 29 (0, 0))) : ValsT W (some ⟨g, 0, none⟩) [⟨k, x⟩, ⟨k', x'⟩, ⟨l, y⟩, ⟨l', y'⟩] := by
  refine ⟨?_, fun b0 off e => by cases e; exact ⟨_, h⟩⟩
  intro j v hj
  obtain ⟨h1, h2⟩ := vcells_get _ j v hj
  refine ⟨g, 0, rfl, ?_, ?_⟩
  · simp only [World.cell?, h]; simpa [vcells] using h1
  · simp only [World.cell?, h]; simpa [vcells] using h2

def tNone : Vl → Option ByteArray := fun _ => none

theorem told_none (k : Nat) (n : Int) (hk : k ≠ 3) (w : World) : TextTold tNone bh ⟨k, n⟩ w := fun w' _ => by
  have := textOf_no (bh := bh) k n hk w'
  exact this

theorem once_ex : once tNone [(⟨2, 1⟩, ⟨2, 2⟩), (⟨2, 1⟩, ⟨2, 3⟩)] = [(⟨2, 1⟩, ⟨2, 3⟩)] := by
  rw [show [((⟨2, 1⟩ : Vl), (⟨2, 2⟩ : Vl)), (⟨2, 1⟩, ⟨2, 3⟩)] = [(⟨2, 1⟩, ⟨2, 2⟩)] ++ [(⟨2, 1⟩, ⟨2, 3⟩)] from rfl, once_snoc]
  have e : once tNone [(⟨2, 1⟩, ⟨2, 2⟩)] = [(⟨2, 1⟩, ⟨2, 2⟩)] := rfl
  rw [e]
  exact upd_yes (l := []) (p := (⟨2, 1⟩, ⟨2, 2⟩)) (r := []) (by simp) (likeK.refl _ _)

def exM1 : List Ob := [⟨0, 3, textW (bts hello)⟩]

def exM2 : List Ob := [⟨0, 3, textW (bts hello)⟩, ⟨4, 4, [2, 8]⟩, ⟨7, 8, lays (List.replicate 4 0) 0 [⟨2, 1⟩, ⟨3, 0⟩]⟩]

def exM3 : List Ob := [⟨0, 3, textW (bts hello)⟩, ⟨4, 4, [2, 8]⟩, ⟨7, 8, lays (List.replicate 4 0) 0 [⟨2, 1⟩, ⟨3, 0⟩]⟩, ⟨12, 5, [2, 16]⟩, ⟨15, 8, lays (List.replicate 8 0) 0 [⟨2, 1⟩, ⟨2, 3⟩]⟩]

/-- What the heap answers of its three objects. -/
theorem ex_list {w : World} (h : Hp n₀ bh b vw vb w 60 4 exM1) (g c : Nat) (hb : w.heap[g]? = some (.cells #[.int .u8 2, .int .i64 1, .int .u8 3, .int .i64 0] 29 (0, 0))) :
    Calls Tryz.prog 7 #[.pointer (some ⟨bh, 0, none⟩), .slice (some ⟨g, 0, none⟩) 2 c] w fun e w' => e = .returned (.tuple #[.agg #[.int .u8 4, .int .i64 4], .int .i64 0]) ∧ ∃ vw' vb', Hp n₀ bh b vw' vb' w' 60 12 exM2 ∧ Step b vw vb w vw' vb' w' :=
  NewList_ok h (by omega) (vs := [⟨2, 1⟩, ⟨3, 0⟩]) c (vals2 hb) (by simp) (by simp) (by
    intro v hv
    simp at hv
    rcases hv with rfl | rfl
    · exact .inr (.inr (.inl rfl))
    · exact .inr (.inr (.inr ⟨by simp, by decide, by decide, ⟨0, 3, textW (bts hello)⟩, by simp [exM1], rfl, rfl⟩))) (by simp) (by simp)

theorem ex_map {w : World} (h : Hp n₀ bh b vw vb w 60 12 exM2) (g c : Nat) (hb : w.heap[g]? = some (.cells #[.int .u8 2, .int .i64 1, .int .u8 2, .int .i64 2, .int .u8 2, .int .i64 1, .int .u8 2, .int .i64 3] 29 (0, 0))) :
    Calls Tryz.prog 16 #[.pointer (some ⟨bh, 0, none⟩), .slice (some ⟨g, 0, none⟩) 4 c] w fun e w' => e = .returned (.tuple #[.agg #[.int .u8 5, .int .i64 12], .int .i64 0]) ∧ ∃ vw' vb', Hp n₀ bh b vw' vb' w' 60 24 exM3 ∧ Step b vw vb w vw' vb' w' := by
  have := NewMap_ok (T := tNone) h (by omega) [(⟨2, 1⟩, ⟨2, 2⟩), (⟨2, 1⟩, ⟨2, 3⟩)] c (vals4 hb) (by
    intro q hq
    simp at hq
    rcases hq with rfl | rfl <;> simp [Vl.fits]) (by
    intro v hv
    simp [flat] at hv
    rcases hv with rfl | rfl | rfl | rfl <;> exact .inr (.inr (.inl rfl))) (by simp) (by simp) (by
    intro q hq
    simp at hq
    rcases hq with rfl | rfl <;> exact told_none 2 1 (by simp) w) (by intro q _ s hs; cases hs) (by simp [flat])
  rw [once_ex] at this
  exact this

theorem ex_row2 : RowOb exM3 ⟨4, 4, [2, 8]⟩ ⟨7, 8, lays (List.replicate 4 0) 0 [⟨2, 1⟩, ⟨3, 0⟩]⟩ 2 2 := ⟨by simp [exM3], by simp [exM3], rfl, rfl, by simp [lays_len], by simp⟩

theorem ex_row3 : RowOb exM3 ⟨12, 5, [2, 16]⟩ ⟨15, 8, lays (List.replicate 8 0) 0 [⟨2, 1⟩, ⟨2, 3⟩]⟩ (2 * 1) 4 := ⟨by simp [exM3], by simp [exM3], rfl, rfl, by simp [lays_len], by simp⟩

theorem ex_ws : lays (List.replicate 8 0) 0 [⟨2, 1⟩, ⟨2, 3⟩] = [2, 1, 2, 3, 0, 0, 0, 0] := by decide

theorem ex_v0 : valK (lays (List.replicate 8 0) 0 [⟨2, 1⟩, ⟨2, 3⟩]) 0 = 2 ∧ valN (lays (List.replicate 8 0) 0 [⟨2, 1⟩, ⟨2, 3⟩]) 0 = 1 := by rw [ex_ws]; exact ⟨by simp [valK], by simp [valN]; unfold wrap64; decide⟩

theorem ex_v1 : valK (lays (List.replicate 8 0) 0 [⟨2, 1⟩, ⟨2, 3⟩]) 2 = 2 ∧ valN (lays (List.replicate 8 0) 0 [⟨2, 1⟩, ⟨2, 3⟩]) 2 = 3 := by rw [ex_ws]; exact ⟨by simp [valK], by simp [valN]; unfold wrap64; decide⟩

theorem ex_get {w : World} (h : Hp n₀ bh b vw vb w 60 24 exM3) :
    Calls Tryz.prog 18 #[.pointer (some ⟨bh, 0, none⟩), .agg #[.int .u8 5, .int .i64 12], .agg #[.int .u8 2, .int .i64 1]] w fun e w' => e = .returned (.tuple #[.agg #[.int .u8 2, .int .i64 3], .int .i64 0]) ∧ Below w.heap.size w w' :=
  Get_map h (by omega) ex_row3 rfl (by omega) ⟨2, 1⟩ ⟨2, 3⟩ (fun w' hB => by
    have := valueOf_yes (h.below hB) ex_row3.memq 2 4 2 1 (by simp) (by simp) (by simp [lays_len]) (i := 0) ⟨by simp, rfl, ⟨ex_v0.1.symm, ex_v0.2.symm⟩, by simp⟩
    simp only [Nat.zero_add, Nat.mul_one, ex_v1.1, ex_v1.2] at this
    exact this)

theorem ex_over {w : World} (h : Hp n₀ bh b vw vb w 60 24 exM3) :
    Calls Tryz.prog 18 #[.pointer (some ⟨bh, 0, none⟩), .agg #[.int .u8 4, .int .i64 4], .agg #[.int .u8 2, .int .i64 2]] w fun e w' => e = .returned (.tuple #[.agg #[.int .u8 0, .int .i64 0], .int .i64 1]) ∧ Below w.heap.size w w' :=
  Get_over h (by omega) ex_row2 rfl (by omega) 2 (by omega)

theorem ex_put {w : World} (h : Hp n₀ bh b vw vb w 60 24 exM3) :
    Calls Tryz.prog 8 #[.pointer (some ⟨bh, 0, none⟩), .agg #[.int .u8 4, .int .i64 4], .agg #[.int .u8 2, .int .i64 2], .agg #[.int .u8 2, .int .i64 9]] w fun e w' => e = .returned (.int .i64 0) ∧ ∃ vw' vb' M', Hp n₀ bh b vw' vb' w' 60 33 M' ∧ Step b vw vb w vw' vb' w' :=
  (Put_grow h (by omega) ex_row2 rfl (by simp) (by omega) 2 9 (.inr (.inr (.inl rfl))) (by omega) (by omega)).mono (fun e w' ⟨h1, vw', vb', h2, h3⟩ => ⟨h1, vw', vb', _, h2, h3⟩)

theorem ex_text {w : World} {M' : List Ob} {u : Nat} (h : Hp n₀ bh b vw vb w 60 u (⟨0, 3, textW (bts hello)⟩ :: M')) :
    Calls Tryz.prog 17 #[.pointer (some ⟨bh, 0, none⟩), .agg #[.int .u8 3, .int .i64 0]] w fun e w' => e = .returned (.tuple #[.string hello, .int .i64 0]) ∧ Below w.heap.size w w' := by
  have := Text_in (l := []) (o := ⟨0, 3, textW (bts hello)⟩) (r := M') h (by omega) (TextOb.of hello (by rw [hello_size]; omega) 0)
  have e : bytesW (textW (bts hello)) hello.size = bts hello := by
    have := bytesW_text (bts_lt hello)
    rw [bts_len] at this
    exact this
  simp only [e, strOf_bts] at this
  exact this

set_option maxRecDepth 20000 in
set_option maxHeartbeats 4000000 in
theorem alive_in (w : World) : Calls Tryz.prog 4 #[] w fun e w' => e = .returned (.bool true) ∧ Below w.heap.size w w' := by
  have a0 := newM 60 w (by omega) (by omega)
  go_enter Tryz.func4, Tryz.ntmps4
  go_upto_region 3 with (first
    | (go_at_call 14; refine a0.mono ?_; clear a0; rintro e w0 ⟨bh, b, vw0, vb0, rfl, hp0, hB0⟩; have a1 := NewText_ok hp0 (by omega) hello (by rw [hello_size]; omega) (by rw [hello_size]; omega); unfold hello at a1)
    | (go_at_call 15; refine a1.mono ?_; clear a1; rintro e w1 ⟨rfl, vw1, vb1, hp1', hS1⟩
       have hB1 := hB0.trans (hp0.stepBelow hS1)
       have hp1 : Hp w.heap.size bh b vw1 vb1 w1 60 4 exM1 := hp1'
       clear hp1' hp0 hS1 hB0))
  have bt1 : Bx (w1.alloc (.cells #[.int .u8 3, .int .i64 0] 29)) w1.heap.size 3 0 := heap_alloc_new w1 _
  have hB1a := hB1.alloc hB1.size (.cells #[.int .u8 3, .int .i64 0] 29)
  have hp1a := hp1.below (below1 w1 (.cells #[.int .u8 3, .int .i64 0] 29))
  obtain ⟨W1, hW1⟩ : ∃ W, w1.alloc (.cells #[.int .u8 3, .int .i64 0] 29) = W := ⟨_, rfl⟩
  rw [hW1] at bt1 hB1a hp1a ⊢
  obtain ⟨gt, hgt⟩ : ∃ g, w1.heap.size = g := ⟨_, rfl⟩
  rw [hgt] at bt1 ⊢
  clear hW1 hgt hB1 hp1
  have N1 := fun (n : Int) (w : World) => number_in n w
  go_cut [5, 6] (fun s5 s6 wc => ∃ g5 vw vb, s5 = .pointer (some ⟨g5, 0, none⟩) ∧ s6 = .int .i64 0 ∧ Hp w.heap.size bh b vw vb wc 60 12 exM2 ∧ Bx wc gt 3 0 ∧ Bx wc g5 4 4 ∧ Below w.heap.size w wc)
  case first =>
    have HL := fun W (hB : Below W1.heap.size W1 W) g (hb : W.heap[g]? = some (.cells #[.int .u8 2, .int .i64 1, .int .u8 3, .int .i64 0] 29 (0, 0))) => ex_list (hp1a.below hB) g 2 hb
    have ⟨t0, t1⟩ := cell_row2 bt1
    have hDa : Below W1.heap.size W1 W1.drew := below_drew (Below.refl _ _)
    have hDb : Below W1.heap.size W1 (W1.alloc (.cells #[.int .u8 0, .int .i64 0] 29)).drew := below_drew (below1 W1 _)
    have F : ∀ W, Bx W gt 3 0 → W.cell? ⟨gt, 0, none⟩ = some (.int .u8 3) ∧ W.cell? ⟨gt, 1, none⟩ = some (.int .i64 0) := fun W h => cell_row2 h
    go_region_held3 (fun W => W.cell? ⟨gt, 0, none⟩ = some (.int .u8 3) ∧ W.cell? ⟨gt, 1, none⟩ = some (.int .i64 0)) (first | exact F _ bt1 | exact F _ (bt1.below hDa) | exact F _ (bt1.below hDb) | exact F _ q3 | exact F _ (q3.below (below1 _ _)) | exact F _ (q3.below (below2' _ _ _)) | exact F _ q4 | exact F _ (q4.below (below1 _ _)) | exact F _ (q4.other hne4 _ _) | go_keep) ((first
      | (go_at_call 6; (with_reducible refine (N1 1 (W1.alloc (.cells #[.int .u8 0, .int .i64 0] 29)).drew).mono ?_); rintro e w3 ⟨rfl, hB3⟩; have hC3 : Below W1.heap.size W1 w3 := hDb.trans (hB3.mono hDb.size); have q3 := bt1.below hC3; have mz3 : Bx w3 W1.heap.size 0 0 := (hB3.block _ (by simp [World.drew])).trans (heap_alloc_new W1 _))
      | (go_at_call 6; (with_reducible refine (N1 1 W1.drew).mono ?_); rintro e w3 ⟨rfl, hB3⟩; have hC3 : Below W1.heap.size W1 w3 := hDa.trans hB3; have q3 := bt1.below hC3)
      | (go_at_call 7; (with_reducible refine (HL (w3.alloc (.cells #[.int .u8 2, .int .i64 1, .int .u8 3, .int .i64 0] 29)) (hC3.alloc hC3.size (.cells #[.int .u8 2, .int .i64 1, .int .u8 3, .int .i64 0] 29)) _ (heap_alloc_new w3 (.cells #[.int .u8 2, .int .i64 1, .int .u8 3, .int .i64 0] 29))).mono ?_); rintro e w4 ⟨rfl, vw4, vb4, hp4, hS4⟩; have hpx := hp1a.below (hC3.alloc hC3.size (.cells #[.int .u8 2, .int .i64 1, .int .u8 3, .int .i64 0] 29)); have q4 := (bt1.below (hC3.alloc hC3.size (.cells #[.int .u8 2, .int .i64 1, .int .u8 3, .int .i64 0] 29))).step hpx hS4; have hB4 : Below w.heap.size w w4 := (hB1a.trans ((hC3.alloc hC3.size (.cells #[.int .u8 2, .int .i64 1, .int .u8 3, .int .i64 0] 29)).mono hB1a.size)).trans (hpx.stepBelow hS4); have mz4 : Bx w4 (W1.heap.size) 0 0 := (show Bx (w3.alloc (.cells #[.int .u8 2, .int .i64 1, .int .u8 3, .int .i64 0] 29)) (W1.heap.size) 0 0 from mz3.below (below1 w3 (.cells #[.int .u8 2, .int .i64 1, .int .u8 3, .int .i64 0] 29))).step hpx hS4; have hne4 : gt ≠ W1.heap.size := (by have := bt1.lt; have := hC3.size; omega); obtain ⟨⟨z0, z1⟩, y0, y1⟩ := mz4.cells)
      | (go_at_call 7; (with_reducible refine (HL (w3.alloc (.cells #[.int .u8 2, .int .i64 1, .int .u8 3, .int .i64 0] 29)) (hC3.alloc hC3.size (.cells #[.int .u8 2, .int .i64 1, .int .u8 3, .int .i64 0] 29)) _ (heap_alloc_new w3 (.cells #[.int .u8 2, .int .i64 1, .int .u8 3, .int .i64 0] 29))).mono ?_); rintro e w4 ⟨rfl, vw4, vb4, hp4, hS4⟩; have hpx := hp1a.below (hC3.alloc hC3.size (.cells #[.int .u8 2, .int .i64 1, .int .u8 3, .int .i64 0] 29)); have q4 := (bt1.below (hC3.alloc hC3.size (.cells #[.int .u8 2, .int .i64 1, .int .u8 3, .int .i64 0] 29))).step hpx hS4; have hB4 : Below w.heap.size w w4 := (hB1a.trans ((hC3.alloc hC3.size (.cells #[.int .u8 2, .int .i64 1, .int .u8 3, .int .i64 0] 29)).mono hB1a.size)).trans (hpx.stepBelow hS4))
      | (go_at_call 7; (with_reducible refine (HL ((w3.alloc (.cells #[.int .u8 0, .int .i64 0] 29)).alloc (.cells #[.int .u8 2, .int .i64 1, .int .u8 3, .int .i64 0] 29)) (hC3.trans ((below2' w3 (.cells #[.int .u8 0, .int .i64 0] 29) (.cells #[.int .u8 2, .int .i64 1, .int .u8 3, .int .i64 0] 29)).mono hC3.size)) _ (heap_two w3 (.cells #[.int .u8 0, .int .i64 0] 29) (.cells #[.int .u8 2, .int .i64 1, .int .u8 3, .int .i64 0] 29))).mono ?_); rintro e w4 ⟨rfl, vw4, vb4, hp4, hS4⟩; have hpx := hp1a.below (hC3.trans ((below2' w3 (.cells #[.int .u8 0, .int .i64 0] 29) (.cells #[.int .u8 2, .int .i64 1, .int .u8 3, .int .i64 0] 29)).mono hC3.size)); have q4 := (bt1.below (hC3.trans ((below2' w3 (.cells #[.int .u8 0, .int .i64 0] 29) (.cells #[.int .u8 2, .int .i64 1, .int .u8 3, .int .i64 0] 29)).mono hC3.size))).step hpx hS4; have hB4 : Below w.heap.size w w4 := (hB1a.trans ((hC3.trans ((below2' w3 (.cells #[.int .u8 0, .int .i64 0] 29) (.cells #[.int .u8 2, .int .i64 1, .int .u8 3, .int .i64 0] 29)).mono hC3.size)).mono hB1a.size)).trans (hpx.stepBelow hS4); have mz4 : Bx w4 (w3.heap.size) 0 0 := (show Bx ((w3.alloc (.cells #[.int .u8 0, .int .i64 0] 29)).alloc (.cells #[.int .u8 2, .int .i64 1, .int .u8 3, .int .i64 0] 29)) (w3.heap.size) 0 0 from alloc_keeps (heap_alloc_new w3 (.cells #[.int .u8 0, .int .i64 0] 29)) (.cells #[.int .u8 2, .int .i64 1, .int .u8 3, .int .i64 0] 29)).step hpx hS4; have hne4 : gt ≠ w3.heap.size := (by have := bt1.lt; have := hC3.size; omega); obtain ⟨⟨z0, z1⟩, y0, y1⟩ := mz4.cells)
      | (go_at_call 7; (with_reducible refine (HL ((w3.alloc (.cells #[.int .u8 2, .int .i64 1, .int .u8 3, .int .i64 0] 29)).alloc (.cells #[.int .u8 0, .int .i64 0] 29)) (hC3.trans ((below2' w3 (.cells #[.int .u8 2, .int .i64 1, .int .u8 3, .int .i64 0] 29) (.cells #[.int .u8 0, .int .i64 0] 29)).mono hC3.size)) _ (alloc_keeps (heap_alloc_new w3 (.cells #[.int .u8 2, .int .i64 1, .int .u8 3, .int .i64 0] 29)) (.cells #[.int .u8 0, .int .i64 0] 29))).mono ?_); rintro e w4 ⟨rfl, vw4, vb4, hp4, hS4⟩; have hpx := hp1a.below (hC3.trans ((below2' w3 (.cells #[.int .u8 2, .int .i64 1, .int .u8 3, .int .i64 0] 29) (.cells #[.int .u8 0, .int .i64 0] 29)).mono hC3.size)); have q4 := (bt1.below (hC3.trans ((below2' w3 (.cells #[.int .u8 2, .int .i64 1, .int .u8 3, .int .i64 0] 29) (.cells #[.int .u8 0, .int .i64 0] 29)).mono hC3.size))).step hpx hS4; have hB4 : Below w.heap.size w w4 := (hB1a.trans ((hC3.trans ((below2' w3 (.cells #[.int .u8 2, .int .i64 1, .int .u8 3, .int .i64 0] 29) (.cells #[.int .u8 0, .int .i64 0] 29)).mono hC3.size)).mono hB1a.size)).trans (hpx.stepBelow hS4); have mz4 : Bx w4 (w3.heap.size + 1) 0 0 := (show Bx ((w3.alloc (.cells #[.int .u8 2, .int .i64 1, .int .u8 3, .int .i64 0] 29)).alloc (.cells #[.int .u8 0, .int .i64 0] 29)) (w3.heap.size + 1) 0 0 from heap_two w3 (.cells #[.int .u8 2, .int .i64 1, .int .u8 3, .int .i64 0] 29) (.cells #[.int .u8 0, .int .i64 0] 29)).step hpx hS4; have hne4 : gt ≠ w3.heap.size + 1 := (by have := bt1.lt; have := hC3.size; omega); obtain ⟨⟨z0, z1⟩, y0, y1⟩ := mz4.cells)
      ))
    all_goals
      go_wp2_with fail
      go_meet
      case rel => first | exact ⟨_, vw4, vb4, rfl, rfl, hp4.setBx mz4 _ _, q4.other hne4 _ _, mz4.set 4 4, below_set (below_set hB4 (by have := hB1a.size; have := hC3.size; omega) _) (by have := hB1a.size; have := hC3.size; omega) _⟩ | exact ⟨_, vw4, vb4, rfl, rfl, hp4.below (below1 w4 _), q4.below (below1 w4 _), heap_alloc_new w4 _, hB4.alloc hB4.size _⟩
  case rest =>
    obtain ⟨g5, vw2, vb2, rfl, rfl, hp2, bt2, b52, hB2⟩ := hcut
    clear bt1 hB1a hp1a
    have HM := fun W (hB : Below wc.heap.size wc W) g (hb : W.heap[g]? = some (.cells #[.int .u8 2, .int .i64 1, .int .u8 2, .int .i64 2, .int .u8 2, .int .i64 1, .int .u8 2, .int .i64 3] 29 (0, 0))) => ex_map (hp2.below hB) g 4 hb
    go_upto_region 6 with (first
      | (go_at_call 6; (with_reducible refine (N1 1 wc).mono ?_); rintro e x1 ⟨rfl, hx1⟩)
      | (go_at_call 6; (with_reducible refine (N1 2 x1).mono ?_); rintro e x2 ⟨rfl, hx2⟩; have hy2 := hx1.trans (hx2.mono hx1.size))
      | (go_at_call 6; (with_reducible refine (N1 1 x2).mono ?_); rintro e x3 ⟨rfl, hx3⟩; have hy3 := hy2.trans (hx3.mono hy2.size))
      | (go_at_call 6; (with_reducible refine (N1 3 x3).mono ?_); rintro e x4 ⟨rfl, hx4⟩; have hy4 := hy3.trans (hx4.mono hy3.size))
      | (go_at_call 16; (with_reducible refine (HM (x4.alloc (.cells #[.int .u8 2, .int .i64 1, .int .u8 2, .int .i64 2, .int .u8 2, .int .i64 1, .int .u8 2, .int .i64 3] 29)) (hy4.alloc hy4.size (.cells #[.int .u8 2, .int .i64 1, .int .u8 2, .int .i64 2, .int .u8 2, .int .i64 1, .int .u8 2, .int .i64 3] 29)) x4.heap.size (heap_alloc_new x4 (.cells #[.int .u8 2, .int .i64 1, .int .u8 2, .int .i64 2, .int .u8 2, .int .i64 1, .int .u8 2, .int .i64 3] 29))).mono ?_); clear HM; rintro e x5 ⟨rfl, vw3, vb3, hp3', hS3⟩
         have hpx := hp2.below (hy4.alloc hy4.size (.cells #[.int .u8 2, .int .i64 1, .int .u8 2, .int .i64 2, .int .u8 2, .int .i64 1, .int .u8 2, .int .i64 3] 29))
         have bt3 := ((bt2.below (hy4.alloc hy4.size (.cells #[.int .u8 2, .int .i64 1, .int .u8 2, .int .i64 2, .int .u8 2, .int .i64 1, .int .u8 2, .int .i64 3] 29))).step hpx hS3).below (below1 x5 (.cells #[.int .u8 5, .int .i64 12] 29))
         have b53 := ((b52.below (hy4.alloc hy4.size (.cells #[.int .u8 2, .int .i64 1, .int .u8 2, .int .i64 2, .int .u8 2, .int .i64 1, .int .u8 2, .int .i64 3] 29))).step hpx hS3).below (below1 x5 (.cells #[.int .u8 5, .int .i64 12] 29))
         have b73 : Bx (x5.alloc (.cells #[.int .u8 5, .int .i64 12] 29)) x5.heap.size 5 12 := heap_alloc_new x5 _
         have hB3 : Below w.heap.size w (x5.alloc (.cells #[.int .u8 5, .int .i64 12] 29)) := by
           have h1 := (hB2.trans ((hy4.alloc hy4.size (.cells #[.int .u8 2, .int .i64 1, .int .u8 2, .int .i64 2, .int .u8 2, .int .i64 1, .int .u8 2, .int .i64 3] 29)).mono hB2.size)).trans (hpx.stepBelow hS3)
           exact h1.alloc h1.size _
         have hp3 := hp3'.below (below1 x5 (.cells #[.int .u8 5, .int .i64 12] 29))
         have ⟨tt0, tt1⟩ := cell_row2 bt3
         have HX := ex_text (M' := exM3.tail) hp3
         clear hpx hS3 hp3')
      | (go_at_call 17; (with_reducible refine HX.mono ?_); clear HX; rintro e x6 ⟨rfl, hx6⟩; have bt4 := bt3.below hx6; have b54 := b53.below hx6; have b74 := b73.below hx6; have hB4 := hB3.trans (hx6.mono hB3.size); have hp4 := hp3.below hx6))
    unfold hello
    clear bt2 b52 hB2 hp2 bt3 b53 b73 hB3 hp3 hx1 hx2 hx3 hx4 hy2 hy3 hy4 tt0 tt1 hx6
    obtain ⟨g7, hg7⟩ : ∃ g, x5.heap.size = g := ⟨_, rfl⟩
    rw [hg7] at b74 ⊢
    clear hg7
    go_cut [11, 12] (fun s11 s12 wc => ∃ g, s11 = .pointer (some ⟨g, 0, none⟩) ∧ s12 = .int .i64 0 ∧ Below x6.heap.size x6 wc ∧ Bx wc g 2 3)
    case first =>
      have HG := fun W (hB : Below x6.heap.size x6 W) => ex_get (hp4.below hB)
      have ⟨t0, t1⟩ := cell_row2 b74
      have hDa : Below x6.heap.size x6 x6.drew := below_drew (Below.refl _ _)
      have hDb : Below x6.heap.size x6 (x6.alloc (.cells #[.int .u8 0, .int .i64 0] 29)).drew := below_drew (below1 x6 _)
      have F : ∀ W, Bx W g7 5 12 → W.cell? ⟨g7, 0, none⟩ = some (.int .u8 5) ∧ W.cell? ⟨g7, 1, none⟩ = some (.int .i64 12) := fun W h => cell_row2 h
      go_region_held3 (fun W => W.cell? ⟨g7, 0, none⟩ = some (.int .u8 5) ∧ W.cell? ⟨g7, 1, none⟩ = some (.int .i64 12)) (first | exact F _ b74 | exact F _ (b74.below hDa) | exact F _ (b74.below hDb) | exact F _ q3 | exact F _ (q3.below (below1 _ _)) | exact F _ q4 | exact F _ (q4.below (below1 _ _)) | exact F _ (q4.other hne4 _ _) | go_keep) ((first
        | (go_at_call 6; (with_reducible refine (N1 1 (x6.alloc (.cells #[.int .u8 0, .int .i64 0] 29)).drew).mono ?_); rintro e w3 ⟨rfl, hB3⟩; have hC3 : Below x6.heap.size x6 w3 := hDb.trans (hB3.mono hDb.size); have q3 := b74.below hC3; have mz3 : Bx w3 x6.heap.size 0 0 := (hB3.block _ (by simp [World.drew])).trans (heap_alloc_new x6 _))
        | (go_at_call 6; (with_reducible refine (N1 1 x6.drew).mono ?_); rintro e w3 ⟨rfl, hB3⟩; have hC3 : Below x6.heap.size x6 w3 := hDa.trans hB3; have q3 := b74.below hC3)
        | (go_at_call 18; (with_reducible refine (HG w3 hC3).mono ?_); rintro e w4 ⟨rfl, hB4'⟩; have mz4 : Bx w4 x6.heap.size 0 0 := mz3.below hB4'; have hC4 := hC3.trans (hB4'.mono hC3.size); have q4 := b74.below hC4; have hne4 : g7 ≠ x6.heap.size := (by have := b74.lt; omega); obtain ⟨⟨z0, z1⟩, y0, y1⟩ := mz4.cells)
        | (go_at_call 18; (with_reducible refine (HG w3 hC3).mono ?_); rintro e w4 ⟨rfl, hB4'⟩; have hC4 := hC3.trans (hB4'.mono hC3.size); have q4 := b74.below hC4)
        | (go_at_call 18; (with_reducible refine (HG (w3.alloc (.cells #[.int .u8 0, .int .i64 0] 29)) (hC3.alloc hC3.size (.cells #[.int .u8 0, .int .i64 0] 29))).mono ?_); rintro e w4 ⟨rfl, hB4'⟩; have mz4 : Bx w4 w3.heap.size 0 0 := (show Bx (w3.alloc (.cells #[.int .u8 0, .int .i64 0] 29)) w3.heap.size 0 0 from heap_alloc_new w3 _).below hB4'; have hC4 := (hC3.alloc hC3.size (.cells #[.int .u8 0, .int .i64 0] 29)).trans (hB4'.mono (hC3.alloc hC3.size (.cells #[.int .u8 0, .int .i64 0] 29)).size); have q4 := b74.below hC4; have hne4 : g7 ≠ w3.heap.size := (by have := b74.lt; have := hC3.size; omega); obtain ⟨⟨z0, z1⟩, y0, y1⟩ := mz4.cells)))
      all_goals
        go_wp2_with fail
        go_meet
        case rel => first | exact ⟨_, rfl, rfl, below_set (below_set hC4 (by have := hC3.size; omega) _) (by have := hC3.size; omega) _, mz4.set 2 3⟩ | exact ⟨_, rfl, rfl, hC4.alloc hC4.size _, heap_alloc_new w4 _⟩
    case rest =>
      obtain ⟨g11, rfl, rfl, hz6, b11⟩ := hcut
      have bt5 := bt4.below hz6
      have b55 := b54.below hz6
      have b75 := b74.below hz6
      have hB5 := hB4.trans (hz6.mono hB4.size)
      have hp5 := hp4.below hz6
      rename World => W7
      clear bt4 b54 b74 hB4 hp4 hz6
      go_upto_region 7 with fail
      go_cut [13, 14] (fun s13 s14 wc => ∃ g, s13 = .pointer (some ⟨g, 0, none⟩) ∧ s14 = .int .i64 1 ∧ Below W7.heap.size W7 wc ∧ Bx wc g 0 0)
      case first =>
        have HG := fun W (hB : Below W7.heap.size W7 W) => ex_over (hp5.below hB)
        have ⟨t0, t1⟩ := cell_row2 b55
        have hDa : Below W7.heap.size W7 W7.drew := below_drew (Below.refl _ _)
        have hDb : Below W7.heap.size W7 (W7.alloc (.cells #[.int .u8 0, .int .i64 0] 29)).drew := below_drew (below1 W7 _)
        have F : ∀ W, Bx W g5 4 4 → W.cell? ⟨g5, 0, none⟩ = some (.int .u8 4) ∧ W.cell? ⟨g5, 1, none⟩ = some (.int .i64 4) := fun W h => cell_row2 h
        go_region_held3 (fun W => W.cell? ⟨g5, 0, none⟩ = some (.int .u8 4) ∧ W.cell? ⟨g5, 1, none⟩ = some (.int .i64 4)) (first | exact F _ b55 | exact F _ (b55.below hDa) | exact F _ (b55.below hDb) | exact F _ q3 | exact F _ (q3.below (below1 _ _)) | exact F _ q4 | exact F _ (q4.below (below1 _ _)) | exact F _ (q4.other hne4 _ _) | go_keep) ((first
          | (go_at_call 6; (with_reducible refine (N1 2 (W7.alloc (.cells #[.int .u8 0, .int .i64 0] 29)).drew).mono ?_); rintro e w3 ⟨rfl, hB3⟩; have hC3 : Below W7.heap.size W7 w3 := hDb.trans (hB3.mono hDb.size); have q3 := b55.below hC3; have mz3 : Bx w3 W7.heap.size 0 0 := (hB3.block _ (by simp [World.drew])).trans (heap_alloc_new W7 _))
          | (go_at_call 6; (with_reducible refine (N1 2 W7.drew).mono ?_); rintro e w3 ⟨rfl, hB3⟩; have hC3 : Below W7.heap.size W7 w3 := hDa.trans hB3; have q3 := b55.below hC3)
          | (go_at_call 18; (with_reducible refine (HG w3 hC3).mono ?_); rintro e w4 ⟨rfl, hB4'⟩; have mz4 : Bx w4 W7.heap.size 0 0 := mz3.below hB4'; have hC4 := hC3.trans (hB4'.mono hC3.size); have q4 := b55.below hC4; have hne4 : g5 ≠ W7.heap.size := (by have := b55.lt; omega); obtain ⟨⟨z0, z1⟩, y0, y1⟩ := mz4.cells)
          | (go_at_call 18; (with_reducible refine (HG w3 hC3).mono ?_); rintro e w4 ⟨rfl, hB4'⟩; have hC4 := hC3.trans (hB4'.mono hC3.size); have q4 := b55.below hC4)
          | (go_at_call 18; (with_reducible refine (HG (w3.alloc (.cells #[.int .u8 0, .int .i64 0] 29)) (hC3.alloc hC3.size (.cells #[.int .u8 0, .int .i64 0] 29))).mono ?_); rintro e w4 ⟨rfl, hB4'⟩; have mz4 : Bx w4 w3.heap.size 0 0 := (show Bx (w3.alloc (.cells #[.int .u8 0, .int .i64 0] 29)) w3.heap.size 0 0 from heap_alloc_new w3 _).below hB4'; have hC4 := (hC3.alloc hC3.size (.cells #[.int .u8 0, .int .i64 0] 29)).trans (hB4'.mono (hC3.alloc hC3.size (.cells #[.int .u8 0, .int .i64 0] 29)).size); have q4 := b55.below hC4; have hne4 : g5 ≠ w3.heap.size := (by have := b55.lt; have := hC3.size; omega); obtain ⟨⟨z0, z1⟩, y0, y1⟩ := mz4.cells)))
        all_goals
          go_wp2_with fail
          go_meet
          case rel => first | exact ⟨_, rfl, rfl, below_set (below_set hC4 (by have := hC3.size; omega) _) (by have := hC3.size; omega) _, mz4.set 0 0⟩ | exact ⟨_, rfl, rfl, hC4.alloc hC4.size _, heap_alloc_new w4 _⟩
      case rest =>
        obtain ⟨g13, rfl, rfl, hz7, _⟩ := hcut
        have bt6 := bt5.below hz7
        have b56 := b55.below hz7
        have b76 := b75.below hz7
        have b116 := b11.below hz7
        have hB6 := hB5.trans (hz7.mono hB5.size)
        have hp6 := hp5.below hz7
        rename World => W8
        clear bt5 b55 b75 hB5 hp5 hz7 b11
        go_upto_region 8 with fail
        have HPT := fun W (hB : Below W8.heap.size W8 W) => ex_put (hp6.below hB)
        have hDa : Below W8.heap.size W8 W8.drew := below_drew (Below.refl _ _)
        have F : ∀ W, Bx W g5 4 4 → W.cell? ⟨g5, 0, none⟩ = some (.int .u8 4) ∧ W.cell? ⟨g5, 1, none⟩ = some (.int .i64 4) := fun W h => cell_row2 h
        go_region_held3 (fun W => W.cell? ⟨g5, 0, none⟩ = some (.int .u8 4) ∧ W.cell? ⟨g5, 1, none⟩ = some (.int .i64 4)) (first | exact F _ b56 | exact F _ (b56.below hDa) | exact F _ (b56.below hC1) | exact F _ (b56.below hC2) | exact F _ b57 | go_keep) ((first
          | (go_at_call 6; (with_reducible refine (N1 2 W8.drew).mono ?_); rintro e y1 ⟨rfl, hD1⟩; have hC1 : Below W8.heap.size W8 y1 := hDa.trans hD1)
          | (go_at_call 6; (with_reducible refine (N1 9 y1).mono ?_); rintro e y2 ⟨rfl, hD2⟩; have hC2 : Below W8.heap.size W8 y2 := hC1.trans (hD2.mono hC1.size))
          | (go_at_call 8; (with_reducible refine (HPT y2 hC2).mono ?_); clear HPT; rintro e y3 ⟨rfl, vw9, vb9, M9, hp9, hS9⟩; have hpx := hp6.below hC2; have bt7 := (bt6.below hC2).step hpx hS9; have b57 := (b56.below hC2).step hpx hS9; have b77 := (b76.below hC2).step hpx hS9; have b117 := (b116.below hC2).step hpx hS9; have hB7 := (hB6.trans (hC2.mono hB6.size)).trans (hpx.stepBelow hS9))))
        have HU := usedM hp9
        have ⟨t0, t1⟩ := cell_row2 bt7
        have ⟨t2, t3⟩ := cell_row2 b57
        have ⟨t4, t5⟩ := cell_row2 b77
        have ⟨t6, t7⟩ := cell_row2 b117
        go_wp2_with ((go_at_call 13; (with_reducible refine HU.mono ?_); clear HU; rintro e y4 ⟨rfl, rfl⟩))
        go_ret
        exact ⟨rfl, hB7⟩

end Go.Proofs.YtkombdkhodjckaaGreat
