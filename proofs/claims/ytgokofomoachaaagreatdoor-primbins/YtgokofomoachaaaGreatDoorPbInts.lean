/- The document's ints. -/
import Derived.Test.YtgokofomoachaaaGreatDoorPoText
import Derived.Test.YtgokofomoachaaaGreatDoorPnBin2
namespace Go.Proofs.YtgokofomoachaaaGreatDoor
set_option linter.unusedVariables false
set_option linter.unusedSimpArgs false
open Go.RowKit

variable {w : World}

/-- What two whole numbers come to. -/
def intsR (op : Nat) (a b : Int) : Rd :=
  if op = 1 then { v := ⟨2, wrap64 (a + b)⟩ } else if op = 2 then { v := ⟨2, wrap64 (a - b)⟩ } else if op = 3 then { v := ⟨2, wrap64 (a * b)⟩ }
  else if op = 4 then (if b = 0 then { t := tZero } else { v := ⟨2, wrap64 (Int.tdiv a b)⟩ })
  else if op = 5 then (if b = 0 then { t := tZero } else { v := ⟨2, Int.tmod a b⟩ })
  else if op = 6 then { v := tru (decide (a < b)) } else if op = 7 then { v := tru (decide (a ≤ b)) } else { t := tKind }

set_option maxRecDepth 20000 in
set_option maxHeartbeats 2000000 in
theorem rInts_1 (a b : Int)  (w : World) {d : Rd} (hd : d = { v := ⟨2, wrap64 (a + b)⟩ }) : Calls Tryz.prog 58 #[.int .u8 1, .int .i64 a, .int .i64 b] w (RdR w d) := by
  have hB := below1 w (.cells #[.int .u8 0, .int .i64 0, .string ⟨#[]⟩, .int .i64 0] 38)
  have hb := heap_alloc_new w (.cells #[.int .u8 0, .int .i64 0, .string ⟨#[]⟩, .int .i64 0] 38)
  have H1 := rInt_in (wrap64 (a + b)) (w.alloc (.cells #[.int .u8 0, .int .i64 0, .string ⟨#[]⟩, .int .i64 0] 38))
  subst hd
  go_enter Tryz.func58, Tryz.ntmps58
  go_wp2_with (first
    | (go_at_call 64; (with_reducible refine H1.mono ?_); clear H1; rintro e w1 ⟨rfl, hB1⟩; have hr := (hB1.block _ (Array.getElem?_eq_some_iff.1 hb).1).trans hb; obtain ⟨⟨z0, z1, z2, z3⟩, y0, y1, y2, y3⟩ := cell_row4D hr))
  refine bodyPost_ret (results_cell_row (by rfl) _ _ w.heap.size 38 _ _ _ (by rfl) (set4_rowD hr) Tryz.underlying38 (by rfl) infoRd) (by rfl) ?_
  exact ⟨rfl, below_set4 (hB.trans (hB1.mono hB.size)) (Nat.le_refl _) _ _ _ _⟩

set_option maxRecDepth 20000 in
set_option maxHeartbeats 2000000 in
theorem rInts_2 (a b : Int)  (w : World) {d : Rd} (hd : d = { v := ⟨2, wrap64 (a - b)⟩ }) : Calls Tryz.prog 58 #[.int .u8 2, .int .i64 a, .int .i64 b] w (RdR w d) := by
  have hB := below1 w (.cells #[.int .u8 0, .int .i64 0, .string ⟨#[]⟩, .int .i64 0] 38)
  have hb := heap_alloc_new w (.cells #[.int .u8 0, .int .i64 0, .string ⟨#[]⟩, .int .i64 0] 38)
  have H1 := rInt_in (wrap64 (a - b)) (w.alloc (.cells #[.int .u8 0, .int .i64 0, .string ⟨#[]⟩, .int .i64 0] 38))
  subst hd
  go_enter Tryz.func58, Tryz.ntmps58
  go_wp2_with (first
    | (go_at_call 64; (with_reducible refine H1.mono ?_); clear H1; rintro e w1 ⟨rfl, hB1⟩; have hr := (hB1.block _ (Array.getElem?_eq_some_iff.1 hb).1).trans hb; obtain ⟨⟨z0, z1, z2, z3⟩, y0, y1, y2, y3⟩ := cell_row4D hr))
  refine bodyPost_ret (results_cell_row (by rfl) _ _ w.heap.size 38 _ _ _ (by rfl) (set4_rowD hr) Tryz.underlying38 (by rfl) infoRd) (by rfl) ?_
  exact ⟨rfl, below_set4 (hB.trans (hB1.mono hB.size)) (Nat.le_refl _) _ _ _ _⟩

set_option maxRecDepth 20000 in
set_option maxHeartbeats 2000000 in
theorem rInts_3 (a b : Int)  (w : World) {d : Rd} (hd : d = { v := ⟨2, wrap64 (a * b)⟩ }) : Calls Tryz.prog 58 #[.int .u8 3, .int .i64 a, .int .i64 b] w (RdR w d) := by
  have hB := below1 w (.cells #[.int .u8 0, .int .i64 0, .string ⟨#[]⟩, .int .i64 0] 38)
  have hb := heap_alloc_new w (.cells #[.int .u8 0, .int .i64 0, .string ⟨#[]⟩, .int .i64 0] 38)
  have H1 := rInt_in (wrap64 (a * b)) (w.alloc (.cells #[.int .u8 0, .int .i64 0, .string ⟨#[]⟩, .int .i64 0] 38))
  subst hd
  go_enter Tryz.func58, Tryz.ntmps58
  go_wp2_with (first
    | (go_at_call 64; (with_reducible refine H1.mono ?_); clear H1; rintro e w1 ⟨rfl, hB1⟩; have hr := (hB1.block _ (Array.getElem?_eq_some_iff.1 hb).1).trans hb; obtain ⟨⟨z0, z1, z2, z3⟩, y0, y1, y2, y3⟩ := cell_row4D hr))
  refine bodyPost_ret (results_cell_row (by rfl) _ _ w.heap.size 38 _ _ _ (by rfl) (set4_rowD hr) Tryz.underlying38 (by rfl) infoRd) (by rfl) ?_
  exact ⟨rfl, below_set4 (hB.trans (hB1.mono hB.size)) (Nat.le_refl _) _ _ _ _⟩

set_option maxRecDepth 20000 in
set_option maxHeartbeats 2000000 in
theorem rInts_4z (a b : Int) (h0 : b = 0) (w : World) {d : Rd} (hd : d = { t := tZero }) : Calls Tryz.prog 58 #[.int .u8 4, .int .i64 a, .int .i64 b] w (RdR w d) := by
  have hB := below1 w (.cells #[.int .u8 0, .int .i64 0, .string ⟨#[]⟩, .int .i64 0] 38)
  have hb := heap_alloc_new w (.cells #[.int .u8 0, .int .i64 0, .string ⟨#[]⟩, .int .i64 0] 38)
  have H1 := thrown_in tZero (w.alloc (.cells #[.int .u8 0, .int .i64 0, .string ⟨#[]⟩, .int .i64 0] 38)) (d := { t := tZero }) rfl
  unfold tZero at H1
  subst h0
  subst hd
  go_enter Tryz.func58, Tryz.ntmps58
  go_wp2_with (first
    | (go_at_call 55; (with_reducible refine H1.mono ?_); clear H1; rintro e w1 ⟨rfl, hB1⟩; have hr := (hB1.block _ (Array.getElem?_eq_some_iff.1 hb).1).trans hb; obtain ⟨⟨z0, z1, z2, z3⟩, y0, y1, y2, y3⟩ := cell_row4D hr))
  refine bodyPost_ret (results_cell_row (by rfl) _ _ w.heap.size 38 _ _ _ (by rfl) (set4_rowD hr) Tryz.underlying38 (by rfl) infoRd) (by rfl) ?_
  exact ⟨rfl, below_set4 (hB.trans (hB1.mono hB.size)) (Nat.le_refl _) _ _ _ _⟩

set_option maxRecDepth 20000 in
set_option maxHeartbeats 2000000 in
theorem rInts_4m (a b : Int) (h0 : b = -1) (w : World) {d : Rd} (hd : d = { v := ⟨2, wrap64 (-a)⟩ }) : Calls Tryz.prog 58 #[.int .u8 4, .int .i64 a, .int .i64 b] w (RdR w d) := by
  have hB := below1 w (.cells #[.int .u8 0, .int .i64 0, .string ⟨#[]⟩, .int .i64 0] 38)
  have hb := heap_alloc_new w (.cells #[.int .u8 0, .int .i64 0, .string ⟨#[]⟩, .int .i64 0] 38)
  have H1 := rInt_in (wrap64 (-a)) (w.alloc (.cells #[.int .u8 0, .int .i64 0, .string ⟨#[]⟩, .int .i64 0] 38))
  subst h0
  subst hd
  go_enter Tryz.func58, Tryz.ntmps58
  go_wp2_with (first
    | (go_at_call 64; (with_reducible refine H1.mono ?_); clear H1; rintro e w1 ⟨rfl, hB1⟩; have hr := (hB1.block _ (Array.getElem?_eq_some_iff.1 hb).1).trans hb; obtain ⟨⟨z0, z1, z2, z3⟩, y0, y1, y2, y3⟩ := cell_row4D hr))
  refine bodyPost_ret (results_cell_row (by rfl) _ _ w.heap.size 38 _ _ _ (by rfl) (set4_rowD hr) Tryz.underlying38 (by rfl) infoRd) (by rfl) ?_
  exact ⟨rfl, below_set4 (hB.trans (hB1.mono hB.size)) (Nat.le_refl _) _ _ _ _⟩

set_option maxRecDepth 20000 in
set_option maxHeartbeats 2000000 in
theorem rInts_4 (a b : Int) (h0 : b ≠ 0) (h1 : b ≠ -1) (w : World) {d : Rd} (hd : d = { v := ⟨2, wrap64 (Int.tdiv a b)⟩ }) : Calls Tryz.prog 58 #[.int .u8 4, .int .i64 a, .int .i64 b] w (RdR w d) := by
  have hB := below1 w (.cells #[.int .u8 0, .int .i64 0, .string ⟨#[]⟩, .int .i64 0] 38)
  have hb := heap_alloc_new w (.cells #[.int .u8 0, .int .i64 0, .string ⟨#[]⟩, .int .i64 0] 38)
  have H1 := rInt_in (wrap64 (Int.tdiv a b)) (w.alloc (.cells #[.int .u8 0, .int .i64 0, .string ⟨#[]⟩, .int .i64 0] 38))
  have h0' : (b == 0) = false := by simpa using h0
  have h1' : (b == -1) = false := by simpa using h1
  subst hd
  go_enter Tryz.func58, Tryz.ntmps58
  go_wp2_with (first
    | (go_at_call 64; (with_reducible refine H1.mono ?_); clear H1; rintro e w1 ⟨rfl, hB1⟩; have hr := (hB1.block _ (Array.getElem?_eq_some_iff.1 hb).1).trans hb; obtain ⟨⟨z0, z1, z2, z3⟩, y0, y1, y2, y3⟩ := cell_row4D hr))
  refine bodyPost_ret (results_cell_row (by rfl) _ _ w.heap.size 38 _ _ _ (by rfl) (set4_rowD hr) Tryz.underlying38 (by rfl) infoRd) (by rfl) ?_
  exact ⟨rfl, below_set4 (hB.trans (hB1.mono hB.size)) (Nat.le_refl _) _ _ _ _⟩

set_option maxRecDepth 20000 in
set_option maxHeartbeats 2000000 in
theorem rInts_5z (a b : Int) (h0 : b = 0) (w : World) {d : Rd} (hd : d = { t := tZero }) : Calls Tryz.prog 58 #[.int .u8 5, .int .i64 a, .int .i64 b] w (RdR w d) := by
  have hB := below1 w (.cells #[.int .u8 0, .int .i64 0, .string ⟨#[]⟩, .int .i64 0] 38)
  have hb := heap_alloc_new w (.cells #[.int .u8 0, .int .i64 0, .string ⟨#[]⟩, .int .i64 0] 38)
  have H1 := thrown_in tZero (w.alloc (.cells #[.int .u8 0, .int .i64 0, .string ⟨#[]⟩, .int .i64 0] 38)) (d := { t := tZero }) rfl
  unfold tZero at H1
  subst h0
  subst hd
  go_enter Tryz.func58, Tryz.ntmps58
  go_wp2_with (first
    | (go_at_call 55; (with_reducible refine H1.mono ?_); clear H1; rintro e w1 ⟨rfl, hB1⟩; have hr := (hB1.block _ (Array.getElem?_eq_some_iff.1 hb).1).trans hb; obtain ⟨⟨z0, z1, z2, z3⟩, y0, y1, y2, y3⟩ := cell_row4D hr))
  refine bodyPost_ret (results_cell_row (by rfl) _ _ w.heap.size 38 _ _ _ (by rfl) (set4_rowD hr) Tryz.underlying38 (by rfl) infoRd) (by rfl) ?_
  exact ⟨rfl, below_set4 (hB.trans (hB1.mono hB.size)) (Nat.le_refl _) _ _ _ _⟩

set_option maxRecDepth 20000 in
set_option maxHeartbeats 2000000 in
theorem rInts_5m (a b : Int) (h0 : b = -1) (w : World) {d : Rd} (hd : d = { v := ⟨2, 0⟩ }) : Calls Tryz.prog 58 #[.int .u8 5, .int .i64 a, .int .i64 b] w (RdR w d) := by
  have hB := below1 w (.cells #[.int .u8 0, .int .i64 0, .string ⟨#[]⟩, .int .i64 0] 38)
  have hb := heap_alloc_new w (.cells #[.int .u8 0, .int .i64 0, .string ⟨#[]⟩, .int .i64 0] 38)
  have H1 := rInt_in (0) (w.alloc (.cells #[.int .u8 0, .int .i64 0, .string ⟨#[]⟩, .int .i64 0] 38))
  subst h0
  subst hd
  go_enter Tryz.func58, Tryz.ntmps58
  go_wp2_with (first
    | (go_at_call 64; (with_reducible refine H1.mono ?_); clear H1; rintro e w1 ⟨rfl, hB1⟩; have hr := (hB1.block _ (Array.getElem?_eq_some_iff.1 hb).1).trans hb; obtain ⟨⟨z0, z1, z2, z3⟩, y0, y1, y2, y3⟩ := cell_row4D hr))
  refine bodyPost_ret (results_cell_row (by rfl) _ _ w.heap.size 38 _ _ _ (by rfl) (set4_rowD hr) Tryz.underlying38 (by rfl) infoRd) (by rfl) ?_
  exact ⟨rfl, below_set4 (hB.trans (hB1.mono hB.size)) (Nat.le_refl _) _ _ _ _⟩

set_option maxRecDepth 20000 in
set_option maxHeartbeats 2000000 in
theorem rInts_5 (a b : Int) (h0 : b ≠ 0) (h1 : b ≠ -1) (w : World) {d : Rd} (hd : d = { v := ⟨2, Int.tmod a b⟩ }) : Calls Tryz.prog 58 #[.int .u8 5, .int .i64 a, .int .i64 b] w (RdR w d) := by
  have hB := below1 w (.cells #[.int .u8 0, .int .i64 0, .string ⟨#[]⟩, .int .i64 0] 38)
  have hb := heap_alloc_new w (.cells #[.int .u8 0, .int .i64 0, .string ⟨#[]⟩, .int .i64 0] 38)
  have H1 := rInt_in (Int.tmod a b) (w.alloc (.cells #[.int .u8 0, .int .i64 0, .string ⟨#[]⟩, .int .i64 0] 38))
  have h0' : (b == 0) = false := by simpa using h0
  have h1' : (b == -1) = false := by simpa using h1
  subst hd
  go_enter Tryz.func58, Tryz.ntmps58
  go_wp2_with (first
    | (go_at_call 64; (with_reducible refine H1.mono ?_); clear H1; rintro e w1 ⟨rfl, hB1⟩; have hr := (hB1.block _ (Array.getElem?_eq_some_iff.1 hb).1).trans hb; obtain ⟨⟨z0, z1, z2, z3⟩, y0, y1, y2, y3⟩ := cell_row4D hr))
  refine bodyPost_ret (results_cell_row (by rfl) _ _ w.heap.size 38 _ _ _ (by rfl) (set4_rowD hr) Tryz.underlying38 (by rfl) infoRd) (by rfl) ?_
  exact ⟨rfl, below_set4 (hB.trans (hB1.mono hB.size)) (Nat.le_refl _) _ _ _ _⟩

set_option maxRecDepth 20000 in
set_option maxHeartbeats 2000000 in
theorem rInts_6 (a b : Int)  (w : World) {d : Rd} (hd : d = { v := tru (decide (a < b)) }) : Calls Tryz.prog 58 #[.int .u8 6, .int .i64 a, .int .i64 b] w (RdR w d) := by
  have hB := below1 w (.cells #[.int .u8 0, .int .i64 0, .string ⟨#[]⟩, .int .i64 0] 38)
  have hb := heap_alloc_new w (.cells #[.int .u8 0, .int .i64 0, .string ⟨#[]⟩, .int .i64 0] 38)
  have H1 := rBool_in (decide (a < b)) (w.alloc (.cells #[.int .u8 0, .int .i64 0, .string ⟨#[]⟩, .int .i64 0] 38))
  subst hd
  go_enter Tryz.func58, Tryz.ntmps58
  go_wp2_with (first
    | (go_at_call 56; (with_reducible refine H1.mono ?_); clear H1; rintro e w1 ⟨rfl, hB1⟩; have hr := (hB1.block _ (Array.getElem?_eq_some_iff.1 hb).1).trans hb; obtain ⟨⟨z0, z1, z2, z3⟩, y0, y1, y2, y3⟩ := cell_row4D hr))
  refine bodyPost_ret (results_cell_row (by rfl) _ _ w.heap.size 38 _ _ _ (by rfl) (set4_rowD hr) Tryz.underlying38 (by rfl) infoRd) (by rfl) ?_
  exact ⟨rfl, below_set4 (hB.trans (hB1.mono hB.size)) (Nat.le_refl _) _ _ _ _⟩

set_option maxRecDepth 20000 in
set_option maxHeartbeats 2000000 in
theorem rInts_7 (a b : Int)  (w : World) {d : Rd} (hd : d = { v := tru (decide (a ≤ b)) }) : Calls Tryz.prog 58 #[.int .u8 7, .int .i64 a, .int .i64 b] w (RdR w d) := by
  have hB := below1 w (.cells #[.int .u8 0, .int .i64 0, .string ⟨#[]⟩, .int .i64 0] 38)
  have hb := heap_alloc_new w (.cells #[.int .u8 0, .int .i64 0, .string ⟨#[]⟩, .int .i64 0] 38)
  have H1 := rBool_in (decide (a ≤ b)) (w.alloc (.cells #[.int .u8 0, .int .i64 0, .string ⟨#[]⟩, .int .i64 0] 38))
  subst hd
  go_enter Tryz.func58, Tryz.ntmps58
  go_wp2_with (first
    | (go_at_call 56; (with_reducible refine H1.mono ?_); clear H1; rintro e w1 ⟨rfl, hB1⟩; have hr := (hB1.block _ (Array.getElem?_eq_some_iff.1 hb).1).trans hb; obtain ⟨⟨z0, z1, z2, z3⟩, y0, y1, y2, y3⟩ := cell_row4D hr))
  refine bodyPost_ret (results_cell_row (by rfl) _ _ w.heap.size 38 _ _ _ (by rfl) (set4_rowD hr) Tryz.underlying38 (by rfl) infoRd) (by rfl) ?_
  exact ⟨rfl, below_set4 (hB.trans (hB1.mono hB.size)) (Nat.le_refl _) _ _ _ _⟩

set_option maxRecDepth 20000 in
set_option maxHeartbeats 2000000 in
theorem rInts_no (a b : Int) {op : Nat} (hop : op = 0 ∨ 7 < op) (w : World) {d : Rd} (hd : d = { t := tKind }) : Calls Tryz.prog 58 #[.int .u8 op, .int .i64 a, .int .i64 b] w (RdR w d) := by
  have hB := below1 w (.cells #[.int .u8 0, .int .i64 0, .string ⟨#[]⟩, .int .i64 0] 38)
  have hb := heap_alloc_new w (.cells #[.int .u8 0, .int .i64 0, .string ⟨#[]⟩, .int .i64 0] 38)
  have H1 := thrown_in tKind (w.alloc (.cells #[.int .u8 0, .int .i64 0, .string ⟨#[]⟩, .int .i64 0] 38)) (d := { t := tKind }) rfl
  unfold tKind at H1
  have q1 : ¬ ((op : Int) = 1) := by omega
  have r1 : ((op : Int) == 1) = false := by simp; omega
  have q2 : ¬ ((op : Int) = 2) := by omega
  have r2 : ((op : Int) == 2) = false := by simp; omega
  have q3 : ¬ ((op : Int) = 3) := by omega
  have r3 : ((op : Int) == 3) = false := by simp; omega
  have q4 : ¬ ((op : Int) = 4) := by omega
  have r4 : ((op : Int) == 4) = false := by simp; omega
  have q5 : ¬ ((op : Int) = 5) := by omega
  have r5 : ((op : Int) == 5) = false := by simp; omega
  have q6 : ¬ ((op : Int) = 6) := by omega
  have r6 : ((op : Int) == 6) = false := by simp; omega
  have q7 : ¬ ((op : Int) = 7) := by omega
  have r7 : ((op : Int) == 7) = false := by simp; omega
  clear hop
  subst hd
  go_enter Tryz.func58, Tryz.ntmps58
  go_wp2_with (first
    | (go_at_call 55; (with_reducible refine H1.mono ?_); clear H1; rintro e w1 ⟨rfl, hB1⟩; have hr := (hB1.block _ (Array.getElem?_eq_some_iff.1 hb).1).trans hb; obtain ⟨⟨z0, z1, z2, z3⟩, y0, y1, y2, y3⟩ := cell_row4D hr))
  refine bodyPost_ret (results_cell_row (by rfl) _ _ w.heap.size 38 _ _ _ (by rfl) (set4_rowD hr) Tryz.underlying38 (by rfl) infoRd) (by rfl) ?_
  exact ⟨rfl, below_set4 (hB.trans (hB1.mono hB.size)) (Nat.le_refl _) _ _ _ _⟩

theorem rInts_in (op : Nat) (a b : Int) (w : World) {d : Rd} (hd : d = intsR op a b) : Calls Tryz.prog 58 #[.int .u8 op, .int .i64 a, .int .i64 b] w (RdR w d) := by
  unfold intsR at hd
  by_cases h1 : op = 1
  · rw [if_pos h1] at hd; subst h1; exact rInts_1 a b w hd
  rw [if_neg h1] at hd
  by_cases h2 : op = 2
  · rw [if_pos h2] at hd; subst h2; exact rInts_2 a b w hd
  rw [if_neg h2] at hd
  by_cases h3 : op = 3
  · rw [if_pos h3] at hd; subst h3; exact rInts_3 a b w hd
  rw [if_neg h3] at hd
  by_cases h4 : op = 4
  · rw [if_pos h4] at hd; subst h4
    by_cases h0 : b = 0
    · rw [if_pos h0] at hd; exact rInts_4z a b h0 w hd
    · rw [if_neg h0] at hd
      by_cases hm : b = -1
      · refine rInts_4m a b hm w ?_
        rw [hd, hm, Int.tdiv_neg, Int.tdiv_one]
      · exact rInts_4 a b h0 hm w hd
  rw [if_neg h4] at hd
  by_cases h5 : op = 5
  · rw [if_pos h5] at hd; subst h5
    by_cases h0 : b = 0
    · rw [if_pos h0] at hd; exact rInts_5z a b h0 w hd
    · rw [if_neg h0] at hd
      by_cases hm : b = -1
      · refine rInts_5m a b hm w ?_
        rw [hd, hm, Int.tmod_neg, Int.tmod_one]
      · exact rInts_5 a b h0 hm w hd
  rw [if_neg h5] at hd
  by_cases h6 : op = 6
  · rw [if_pos h6] at hd; subst h6; exact rInts_6 a b w hd
  rw [if_neg h6] at hd
  by_cases h7 : op = 7
  · rw [if_pos h7] at hd; subst h7; exact rInts_7 a b w hd
  rw [if_neg h7] at hd
  exact rInts_no a b (by omega) w hd


end Go.Proofs.YtgokofomoachaaaGreatDoor
