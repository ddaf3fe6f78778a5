/- The program's rows: behind, next. -/
import Derived.Test.YtnekcomkochmjaaGreatDoorVbWalk
import Derived.Test.YtnekcomkochmjaaGreatDoorVfPTree2
namespace Go.Proofs.YtnekcomkochmjaaGreatDoor
set_option linter.unusedVariables false
set_option linter.unusedSimpArgs false
open Go.RowKit

variable {w : World}

theorem op_cases {op : Nat} (h : op < 31) : op = 0 ∨ op = 1 ∨ op = 2 ∨ op = 3 ∨ op = 4 ∨ op = 5 ∨ op = 6 ∨ op = 7 ∨ op = 8 ∨ op = 9 ∨ op = 10 ∨ op = 11 ∨ op = 12 ∨ op = 13 ∨ op = 14 ∨ op = 15 ∨ op = 16 ∨ op = 17 ∨ op = 18 ∨ op = 19 ∨ op = 20 ∨ op = 21 ∨ op = 22 ∨ op = 23 ∨ op = 24 ∨ op = 25 ∨ op = 26 ∨ op = 27 ∨ op = 28 ∨ op = 29 ∨ op = 30 := by omega

theorem row_takes (i : In) : takesP i = ((rowP i.op).takes : Int) + ((rowP i.op).each : Int) * i.a ∧ leavesP i = ((rowP i.op).leaves : Int) := by
  obtain ⟨op, a⟩ := i
  by_cases h : op < 31
  · rcases op_cases h with rfl | rfl | rfl | rfl | rfl | rfl | rfl | rfl | rfl | rfl | rfl | rfl | rfl | rfl | rfl | rfl | rfl | rfl | rfl | rfl | rfl | rfl | rfl | rfl | rfl | rfl | rfl | rfl | rfl | rfl | rfl <;> (simp [takesP, leavesP, rowP, rowsL] <;> omega)
  · simp only [rowP_over h]
    unfold takesP leavesP
    simp only
    constructor
    · repeat rw [if_neg (by omega)]
      simp
    · repeat rw [if_neg (by omega)]
      simp

theorem row_nexts (i : In) (pc : Nat) : nextsP i pc = (if (rowP i.op).ends = true then [] else [pc + 1]) ++ (if (rowP i.op).number = 6 ∨ (rowP i.op).number = 7 then [i.a.toNat] else []) := by
  obtain ⟨op, a⟩ := i
  by_cases h : op < 31
  · rcases op_cases h with rfl | rfl | rfl | rfl | rfl | rfl | rfl | rfl | rfl | rfl | rfl | rfl | rfl | rfl | rfl | rfl | rfl | rfl | rfl | rfl | rfl | rfl | rfl | rfl | rfl | rfl | rfl | rfl | rfl | rfl | rfl <;> simp [nextsP, rowP, rowsL]
  · simp only [rowP_over h]
    unfold nextsP
    simp only
    repeat rw [if_neg (by omega)]
    simp

theorem row_place (i : In) : ((rowP i.op).number = 6 ∨ (rowP i.op).number = 7) ↔ (i.op = 19 ∨ i.op = 20 ∨ i.op = 21) := by
  obtain ⟨op, a⟩ := i
  by_cases h : op < 31
  · rcases op_cases h with rfl | rfl | rfl | rfl | rfl | rfl | rfl | rfl | rfl | rfl | rfl | rfl | rfl | rfl | rfl | rfl | rfl | rfl | rfl | rfl | rfl | rfl | rfl | rfl | rfl | rfl | rfl | rfl | rfl | rfl | rfl <;> simp [rowP, rowsL]
  · simp only [rowP_over h]
    constructor
    · intro q; simp at q
    · intro q; omega

theorem row_small (op : Nat) : (rowP op).number ≤ 9 ∧ (rowP op).takes ≤ 3 ∧ (rowP op).each ≤ 2 ∧ (rowP op).leaves ≤ 2 := by
  by_cases h : op < 31
  · rcases op_cases h with rfl | rfl | rfl | rfl | rfl | rfl | rfl | rfl | rfl | rfl | rfl | rfl | rfl | rfl | rfl | rfl | rfl | rfl | rfl | rfl | rfl | rfl | rfl | rfl | rfl | rfl | rfl | rfl | rfl | rfl | rfl <;> simp [rowP, rowsL]
  · simp [rowP_over h]

/-- May it be done? -/
def behindB (i : In) (d : Int) : Bool := decide (takesP i ≤ d ∧ d - takesP i + leavesP i ≤ 256 ∧ (i.op ≠ 21 ∨ d = 0))

set_option maxRecDepth 20000 in
set_option maxHeartbeats 4000000 in
theorem behind_in (i : In) (ho : i.op < 256) (hr : 0 ≤ takesP i ∧ takesP i ≤ 512 ∧ 0 ≤ leavesP i ∧ leavesP i ≤ 2) (d : Int) (hd0 : 0 ≤ d) (hd1 : d ≤ 300) (ht : RowsT w) :
    Calls Tryz.prog 55 #[.agg #[.int .u8 i.op, .int .i64 i.a], .int .i64 d] w fun e w' => e = .returned (.tuple #[.int .i64 (d - takesP i + leavesP i), .bool (behindB i d)]) ∧ Below w.heap.size w w' := by
  obtain ⟨hT, hL⟩ := row_takes i
  obtain ⟨s1, s2, s3, s4⟩ := row_small i.op
  have H := fun (W : World) (h : RowsT W) => rowOf_in i.op ho h
  have hB1 := fun (o : Obj) => below1 w o
  unfold behindB
  generalize takesP i = T at hT hr ⊢
  generalize leavesP i = L at hL hr ⊢
  generalize rowOk i.op = rk at H
  unfold rwA at H
  generalize rowP i.op = r at *
  obtain ⟨n, t, ea, l, en⟩ := r
  obtain ⟨op, a⟩ := i
  simp only at *
  obtain ⟨E, hE⟩ : ∃ E, (ea : Int) * a = E := ⟨_, rfl⟩
  rw [hE] at hT
  have hT' : (t : Int) + E = T := hT.symm
  have hE0 : -3 ≤ E ∧ E ≤ 512 := by omega
  have hLl : (l : Int) = L := hL.symm
  have HT : Hid (RowsT w) := ht
  clear ht hT hL
  subst hLl
  by_cases q1 : T ≤ d
  · by_cases q2 : d - T + (l : Int) ≤ 256
    · by_cases q3 : op = 21
      · by_cases q4 : d = 0
        · rw [show decide (T ≤ d ∧ d - T + (l : Int) ≤ 256 ∧ (op ≠ 21 ∨ d = 0)) = true by simp; omega]
          have e3 : ((op : Int) != 21) = false := by simp; omega
          have e4 : (d == 0) = true := by simp; omega
          clear q3
          go_enter Tryz.func55, Tryz.ntmps55
          go_wp2_with (first
            | (go_at_call 48; (with_reducible refine (H _ (HT.out.below (hB1 _))).mono ?_); clear H; rintro e w1 ⟨rfl, hw1⟩; have hz1 := (hw1.block w.heap.size (by simp)).trans (heap_alloc_new w _); have hzl := Nat.lt_of_lt_of_le (show w.heap.size < (w.alloc (.cells #[.int .u8 op, .int .i64 a] 38)).heap.size by simp) hw1.size; have y0 := fun (o : Obj) => (cell_row2 ((Below.heap_alloc w1 o w.heap.size hzl).trans hz1)).1.1; have y1 := fun (o : Obj) => (cell_row2 ((Below.heap_alloc w1 o w.heap.size hzl).trans hz1)).1.2; have hB2 := (hB1 (.cells #[.int .u8 op, .int .i64 a] 38)).trans (hw1.mono (hB1 _).size)))
          go_ret2
          exact ⟨by simp_all, hB2.alloc hB2.size _⟩
        · rw [show decide (T ≤ d ∧ d - T + (l : Int) ≤ 256 ∧ (op ≠ 21 ∨ d = 0)) = false by simp; omega]
          have e3 : ((op : Int) != 21) = false := by simp; omega
          have e4 : (d == 0) = false := by simp; omega
          clear q3
          go_enter Tryz.func55, Tryz.ntmps55
          go_wp2_with (first
            | (go_at_call 48; (with_reducible refine (H _ (HT.out.below (hB1 _))).mono ?_); clear H; rintro e w1 ⟨rfl, hw1⟩; have hz1 := (hw1.block w.heap.size (by simp)).trans (heap_alloc_new w _); have hzl := Nat.lt_of_lt_of_le (show w.heap.size < (w.alloc (.cells #[.int .u8 op, .int .i64 a] 38)).heap.size by simp) hw1.size; have y0 := fun (o : Obj) => (cell_row2 ((Below.heap_alloc w1 o w.heap.size hzl).trans hz1)).1.1; have y1 := fun (o : Obj) => (cell_row2 ((Below.heap_alloc w1 o w.heap.size hzl).trans hz1)).1.2; have hB2 := (hB1 (.cells #[.int .u8 op, .int .i64 a] 38)).trans (hw1.mono (hB1 _).size)))
          go_ret2
          exact ⟨by simp_all, hB2.alloc hB2.size _⟩
      · rw [show decide (T ≤ d ∧ d - T + (l : Int) ≤ 256 ∧ (op ≠ 21 ∨ d = 0)) = true by simp; omega]
        have e3 : ((op : Int) != 21) = true := by simp; omega
        go_enter Tryz.func55, Tryz.ntmps55
        go_wp2_with (first
          | (go_at_call 48; (with_reducible refine (H _ (HT.out.below (hB1 _))).mono ?_); clear H; rintro e w1 ⟨rfl, hw1⟩; have hz1 := (hw1.block w.heap.size (by simp)).trans (heap_alloc_new w _); have hzl := Nat.lt_of_lt_of_le (show w.heap.size < (w.alloc (.cells #[.int .u8 op, .int .i64 a] 38)).heap.size by simp) hw1.size; have y0 := fun (o : Obj) => (cell_row2 ((Below.heap_alloc w1 o w.heap.size hzl).trans hz1)).1.1; have y1 := fun (o : Obj) => (cell_row2 ((Below.heap_alloc w1 o w.heap.size hzl).trans hz1)).1.2; have hB2 := (hB1 (.cells #[.int .u8 op, .int .i64 a] 38)).trans (hw1.mono (hB1 _).size)))
        go_ret2
        exact ⟨by simp_all, hB2.alloc hB2.size _⟩
    · rw [show decide (T ≤ d ∧ d - T + (l : Int) ≤ 256 ∧ (op ≠ 21 ∨ d = 0)) = false by simp; omega]
      go_enter Tryz.func55, Tryz.ntmps55
      go_wp2_with (first
        | (go_at_call 48; (with_reducible refine (H _ (HT.out.below (hB1 _))).mono ?_); clear H; rintro e w1 ⟨rfl, hw1⟩; have hz1 := (hw1.block w.heap.size (by simp)).trans (heap_alloc_new w _); have hzl := Nat.lt_of_lt_of_le (show w.heap.size < (w.alloc (.cells #[.int .u8 op, .int .i64 a] 38)).heap.size by simp) hw1.size; have y0 := fun (o : Obj) => (cell_row2 ((Below.heap_alloc w1 o w.heap.size hzl).trans hz1)).1.1; have y1 := fun (o : Obj) => (cell_row2 ((Below.heap_alloc w1 o w.heap.size hzl).trans hz1)).1.2; have hB2 := (hB1 (.cells #[.int .u8 op, .int .i64 a] 38)).trans (hw1.mono (hB1 _).size)))
      go_ret2
      exact ⟨by simp_all, hB2.alloc hB2.size _⟩
  · rw [show decide (T ≤ d ∧ d - T + (l : Int) ≤ 256 ∧ (op ≠ 21 ∨ d = 0)) = false by simp; omega]
    go_enter Tryz.func55, Tryz.ntmps55
    go_wp2_with (first
      | (go_at_call 48; (with_reducible refine (H _ (HT.out.below (hB1 _))).mono ?_); clear H; rintro e w1 ⟨rfl, hw1⟩; have hz1 := (hw1.block w.heap.size (by simp)).trans (heap_alloc_new w _); have hzl := Nat.lt_of_lt_of_le (show w.heap.size < (w.alloc (.cells #[.int .u8 op, .int .i64 a] 38)).heap.size by simp) hw1.size; have y0 := fun (o : Obj) => (cell_row2 ((Below.heap_alloc w1 o w.heap.size hzl).trans hz1)).1.1; have y1 := fun (o : Obj) => (cell_row2 ((Below.heap_alloc w1 o w.heap.size hzl).trans hz1)).1.2; have hB2 := (hB1 (.cells #[.int .u8 op, .int .i64 a] 38)).trans (hw1.mono (hB1 _).size)))
    go_ret2
    exact ⟨by simp_all, hB2.alloc hB2.size _⟩

theorem own_one {W w4 : World} {base g c : Nat} {x : Int} {m : Nat} (hx : x = (m : Int)) (h : w4.ownsRow base 3 1 (.slice (some ⟨g, 0, none⟩) (0 + 1) c) (0 + 1) ([] ++ [.int .i64 x])) : w4.ownsRow base 3 1 (.slice (some ⟨g, 0, none⟩) 1 c) [m].length ([m].map nv) := by
  subst hx
  exact h

theorem own_two {w4 : World} {base g c pc A : Nat} (h : w4.ownsRow base 3 1 (.slice (some ⟨g, 0, none⟩) (0 + 1 + 1) c) (0 + 1 + 1) (([] ++ [.int .i64 ((pc : Int) + 1)]) ++ [.int .i64 A])) : w4.ownsRow base 3 1 (.slice (some ⟨g, 0, none⟩) 2 c) ([pc + 1] ++ [A]).length (([pc + 1] ++ [A]).map nv) := by
  have e : ([pc + 1] ++ [A]).map nv = ([] ++ [.int .i64 ((pc : Int) + 1)]) ++ [.int .i64 A] := by simp [nv]
  rw [e]
  exact h

theorem cell_row5p {W : World} {g : Nat} {a b c d e : Value} {t : TypeId} (h : W.heap[g]? = some (.cells #[a, b, c, d, e] t (0, 0))) : W.cell? ⟨g, 0, none⟩ = some a := by rw [cell_of_row W g 0 _ _ _ h]; rfl

end Go.Proofs.YtnekcomkochmjaaGreatDoor
