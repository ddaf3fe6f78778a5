/- The program's rows: behind, next. -/
import Derived.Test.YtgindgneobghaaaGreatDoorVfPRow
import Derived.Test.YtgindgneobghaaaGreatDoorVfPTree2
namespace Go.Proofs.YtgindgneobghaaaGreatDoor
set_option linter.unusedVariables false
set_option linter.unusedSimpArgs false
open Go.RowKit

variable {w : World}

theorem op_cases {op : Nat} (h : op < 31) : op = 0 ∨ op = 1 ∨ op = 2 ∨ op = 3 ∨ op = 4 ∨ op = 5 ∨ op = 6 ∨ op = 7 ∨ op = 8 ∨ op = 9 ∨ op = 10 ∨ op = 11 ∨ op = 12 ∨ op = 13 ∨ op = 14 ∨ op = 15 ∨ op = 16 ∨ op = 17 ∨ op = 18 ∨ op = 19 ∨ op = 20 ∨ op = 21 ∨ op = 22 ∨ op = 23 ∨ op = 24 ∨ op = 25 ∨ op = 26 ∨ op = 27 ∨ op = 28 ∨ op = 29 ∨ op = 30 := by omega

theorem row_takes (i : In) : takesP i = ((rowP i.op).takes : Int) + ((rowP i.op).each : Int) * i.a ∧ leavesP i = ((rowP i.op).leaves : Int) := by
  obtain ⟨op, a⟩ := i
  by_cases h : op < 31
  · rcases op_cases h with rfl | rfl | rfl | rfl | rfl | rfl | rfl | rfl | rfl | rfl | rfl | rfl | rfl | rfl | rfl | rfl | rfl | rfl | rfl | rfl | rfl | rfl | rfl | rfl | rfl | rfl | rfl | rfl | rfl | rfl | rfl <;> (simp [takesP, leavesP, rowP, rowsL] <;> omega)
  · simp only [rowP_over h]
    unfold takesP leavesP
    simp only
    constructor
    · repeat rw [if_neg (by omega)]
      simp
    · repeat rw [if_neg (by omega)]
      simp

theorem row_nexts (i : In) (pc : Nat) : nextsP i pc = (if (rowP i.op).ends = true then [] else [pc + 1]) ++ (if (rowP i.op).number = 6 ∨ (rowP i.op).number = 7 then [i.a.toNat] else []) := by
  obtain ⟨op, a⟩ := i
  by_cases h : op < 31
  · rcases op_cases h with rfl | rfl | rfl | rfl | rfl | rfl | rfl | rfl | rfl | rfl | rfl | rfl | rfl | rfl | rfl | rfl | rfl | rfl | rfl | rfl | rfl | rfl | rfl | rfl | rfl | rfl | rfl | rfl | rfl | rfl | rfl <;> simp [nextsP, rowP, rowsL]
  · simp only [rowP_over h]
    unfold nextsP
    simp only
    repeat rw [if_neg (by omega)]
    simp

theorem row_place (i : In) : ((rowP i.op).number = 6 ∨ (rowP i.op).number = 7) ↔ (i.op = 19 ∨ i.op = 20 ∨ i.op = 21) := by
  obtain ⟨op, a⟩ := i
  by_cases h : op < 31
  · rcases op_cases h with rfl | rfl | rfl | rfl | rfl | rfl | rfl | rfl | rfl | rfl | rfl | rfl | rfl | rfl | rfl | rfl | rfl | rfl | rfl | rfl | rfl | rfl | rfl | rfl | rfl | rfl | rfl | rfl | rfl | rfl | rfl <;> simp [rowP, rowsL]
  · simp only [rowP_over h]
    constructor
    · intro q; simp at q
    · intro q; omega

theorem row_small (op : Nat) : (rowP op).number ≤ 9 ∧ (rowP op).takes ≤ 3 ∧ (rowP op).each ≤ 2 ∧ (rowP op).leaves ≤ 2 := by
  by_cases h : op < 31
  · rcases op_cases h with rfl | rfl | rfl | rfl | rfl | rfl | rfl | rfl | rfl | rfl | rfl | rfl | rfl | rfl | rfl | rfl | rfl | rfl | rfl | rfl | rfl | rfl | rfl | rfl | rfl | rfl | rfl | rfl | rfl | rfl | rfl <;> simp [rowP, rowsL]
  · simp [rowP_over h]

/-- May it be done? -/
def behindB (i : In) (d : Int) : Bool := decide (takesP i ≤ d ∧ d - takesP i + leavesP i ≤ 256 ∧ (i.op ≠ 21 ∨ d = 0))

set_option maxRecDepth 20000 in
set_option maxHeartbeats 4000000 in
theorem behind_in (i : In) (ho : i.op < 256) (hr : 0 ≤ takesP i ∧ takesP i ≤ 512 ∧ 0 ≤ leavesP i ∧ leavesP i ≤ 2) (d : Int) (hd0 : 0 ≤ d) (hd1 : d ≤ 300) (ht : RowsT w) :
    Calls Tryz.prog 83 #[.agg #[.int .u8 i.op, .int .i64 i.a], .int .i64 d] w fun e w' => e = .returned (.tuple #[.int .i64 (d - takesP i + leavesP i), .bool (behindB i d)]) ∧ Below w.heap.size w w' := by
  obtain ⟨hT, hL⟩ := row_takes i
  obtain ⟨s1, s2, s3, s4⟩ := row_small i.op
  have H := fun (W : World) (h : RowsT W) => rowOf_in i.op ho h
  have hB1 := fun (o : Obj) => below1 w o
  unfold behindB
  generalize takesP i = T at hT hr ⊢
  generalize leavesP i = L at hL hr ⊢
  generalize rowOk i.op = rk at H
  unfold rwA at H
  generalize rowP i.op = r at *
  obtain ⟨n, t, ea, l, en⟩ := r
  obtain ⟨op, a⟩ := i
  simp only at *
  obtain ⟨E, hE⟩ : ∃ E, (ea : Int) * a = E := ⟨_, rfl⟩
  rw [hE] at hT
  have hT' : (t : Int) + E = T := hT.symm
  have hE0 : -3 ≤ E ∧ E ≤ 512 := by omega
  have hLl : (l : Int) = L := hL.symm
  have HT : Hid (RowsT w) := ht
  clear ht hT hL
  subst hLl
  by_cases q1 : T ≤ d
  · by_cases q2 : d - T + (l : Int) ≤ 256
    · by_cases q3 : op = 21
      · by_cases q4 : d = 0
        · rw [show decide (T ≤ d ∧ d - T + (l : Int) ≤ 256 ∧ (op ≠ 21 ∨ d = 0)) = true by simp; omega]
          have e3 : ((op : Int) != 21) = false := by simp; omega
          have e4 : (d == 0) = true := by simp; omega
          clear q3
          go_enter Tryz.func83, Tryz.ntmps83
          go_wp2_with (first
            | (go_at_call 76; (with_reducible refine (H _ (HT.out.below (hB1 _))).mono ?_); clear H; rintro e w1 ⟨rfl, hw1⟩; have hz1 := (hw1.block w.heap.size (by simp)).trans (heap_alloc_new w _); have hzl := Nat.lt_of_lt_of_le (show w.heap.size < (w.alloc (.cells #[.int .u8 op, .int .i64 a] 64)).heap.size by simp) hw1.size; have y0 := fun (o : Obj) => (cell_row2 ((Below.heap_alloc w1 o w.heap.size hzl).trans hz1)).1.1; have y1 := fun (o : Obj) => (cell_row2 ((Below.heap_alloc w1 o w.heap.size hzl).trans hz1)).1.2; have hB2 := (hB1 (.cells #[.int .u8 op, .int .i64 a] 64)).trans (hw1.mono (hB1 _).size)))
          go_ret2
          exact ⟨by simp_all, hB2.alloc hB2.size _⟩
        · rw [show decide (T ≤ d ∧ d - T + (l : Int) ≤ 256 ∧ (op ≠ 21 ∨ d = 0)) = false by simp; omega]
          have e3 : ((op : Int) != 21) = false := by simp; omega
          have e4 : (d == 0) = false := by simp; omega
          clear q3
          go_enter Tryz.func83, Tryz.ntmps83
          go_wp2_with (first
            | (go_at_call 76; (with_reducible refine (H _ (HT.out.below (hB1 _))).mono ?_); clear H; rintro e w1 ⟨rfl, hw1⟩; have hz1 := (hw1.block w.heap.size (by simp)).trans (heap_alloc_new w _); have hzl := Nat.lt_of_lt_of_le (show w.heap.size < (w.alloc (.cells #[.int .u8 op, .int .i64 a] 64)).heap.size by simp) hw1.size; have y0 := fun (o : Obj) => (cell_row2 ((Below.heap_alloc w1 o w.heap.size hzl).trans hz1)).1.1; have y1 := fun (o : Obj) => (cell_row2 ((Below.heap_alloc w1 o w.heap.size hzl).trans hz1)).1.2; have hB2 := (hB1 (.cells #[.int .u8 op, .int .i64 a] 64)).trans (hw1.mono (hB1 _).size)))
          go_ret2
          exact ⟨by simp_all, hB2.alloc hB2.size _⟩
      · rw [show decide (T ≤ d ∧ d - T + (l : Int) ≤ 256 ∧ (op ≠ 21 ∨ d = 0)) = true by simp; omega]
        have e3 : ((op : Int) != 21) = true := by simp; omega
        go_enter Tryz.func83, Tryz.ntmps83
        go_wp2_with (first
          | (go_at_call 76; (with_reducible refine (H _ (HT.out.below (hB1 _))).mono ?_); clear H; rintro e w1 ⟨rfl, hw1⟩; have hz1 := (hw1.block w.heap.size (by simp)).trans (heap_alloc_new w _); have hzl := Nat.lt_of_lt_of_le (show w.heap.size < (w.alloc (.cells #[.int .u8 op, .int .i64 a] 64)).heap.size by simp) hw1.size; have y0 := fun (o : Obj) => (cell_row2 ((Below.heap_alloc w1 o w.heap.size hzl).trans hz1)).1.1; have y1 := fun (o : Obj) => (cell_row2 ((Below.heap_alloc w1 o w.heap.size hzl).trans hz1)).1.2; have hB2 := (hB1 (.cells #[.int .u8 op, .int .i64 a] 64)).trans (hw1.mono (hB1 _).size)))
        go_ret2
        exact ⟨by simp_all, hB2.alloc hB2.size _⟩
    · rw [show decide (T ≤ d ∧ d - T + (l : Int) ≤ 256 ∧ (op ≠ 21 ∨ d = 0)) = false by simp; omega]
      go_enter Tryz.func83, Tryz.ntmps83
      go_wp2_with (first
        | (go_at_call 76; (with_reducible refine (H _ (HT.out.below (hB1 _))).mono ?_); clear H; rintro e w1 ⟨rfl, hw1⟩; have hz1 := (hw1.block w.heap.size (by simp)).trans (heap_alloc_new w _); have hzl := Nat.lt_of_lt_of_le (show w.heap.size < (w.alloc (.cells #[.int .u8 op, .int .i64 a] 64)).heap.size by simp) hw1.size; have y0 := fun (o : Obj) => (cell_row2 ((Below.heap_alloc w1 o w.heap.size hzl).trans hz1)).1.1; have y1 := fun (o : Obj) => (cell_row2 ((Below.heap_alloc w1 o w.heap.size hzl).trans hz1)).1.2; have hB2 := (hB1 (.cells #[.int .u8 op, .int .i64 a] 64)).trans (hw1.mono (hB1 _).size)))
      go_ret2
      exact ⟨by simp_all, hB2.alloc hB2.size _⟩
  · rw [show decide (T ≤ d ∧ d - T + (l : Int) ≤ 256 ∧ (op ≠ 21 ∨ d = 0)) = false by simp; omega]
    go_enter Tryz.func83, Tryz.ntmps83
    go_wp2_with (first
      | (go_at_call 76; (with_reducible refine (H _ (HT.out.below (hB1 _))).mono ?_); clear H; rintro e w1 ⟨rfl, hw1⟩; have hz1 := (hw1.block w.heap.size (by simp)).trans (heap_alloc_new w _); have hzl := Nat.lt_of_lt_of_le (show w.heap.size < (w.alloc (.cells #[.int .u8 op, .int .i64 a] 64)).heap.size by simp) hw1.size; have y0 := fun (o : Obj) => (cell_row2 ((Below.heap_alloc w1 o w.heap.size hzl).trans hz1)).1.1; have y1 := fun (o : Obj) => (cell_row2 ((Below.heap_alloc w1 o w.heap.size hzl).trans hz1)).1.2; have hB2 := (hB1 (.cells #[.int .u8 op, .int .i64 a] 64)).trans (hw1.mono (hB1 _).size)))
    go_ret2
    exact ⟨by simp_all, hB2.alloc hB2.size _⟩

theorem own_one {W w4 : World} {base g c : Nat} {x : Int} {m : Nat} (hx : x = (m : Int)) (h : w4.ownsRow base 3 1 (.slice (some ⟨g, 0, none⟩) (0 + 1) c) (0 + 1) ([] ++ [.int .i64 x])) : w4.ownsRow base 3 1 (.slice (some ⟨g, 0, none⟩) 1 c) [m].length ([m].map nv) := by
  subst hx
  exact h

theorem own_two {w4 : World} {base g c pc A : Nat} (h : w4.ownsRow base 3 1 (.slice (some ⟨g, 0, none⟩) (0 + 1 + 1) c) (0 + 1 + 1) (([] ++ [.int .i64 ((pc : Int) + 1)]) ++ [.int .i64 A])) : w4.ownsRow base 3 1 (.slice (some ⟨g, 0, none⟩) 2 c) ([pc + 1] ++ [A]).length (([pc + 1] ++ [A]).map nv) := by
  have e : ([pc + 1] ++ [A]).map nv = ([] ++ [.int .i64 ((pc : Int) + 1)]) ++ [.int .i64 A] := by simp [nv]
  rw [e]
  exact h

theorem cell_row5p {W : World} {g : Nat} {a b c d e : Value} {t : TypeId} (h : W.heap[g]? = some (.cells #[a, b, c, d, e] t (0, 0))) : W.cell? ⟨g, 0, none⟩ = some a := by rw [cell_of_row W g 0 _ _ _ h]; rfl

set_option maxRecDepth 20000 in
set_option maxHeartbeats 4000000 in
theorem next_in (l : List In) (p : Option Addr) (c pc : Nat) (i : In) (hv : RowAt insC 2 w p l) (hx : l[pc]? = some i) (ho : i.op < 256) (hl : l.length ≤ 16384) (ha : (i.op = 19 ∨ i.op = 20 ∨ i.op = 21) → 0 ≤ i.a) (ht : RowsT w) :
    Calls Tryz.prog 86 #[.slice p l.length c, .int .i64 pc] w fun e w' => ∃ v, e = .returned v ∧ w'.ownsRow w.heap.size 3 1 v (nextsP i pc).length ((nextsP i pc).map nv) ∧ Below w.heap.size w w' := by
  obtain ⟨i1, hj0, hy0, hy1, hy2⟩ := info_parts infoInts
  rw [row_nexts i pc]
  have hpl := row_place i
  obtain ⟨s1, -, -, -⟩ := row_small i.op
  have H := rowOf_in i.op ho ht
  have hpc := (List.getElem?_eq_some_iff.1 hx).1
  have hpc' : (pc : Int) < (l.length : Int) := by omega
  obtain ⟨b0, off, rfl, c0, c1⟩ := hv.look2 (Below.refl _ _) hx
  have hcl := hv.look2 (Below.refl _ _) hx
  have HV : Hid (∀ (W : World), Below w.heap.size w W → W.cell? ⟨b0, off + pc * 2 + 1, none⟩ = some (.int .i64 i.a)) := fun W hB => by
    obtain ⟨b1, o1, e, _, h2⟩ := hv.look2 hB hx
    simp only [Option.some.injEq, Addr.mk.injEq] at e
    obtain ⟨rfl, rfl, _⟩ := e
    exact h2
  generalize rowOk i.op = rk at H
  unfold rwA at H
  generalize rowP i.op = r at *
  obtain ⟨n, t, ea, lv, en⟩ := r
  obtain ⟨op, a⟩ := i
  simp only at *
  have HB : Hid (∀ o : Obj, ∀ W, Below w.heap.size w W → Below w.heap.size w (W.alloc o)) := fun o W h => h.alloc h.size o
  clear hv hx ht hcl
  cases en with
  | true =>
    by_cases hp : n = 6 ∨ n = 7
    · obtain ⟨A, rfl⟩ : ∃ A : Nat, a = A := ⟨a.toNat, by have := ha (hpl.1 hp); omega⟩
      rw [if_pos rfl, if_pos hp]
      simp only [List.nil_append, Int.toNat_natCast]
      rcases hp with rfl | rfl
      · clear hpl ha
        go_enter Tryz.func86, Tryz.ntmps86
        go_wp2_with (first
          | (go_at_call 76; (with_reducible refine H.mono ?_); clear H; rintro e w1 ⟨rfl, hw1⟩; have dA := fun (o : Obj) => HV.out _ (HB.out o _ hw1))
          | (at_builtin; refine wpList_append_lies _ rfl _ _ 33 rfl w.heap.size 3 i1 (.int .i64 0) 1 8 Tryz.underlying33 hj0 hy0 hy1 hy2 rfl (by decide) (.slice none 0 0) 0 [] rfl (World.ownsRow_nil _ _ _ _) ⟨w1.heap.size + 1, 0, none⟩ 1 1 [.int .i64 A] rfl rfl (World.news_of_block (cs := #[.int .i64 A]) (t := 3) (fr := (0, 0)) (heap_two w1 (.cells #[.int .u8 (6 : Nat), .int .u8 t, .int .u8 ea, .int .u8 lv, .bool true] 136) _)) (by simp [Value.oneCell']) (by omega) (by unfold maxLen; omega) (by omega) (by have := hw1.size; simp; omega) (w1.heap.size + 2) (by simp) ?_; intro g4 c4 w4 hown4 hgrow4 hat4 hlt4; have hB4 : Below w.heap.size w w4 := (HB.out _ _ (HB.out (.cells #[.int .u8 (6 : Nat), .int .u8 t, .int .u8 ea, .int .u8 lv, .bool true] 136) _ hw1)).trans (rbelow_grown hgrow4 (fun q e => by cases e) (by have := hw1.size; simp; omega)); have hz4 : w4.heap[w1.heap.size]? = some (.cells #[.int .u8 (6 : Nat), .int .u8 t, .int .u8 ea, .int .u8 lv, .bool true] 136) := (hgrow4.block _ (by simp; omega) (fun e => by cases e)).trans ((Below.heap_alloc (w1.alloc (.cells #[.int .u8 (6 : Nat), .int .u8 t, .int .u8 ea, .int .u8 lv, .bool true] 136)) _ w1.heap.size (by simp)).trans (heap_alloc_new w1 _)); have z0 := (cell_row5p hz4); have dA4 := HV.out _ hB4))
        go_ret
        exact ⟨_, rfl, own_one (W := w) (m := A) rfl hown4, hB4⟩
      · clear hpl ha
        go_enter Tryz.func86, Tryz.ntmps86
        go_wp2_with (first
          | (go_at_call 76; (with_reducible refine H.mono ?_); clear H; rintro e w1 ⟨rfl, hw1⟩; have dA := fun (o : Obj) => HV.out _ (HB.out o _ hw1))
          | (at_builtin; refine wpList_append_lies _ rfl _ _ 33 rfl w.heap.size 3 i1 (.int .i64 0) 1 8 Tryz.underlying33 hj0 hy0 hy1 hy2 rfl (by decide) (.slice none 0 0) 0 [] rfl (World.ownsRow_nil _ _ _ _) ⟨w1.heap.size + 1, 0, none⟩ 1 1 [.int .i64 A] rfl rfl (World.news_of_block (cs := #[.int .i64 A]) (t := 3) (fr := (0, 0)) (heap_two w1 (.cells #[.int .u8 (7 : Nat), .int .u8 t, .int .u8 ea, .int .u8 lv, .bool true] 136) _)) (by simp [Value.oneCell']) (by omega) (by unfold maxLen; omega) (by omega) (by have := hw1.size; simp; omega) (w1.heap.size + 2) (by simp) ?_; intro g4 c4 w4 hown4 hgrow4 hat4 hlt4; have hB4 : Below w.heap.size w w4 := (HB.out _ _ (HB.out (.cells #[.int .u8 (7 : Nat), .int .u8 t, .int .u8 ea, .int .u8 lv, .bool true] 136) _ hw1)).trans (rbelow_grown hgrow4 (fun q e => by cases e) (by have := hw1.size; simp; omega)); have hz4 : w4.heap[w1.heap.size]? = some (.cells #[.int .u8 (7 : Nat), .int .u8 t, .int .u8 ea, .int .u8 lv, .bool true] 136) := (hgrow4.block _ (by simp; omega) (fun e => by cases e)).trans ((Below.heap_alloc (w1.alloc (.cells #[.int .u8 (7 : Nat), .int .u8 t, .int .u8 ea, .int .u8 lv, .bool true] 136)) _ w1.heap.size (by simp)).trans (heap_alloc_new w1 _)); have z0 := (cell_row5p hz4); have dA4 := HV.out _ hB4))
        go_ret
        exact ⟨_, rfl, own_one (W := w) (m := A) rfl hown4, hB4⟩
    · rw [if_pos rfl, if_neg hp]
      simp only [List.nil_append, List.length_nil]
      have e6 : ((n : Int) == 6) = false := by simp; omega
      have e7 : ((n : Int) == 7) = false := by simp; omega
      clear hp hpl
      go_enter Tryz.func86, Tryz.ntmps86
      go_wp2_with (first
        | (go_at_call 76; (with_reducible refine H.mono ?_); clear H; rintro e w1 ⟨rfl, hw1⟩))
      go_ret
      exact ⟨_, rfl, World.ownsRow_nil _ _ _ _, HB.out _ _ hw1⟩
  | false =>
    by_cases hp : n = 6 ∨ n = 7
    · obtain ⟨A, rfl⟩ : ∃ A : Nat, a = A := ⟨a.toNat, by have := ha (hpl.1 hp); omega⟩
      rw [if_neg (by simp), if_pos hp]
      simp only [Int.toNat_natCast]
      rcases hp with rfl | rfl
      · clear hpl ha
        go_enter Tryz.func86, Tryz.ntmps86
        go_wp2_with (first
          | (go_at_call 76; (with_reducible refine H.mono ?_); clear H; rintro e w1 ⟨rfl, hw1⟩; have dA := fun (o : Obj) => HV.out _ (HB.out o _ hw1))
          | (at_builtin; refine wpList_append_lies _ rfl _ _ 33 rfl w.heap.size 3 i1 (.int .i64 0) 1 8 Tryz.underlying33 hj0 hy0 hy1 hy2 rfl (by decide) (.slice none 0 0) 0 [] rfl (World.ownsRow_nil _ _ _ _) ⟨w1.heap.size + 1, 0, none⟩ 1 1 [.int .i64 ((pc : Int) + 1)] rfl rfl (World.news_of_block (cs := #[.int .i64 ((pc : Int) + 1)]) (t := 3) (fr := (0, 0)) (heap_two w1 (.cells #[.int .u8 (6 : Nat), .int .u8 t, .int .u8 ea, .int .u8 lv, .bool false] 136) _)) (by simp [Value.oneCell']) (by omega) (by unfold maxLen; omega) (by omega) (by have := hw1.size; simp; omega) (w1.heap.size + 2) (by simp) ?_; intro g4 c4 w4 hown4 hgrow4 hat4 hlt4; have hB4 : Below w.heap.size w w4 := (HB.out _ _ (HB.out (.cells #[.int .u8 (6 : Nat), .int .u8 t, .int .u8 ea, .int .u8 lv, .bool false] 136) _ hw1)).trans (rbelow_grown hgrow4 (fun q e => by cases e) (by have := hw1.size; simp; omega)); have hz4 : w4.heap[w1.heap.size]? = some (.cells #[.int .u8 (6 : Nat), .int .u8 t, .int .u8 ea, .int .u8 lv, .bool false] 136) := (hgrow4.block _ (by simp; omega) (fun e => by cases e)).trans ((Below.heap_alloc (w1.alloc (.cells #[.int .u8 (6 : Nat), .int .u8 t, .int .u8 ea, .int .u8 lv, .bool false] 136)) _ w1.heap.size (by simp)).trans (heap_alloc_new w1 _)); have z0 := (cell_row5p hz4); have dA4 := HV.out _ hB4)
          | (at_builtin; refine wpList_append_lies _ rfl _ _ 33 rfl w.heap.size 3 i1 (.int .i64 0) 1 8 Tryz.underlying33 hj0 hy0 hy1 hy2 rfl (by decide) (.slice (some ⟨g4, 0, none⟩) (0 + 1) c4) (0 + 1) ([] ++ [.int .i64 ((pc : Int) + 1)]) rfl (hown4.alloc _) ⟨w4.heap.size, 0, none⟩ 1 1 [.int .i64 A] rfl rfl (World.news_of_block (cs := #[.int .i64 A]) (t := 3) (fr := (0, 0)) (heap_alloc_new w4 _)) (by simp [Value.oneCell']) (by omega) (by unfold maxLen; omega) (by omega) (by have := hB4.size; simp; omega) (w4.heap.size + 1) (by simp) ?_; intro g5 c5 w5 hown5 hgrow5 hat5 hlt5; have hB5 : Below w.heap.size w w5 := (HB.out _ _ hB4).trans (rbelow_grown hgrow5 (fun q e => (hown4.lt q e).1) (by have := hB4.size; simp; omega))))
        go_ret
        exact ⟨_, rfl, own_two hown5, hB5⟩
      · clear hpl ha
        go_enter Tryz.func86, Tryz.ntmps86
        go_wp2_with (first
          | (go_at_call 76; (with_reducible refine H.mono ?_); clear H; rintro e w1 ⟨rfl, hw1⟩; have dA := fun (o : Obj) => HV.out _ (HB.out o _ hw1))
          | (at_builtin; refine wpList_append_lies _ rfl _ _ 33 rfl w.heap.size 3 i1 (.int .i64 0) 1 8 Tryz.underlying33 hj0 hy0 hy1 hy2 rfl (by decide) (.slice none 0 0) 0 [] rfl (World.ownsRow_nil _ _ _ _) ⟨w1.heap.size + 1, 0, none⟩ 1 1 [.int .i64 ((pc : Int) + 1)] rfl rfl (World.news_of_block (cs := #[.int .i64 ((pc : Int) + 1)]) (t := 3) (fr := (0, 0)) (heap_two w1 (.cells #[.int .u8 (7 : Nat), .int .u8 t, .int .u8 ea, .int .u8 lv, .bool false] 136) _)) (by simp [Value.oneCell']) (by omega) (by unfold maxLen; omega) (by omega) (by have := hw1.size; simp; omega) (w1.heap.size + 2) (by simp) ?_; intro g4 c4 w4 hown4 hgrow4 hat4 hlt4; have hB4 : Below w.heap.size w w4 := (HB.out _ _ (HB.out (.cells #[.int .u8 (7 : Nat), .int .u8 t, .int .u8 ea, .int .u8 lv, .bool false] 136) _ hw1)).trans (rbelow_grown hgrow4 (fun q e => by cases e) (by have := hw1.size; simp; omega)); have hz4 : w4.heap[w1.heap.size]? = some (.cells #[.int .u8 (7 : Nat), .int .u8 t, .int .u8 ea, .int .u8 lv, .bool false] 136) := (hgrow4.block _ (by simp; omega) (fun e => by cases e)).trans ((Below.heap_alloc (w1.alloc (.cells #[.int .u8 (7 : Nat), .int .u8 t, .int .u8 ea, .int .u8 lv, .bool false] 136)) _ w1.heap.size (by simp)).trans (heap_alloc_new w1 _)); have z0 := (cell_row5p hz4); have dA4 := HV.out _ hB4)
          | (at_builtin; refine wpList_append_lies _ rfl _ _ 33 rfl w.heap.size 3 i1 (.int .i64 0) 1 8 Tryz.underlying33 hj0 hy0 hy1 hy2 rfl (by decide) (.slice (some ⟨g4, 0, none⟩) (0 + 1) c4) (0 + 1) ([] ++ [.int .i64 ((pc : Int) + 1)]) rfl (hown4.alloc _) ⟨w4.heap.size, 0, none⟩ 1 1 [.int .i64 A] rfl rfl (World.news_of_block (cs := #[.int .i64 A]) (t := 3) (fr := (0, 0)) (heap_alloc_new w4 _)) (by simp [Value.oneCell']) (by omega) (by unfold maxLen; omega) (by omega) (by have := hB4.size; simp; omega) (w4.heap.size + 1) (by simp) ?_; intro g5 c5 w5 hown5 hgrow5 hat5 hlt5; have hB5 : Below w.heap.size w w5 := (HB.out _ _ hB4).trans (rbelow_grown hgrow5 (fun q e => (hown4.lt q e).1) (by have := hB4.size; simp; omega))))
        go_ret
        exact ⟨_, rfl, own_two hown5, hB5⟩
    · rw [if_neg (by simp), if_neg hp]
      simp only [List.append_nil]
      have e6 : ((n : Int) == 6) = false := by simp; omega
      have e7 : ((n : Int) == 7) = false := by simp; omega
      clear hp hpl ha
      go_enter Tryz.func86, Tryz.ntmps86
      go_wp2_with (first
        | (go_at_call 76; (with_reducible refine H.mono ?_); clear H; rintro e w1 ⟨rfl, hw1⟩; have dA := fun (o : Obj) => HV.out _ (HB.out o _ hw1))
        | (at_builtin; refine wpList_append_lies _ rfl _ _ 33 rfl w.heap.size 3 i1 (.int .i64 0) 1 8 Tryz.underlying33 hj0 hy0 hy1 hy2 rfl (by decide) (.slice none 0 0) 0 [] rfl (World.ownsRow_nil _ _ _ _) ⟨w1.heap.size + 1, 0, none⟩ 1 1 [.int .i64 ((pc : Int) + 1)] rfl rfl (World.news_of_block (cs := #[.int .i64 ((pc : Int) + 1)]) (t := 3) (fr := (0, 0)) (heap_two w1 (.cells #[.int .u8 n, .int .u8 t, .int .u8 ea, .int .u8 lv, .bool false] 136) _)) (by simp [Value.oneCell']) (by omega) (by unfold maxLen; omega) (by omega) (by have := hw1.size; simp; omega) (w1.heap.size + 2) (by simp) ?_; intro g4 c4 w4 hown4 hgrow4 hat4 hlt4; have hB4 : Below w.heap.size w w4 := (HB.out _ _ (HB.out (.cells #[.int .u8 n, .int .u8 t, .int .u8 ea, .int .u8 lv, .bool false] 136) _ hw1)).trans (rbelow_grown hgrow4 (fun q e => by cases e) (by have := hw1.size; simp; omega)); have hz4 : w4.heap[w1.heap.size]? = some (.cells #[.int .u8 n, .int .u8 t, .int .u8 ea, .int .u8 lv, .bool false] 136) := (hgrow4.block _ (by simp; omega) (fun e => by cases e)).trans ((Below.heap_alloc (w1.alloc (.cells #[.int .u8 n, .int .u8 t, .int .u8 ea, .int .u8 lv, .bool false] 136)) _ w1.heap.size (by simp)).trans (heap_alloc_new w1 _)); have z0 := (cell_row5p hz4); have dA4 := HV.out _ hB4))
      go_ret
      exact ⟨_, rfl, own_one (W := w) (m := pc + 1) (by simp) hown4, hB4⟩

end Go.Proofs.YtgindgneobghaaaGreatDoor
