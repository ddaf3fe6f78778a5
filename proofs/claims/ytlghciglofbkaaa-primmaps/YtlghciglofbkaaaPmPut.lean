/- prim: putItem, putPair. -/
import Derived.Test.YtlghciglofbkaaaPmRow
namespace Go.Proofs.Ytlghciglofbkaaa
set_option linter.unusedVariables false
set_option linter.unusedSimpArgs false
open Go.RowKit

variable {w : World}

/-- What an operation comes to, plainly. -/
structure Dv where
  S : List Om
  v : Vl
  t : ByteArray
  n : Int

/-- A List or a Map with more values. -/
def addedP (S : List Om) (i : Nat) (o : Om) (least : Int) (more : List Vl) : Dv :=
  if o.room < (o.l.length : Int) + more.length then ⟨S.set i { o with l := o.l ++ more, room := max least (2 * o.room) }, ⟨0, 0⟩, ⟨#[]⟩, 1 + 2 * max least (2 * o.room)⟩
  else ⟨S.set i { o with l := o.l ++ more, room := o.room }, ⟨0, 0⟩, ⟨#[]⟩, 0⟩

def putItemP (S : List Om) (i : Nat) (o : Om) (n : Int) (x : Vl) : Dv :=
  if n < 0 ∨ (o.l.length : Int) < n then ⟨S, ⟨0, 0⟩, tBounds, 0⟩
  else if n < (o.l.length : Int) then ⟨S.set i { o with l := o.l.set n.toNat x }, ⟨0, 0⟩, ⟨#[]⟩, 0⟩
  else if o.l.length = 65536 then ⟨S, ⟨0, 0⟩, tItems, 0⟩
  else addedP S i o 4 [x]

def putPairP (S : List Om) (i : Nat) (o : Om) (k x : Vl) (r : Option Nat) : Dv :=
  match r with
  | some j => ⟨S.set i { o with l := o.l.set (j + 1) x }, ⟨0, 0⟩, ⟨#[]⟩, 0⟩
  | none => if o.l.length = 131072 then ⟨S, ⟨0, 0⟩, tItems, 0⟩ else addedP S i o 8 [k, x]

theorem adds_inP {p : Option Addr} {S : List Om} (h : Ask w p S) (c : Nat) (k : Nat) {i : Nat} {o : Om} (ho : S[i]? = some o) (least : Nat) (hle : least ≤ 8) {q2 : Option Addr} {more : List Vl} (c2 : Nat) (hv2 : Vals w q2 more) (hm0 : 0 < more.length) (hm2 : more.length ≤ 2) (hr0 : 0 ≤ o.room) (hr1 : o.room ≤ 1099511627776) (d : Dv) (hd : d = addedP S i o least more) :
    Calls Try.prog 53 #[.slice p S.length c, .agg #[.int .u8 k, .int .i64 ((i : Int) + 1)], .int .i64 least, .slice q2 more.length c2] w (DidR w d.S d.v d.t d.n) := by
  subst hd
  unfold addedP
  by_cases hR : o.room < (o.l.length : Int) + more.length
  · rw [if_pos hR]
    exact adds_in h c k ho least hle c2 hv2 hm0 hm2 hr0 hr1 _ _ (.inl ⟨hR, rfl, rfl⟩)
  · rw [if_neg hR]
    exact adds_in h c k ho least hle c2 hv2 hm0 hm2 hr0 hr1 _ _ (.inr ⟨by omega, rfl, rfl⟩)

theorem one_vals2 {W : World} {b : Nat} {u v : Vl} (h : W.heap[b]? = some (.cells #[.int .u8 u.k, .int .i64 u.n, .int .u8 v.k, .int .i64 v.n] 26 (0, 0))) : Vals W (some ⟨b, 0, none⟩) [u, v] := by
  intro j x hj
  have hj0 := (List.getElem?_eq_some_iff.1 hj).1
  simp at hj0
  refine ⟨b, 0, rfl, ?_, ?_⟩ <;> rw [cell_of_row W b _ _ _ _ h]
  all_goals
    have : j = 0 ∨ j = 1 := by omega
    rcases this with rfl | rfl <;> simp at hj <;> subst hj <;> simp

theorem one_vals3 {W : World} {b : Nat} {u v y : Vl} (h : W.heap[b]? = some (.cells #[.int .u8 u.k, .int .i64 u.n, .int .u8 v.k, .int .i64 v.n, .int .u8 y.k, .int .i64 y.n] 26 (0, 0))) : Vals W (some ⟨b, 0, none⟩) [u, v, y] := by
  intro j x hj
  have hj0 := (List.getElem?_eq_some_iff.1 hj).1
  simp at hj0
  refine ⟨b, 0, rfl, ?_, ?_⟩ <;> rw [cell_of_row W b _ _ _ _ h]
  all_goals
    have : j = 0 ∨ j = 1 ∨ j = 2 := by omega
    rcases this with rfl | rfl | rfl <;> simp at hj <;> subst hj <;> simp

set_option maxRecDepth 20000 in
set_option maxHeartbeats 2000000 in
theorem putItem_in {p : Option Addr} {S : List Om} (h : Ask w p S) (c : Nat) (k : Nat) {i : Nat} {o : Om} (ho : leadO S ⟨k, (i : Int) + 1⟩ = some o) (hr0 : 0 ≤ o.room) (hr1 : o.room ≤ 1099511627776) (n : Int) (u : Vl) (d : Dv) (hd : d = putItemP S i o n u) :
    Calls Try.prog 21 #[.slice p S.length c, .agg #[.int .u8 k, .int .i64 ((i : Int) + 1)], .int .i64 n, .agg #[.int .u8 u.k, .int .i64 u.n]] w (DidR w d.S d.v d.t d.n) := by
  have hoS : S[i]? = some o := by
    obtain ⟨-, -, -, i', hn, -, hS⟩ := leadO_some ho
    simp only at hn
    have : i' = i := by omega
    subst this; exact hS
  have hlo := h.vals o (List.mem_of_getElem? hoS)
  have hB := below3' w (.cells #[.int .u8 k, .int .i64 ((i : Int) + 1)] 26) (.cells #[.int .u8 u.k, .int .i64 u.n] 26) noD
  have hb0 := heap3_0 w (.cells #[.int .u8 k, .int .i64 ((i : Int) + 1)] 26) (.cells #[.int .u8 u.k, .int .i64 u.n] 26) noD
  have hb1 := heap3_1 w (.cells #[.int .u8 k, .int .i64 ((i : Int) + 1)] 26) (.cells #[.int .u8 u.k, .int .i64 u.n] 26) noD
  have hb2 := heap3_2 w (.cells #[.int .u8 k, .int .i64 ((i : Int) + 1)] 26) (.cells #[.int .u8 u.k, .int .i64 u.n] 26) noD
  have HO := object_in (h.below hB) c ⟨k, (i : Int) + 1⟩ ho
  have HF := fldO2
  unfold noD at hB hb0 hb1 hb2 HO
  obtain ⟨x0, x1⟩ := cell_row2 hb0
  have HD : Hid _ := And.intro hd (And.intro ho hoS)
  clear hd ho hoS
  go_enter Try.func21, Try.ntmps21
  go_wp2_with (first
    | (go_at_call 24; (with_reducible refine HO.mono ?_); clear HO; rintro e w1 ⟨q, co, rfl, -, -, hB1⟩; refine halt_here ?_))
  unfold Halted
  have hB1' := hB.trans (hB1.mono hB.size)
  have e0 := (hB1.block _ (Array.getElem?_eq_some_iff.1 hb0).1).trans hb0
  have e1 := (hB1.block _ (Array.getElem?_eq_some_iff.1 hb1).1).trans hb1
  have e2 := (hB1.block _ (Array.getElem?_eq_some_iff.1 hb2).1).trans hb2
  have l2 := (Array.getElem?_eq_some_iff.1 e2).1
  clear hb0 hb1 hb2 x0 x1
  obtain ⟨x0, x1⟩ := cell_row2 e0
  obtain ⟨y0, y1⟩ := cell_row2 e1
  have hcase : (n < 0 ∨ (o.l.length : Int) < n) ∨ (0 ≤ n ∧ n < (o.l.length : Int)) ∨ (n = (o.l.length : Int) ∧ o.l.length = 65536) ∨ (n = (o.l.length : Int) ∧ o.l.length ≠ 65536) := by omega
  have HT := fun (t : ByteArray) => throws_in (h.below hB1') c t
  rcases hcase with hc | ⟨hc0, hc1⟩ | ⟨hc0, hc1⟩ | ⟨hc0, hc1⟩
  · have hde : d = ⟨S, ⟨0, 0⟩, tBounds, 0⟩ := by rw [HD.out.1]; unfold putItemP; rw [if_pos hc]
    subst hde
    have HT1 := HT ⟨#[98, 111, 117, 110, 100, 115]⟩
    clear HT HD
    by_cases h0 : n < 0
    · clear hc
      go_wp2_with (first
        | (go_at_call 14; (with_reducible refine HT1.mono ?_); clear HT1; rintro e w2 ⟨p1, c1, rfl, hts, hB2⟩; have hr := (hB2.block _ l2).trans e2; obtain ⟨⟨z0, z1, z2, z3, z4⟩, s0, s1, s2, s3, s4⟩ := cell_row5 hr))
      refine bodyPost_ret (results_cell_row (by rfl) _ _ (w.heap.size + 1 + 1) 28 _ _ _ (by rfl) (set5_row hr) Try.underlying28 (by rfl) infoDid) (by rfl) ?_
      exact did_fin hr (by omega) (hts_mono hts hB1'.size) (hB1'.trans (hB2.mono hB1'.size)) ⟨0, 0⟩ _ 0
    · have h1 : (o.l.length : Int) < n := by omega
      clear hc
      go_wp2_with (first
        | (go_at_call 14; (with_reducible refine HT1.mono ?_); clear HT1; rintro e w2 ⟨p1, c1, rfl, hts, hB2⟩; have hr := (hB2.block _ l2).trans e2; obtain ⟨⟨z0, z1, z2, z3, z4⟩, s0, s1, s2, s3, s4⟩ := cell_row5 hr))
      refine bodyPost_ret (results_cell_row (by rfl) _ _ (w.heap.size + 1 + 1) 28 _ _ _ (by rfl) (set5_row hr) Try.underlying28 (by rfl) infoDid) (by rfl) ?_
      exact did_fin hr (by omega) (hts_mono hts hB1'.size) (hB1'.trans (hB2.mono hB1'.size)) ⟨0, 0⟩ _ 0
  · obtain ⟨j, rfl⟩ : ∃ j : Nat, n = j := ⟨n.toNat, by omega⟩
    have hde : d = ⟨S.set i { o with l := o.l.set j u }, ⟨0, 0⟩, ⟨#[]⟩, 0⟩ := by rw [HD.out.1]; unfold putItemP; rw [if_neg (by omega), if_pos hc1]; simp
    subst hde
    have H3 := sets_in (h.below hB1') c k HD.out.2.2 (j := j) (by omega) u
    have hc2 : ¬ ((o.l.length : Int) < (j : Int)) := by omega
    clear HT HD
    go_wp2_with (first
      | (go_at_call 52; (with_reducible refine H3.mono ?_); clear H3; rintro e w2 ⟨p1, c1, rfl, hts, hB2⟩; have hr := (hB2.block _ l2).trans e2; obtain ⟨⟨z0, z1, z2, z3, z4⟩, s0, s1, s2, s3, s4⟩ := cell_row5 hr))
    refine bodyPost_ret (results_cell_row (by rfl) _ _ (w.heap.size + 1 + 1) 28 _ _ _ (by rfl) (set5_row hr) Try.underlying28 (by rfl) infoDid) (by rfl) ?_
    exact did_finN hr (by omega) (by simp) (hts_mono hts hB1'.size) (hB1'.trans (hB2.mono hB1'.size)) ⟨0, 0⟩ _ 0
  · subst hc0
    have hde : d = ⟨S, ⟨0, 0⟩, tItems, 0⟩ := by rw [HD.out.1]; unfold putItemP; rw [if_neg (by omega), if_neg (by omega), if_pos hc1]
    subst hde
    have HT1 := HT ⟨#[105, 116, 101, 109, 115]⟩
    have hc2 : (o.l.length : Int) = 65536 := by omega
    clear HT HD hc1
    go_wp2_with (first
      | (go_at_call 14; (with_reducible refine HT1.mono ?_); clear HT1; rintro e w2 ⟨p1, c1, rfl, hts, hB2⟩; have hr := (hB2.block _ l2).trans e2; obtain ⟨⟨z0, z1, z2, z3, z4⟩, s0, s1, s2, s3, s4⟩ := cell_row5 hr))
    refine bodyPost_ret (results_cell_row (by rfl) _ _ (w.heap.size + 1 + 1) 28 _ _ _ (by rfl) (set5_row hr) Try.underlying28 (by rfl) infoDid) (by rfl) ?_
    exact did_fin hr (by omega) (hts_mono hts hB1'.size) (hB1'.trans (hB2.mono hB1'.size)) ⟨0, 0⟩ _ 0
  · subst hc0
    have hde : d = addedP S i o 4 [u] := by rw [HD.out.1]; unfold putItemP; rw [if_neg (by omega), if_neg (by omega), if_neg hc1]
    have hBY := below1 w1 (.cells #[.int .u8 u.k, .int .i64 u.n] 26)
    have hB2' := hB1'.trans (hBY.mono hB1'.size)
    have H3 := adds_inP (h.below hB2') c k HD.out.2.2 4 (by omega) 1 (one_val (v := u) (heap_alloc_new w1 (.cells #[.int .u8 u.k, .int .i64 u.n] 26))) (by simp) (by simp) hr0 hr1 d hde
    have hc2 : ((o.l.length : Int) == 65536) = false := by simp; omega
    have hc3 : ¬ ((o.l.length : Int) = 65536) := by omega
    have e2' := (hBY.block _ l2).trans e2
    have l2' := (Array.getElem?_eq_some_iff.1 e2').1
    have hdl : d.S.length = S.length := by rw [hde]; unfold addedP; split <;> simp
    simp only [List.length_singleton, show ((4 : Nat) : Int) = 4 from rfl] at H3
    have HDL : Hid _ := hdl
    clear HT HD hc1 hde hdl
    go_wp2_with (first
      | (go_at_call 53; (with_reducible refine H3.mono ?_); clear H3; rintro e w2 ⟨p1, c1, rfl, hts, hB2⟩; have hr := (hB2.block _ l2').trans e2'; obtain ⟨⟨z0, z1, z2, z3, z4⟩, s0, s1, s2, s3, s4⟩ := cell_row5 hr))
    refine bodyPost_ret (results_cell_row (by rfl) _ _ (w.heap.size + 1 + 1) 28 _ _ _ (by rfl) (set5_row hr) Try.underlying28 (by rfl) infoDid) (by rfl) ?_
    exact did_fin hr (by omega) (hts_mono hts hB2'.size) (hB2'.trans (hB2.mono hB2'.size)) d.v d.t d.n

theorem heap4_0 (w : World) (o1 o2 o3 o4 : Obj) : ((((w.alloc o1).alloc o2).alloc o3).alloc o4).heap[w.heap.size]? = some o1 := (Below.heap_alloc _ _ _ (by simp; omega)).trans (heap3_0 w o1 o2 o3)

theorem heap4_1 (w : World) (o1 o2 o3 o4 : Obj) : ((((w.alloc o1).alloc o2).alloc o3).alloc o4).heap[w.heap.size + 1]? = some o2 := (Below.heap_alloc _ _ _ (by simp <;> omega)).trans (heap3_1 w o1 o2 o3)

theorem heap4_2 (w : World) (o1 o2 o3 o4 : Obj) : ((((w.alloc o1).alloc o2).alloc o3).alloc o4).heap[w.heap.size + 1 + 1]? = some o3 := (Below.heap_alloc _ _ _ (by simp)).trans (heap3_2 w o1 o2 o3)

theorem heap4_3 (w : World) (o1 o2 o3 o4 : Obj) : ((((w.alloc o1).alloc o2).alloc o3).alloc o4).heap[w.heap.size + 1 + 1 + 1]? = some o4 := by
  have := heap_alloc_new (((w.alloc o1).alloc o2).alloc o3) o4
  simpa using this

theorem below4' (w : World) (o1 o2 o3 o4 : Obj) : Below w.heap.size w ((((w.alloc o1).alloc o2).alloc o3).alloc o4) := (below3' w o1 o2 o3).alloc (by simp; omega) _

set_option maxRecDepth 20000 in
set_option maxHeartbeats 2000000 in
theorem putPair_in {p : Option Addr} {S : List Om} (h : Ask w p S) (c : Nat) (k : Nat) {i : Nat} {o : Om} (ho : leadO S ⟨k, (i : Int) + 1⟩ = some o) (hr0 : 0 ≤ o.room) (hr1 : o.room ≤ 1099511627776) (hl2 : o.l.length % 2 = 0) (ht : TextOk S o.l) (a : Vl) (ha : a.k = 3 → leadO S a ≠ none) (u : Vl) (r : Option Nat) (hr : KeyAt S o.l a r) (d : Dv) (hd : d = putPairP S i o a u r) :
    Calls Try.prog 20 #[.slice p S.length c, .agg #[.int .u8 k, .int .i64 ((i : Int) + 1)], .agg #[.int .u8 a.k, .int .i64 a.n], .agg #[.int .u8 u.k, .int .i64 u.n]] w (DidR w d.S d.v d.t d.n) := by
  have hoS : S[i]? = some o := by
    obtain ⟨-, -, -, i', hn, -, hS⟩ := leadO_some ho
    simp only at hn
    have : i' = i := by omega
    subst this; exact hS
  have hlo := h.vals o (List.mem_of_getElem? hoS)
  have hB := below4' w (.cells #[.int .u8 k, .int .i64 ((i : Int) + 1)] 26) (.cells #[.int .u8 a.k, .int .i64 a.n] 26) (.cells #[.int .u8 u.k, .int .i64 u.n] 26) noD
  have hb0 := heap4_0 w (.cells #[.int .u8 k, .int .i64 ((i : Int) + 1)] 26) (.cells #[.int .u8 a.k, .int .i64 a.n] 26) (.cells #[.int .u8 u.k, .int .i64 u.n] 26) noD
  have hb1 := heap4_1 w (.cells #[.int .u8 k, .int .i64 ((i : Int) + 1)] 26) (.cells #[.int .u8 a.k, .int .i64 a.n] 26) (.cells #[.int .u8 u.k, .int .i64 u.n] 26) noD
  have hb2 := heap4_2 w (.cells #[.int .u8 k, .int .i64 ((i : Int) + 1)] 26) (.cells #[.int .u8 a.k, .int .i64 a.n] 26) (.cells #[.int .u8 u.k, .int .i64 u.n] 26) noD
  have hb3 := heap4_3 w (.cells #[.int .u8 k, .int .i64 ((i : Int) + 1)] 26) (.cells #[.int .u8 a.k, .int .i64 a.n] 26) (.cells #[.int .u8 u.k, .int .i64 u.n] 26) noD
  have HO := object_in (h.below hB) c ⟨k, (i : Int) + 1⟩ ho
  have HF := fldO2
  unfold noD at hB hb0 hb1 hb2 hb3 HO
  obtain ⟨x0, x1⟩ := cell_row2 hb0
  have HD : Hid _ := And.intro hd (And.intro ho (And.intro hoS hr))
  clear hd ho hoS hr
  go_enter Try.func20, Try.ntmps20
  go_wp2_with (first
    | (go_at_call 24; (with_reducible refine HO.mono ?_); clear HO; rintro e w1 ⟨q, co, rfl, hvq, hqn, hB1⟩; refine halt_here ?_))
  unfold Halted
  have hB1' := hB.trans (hB1.mono hB.size)
  have e0 := (hB1.block _ (Array.getElem?_eq_some_iff.1 hb0).1).trans hb0
  have e1 := (hB1.block _ (Array.getElem?_eq_some_iff.1 hb1).1).trans hb1
  have e2 := (hB1.block _ (Array.getElem?_eq_some_iff.1 hb2).1).trans hb2
  have e3 := (hB1.block _ (Array.getElem?_eq_some_iff.1 hb3).1).trans hb3
  have HK := keyAt_in (h.below hB1') c co (hvq.below hB1) (by omega) ht a ha r HD.out.2.2.2
  clear hb0 hb1 hb2 hb3 x0 x1
  obtain ⟨x0, x1⟩ := cell_row2 e1
  go_wp2_with (first
    | (go_at_call 51; (with_reducible refine HK.mono ?_); clear HK; rintro e w2 ⟨rfl, hB2⟩; refine halt_here ?_))
  unfold Halted
  have hB2' := hB1'.trans (hB2.mono hB1'.size)
  have f0 := (hB2.block _ (Array.getElem?_eq_some_iff.1 e0).1).trans e0
  have f1 := (hB2.block _ (Array.getElem?_eq_some_iff.1 e1).1).trans e1
  have f2 := (hB2.block _ (Array.getElem?_eq_some_iff.1 e2).1).trans e2
  have f3 := (hB2.block _ (Array.getElem?_eq_some_iff.1 e3).1).trans e3
  have l3 := (Array.getElem?_eq_some_iff.1 f3).1
  clear x0 x1 e0 e1 e2 e3
  obtain ⟨x0, x1⟩ := cell_row2 f0
  obtain ⟨y0, y1⟩ := cell_row2 f1
  obtain ⟨v0, v1⟩ := cell_row2 f2
  cases r with
  | some j =>
    have hj : j + 1 < o.l.length := by
      have h2 := HD.out.2.2.2.1
      obtain ⟨y, hy, -⟩ := HD.out.2.2.2.2.1
      have := (List.getElem?_eq_some_iff.1 hy).1
      omega
    have hde : d = ⟨S.set i { o with l := o.l.set (j + 1) u }, ⟨0, 0⟩, ⟨#[]⟩, 0⟩ := by rw [HD.out.1]; rfl
    subst hde
    have H3 := sets_in (h.below hB2') c k HD.out.2.2.1 (j := j + 1) hj u
    simp only [show (((j + 1 : Nat)) : Int) = (j : Int) + 1 from by omega] at H3
    clear HD
    go_wp2_with (first
      | (go_at_call 52; (with_reducible refine H3.mono ?_); clear H3; rintro e w3 ⟨p1, c1, rfl, hts, hB3⟩; have hr := (hB3.block _ l3).trans f3; obtain ⟨⟨z0, z1, z2, z3, z4⟩, s0, s1, s2, s3, s4⟩ := cell_row5 hr))
    refine bodyPost_ret (results_cell_row (by rfl) _ _ (w.heap.size + 1 + 1 + 1) 28 _ _ _ (by rfl) (set5_row hr) Try.underlying28 (by rfl) infoDid) (by rfl) ?_
    exact did_finN hr (by omega) (by simp) (hts_mono hts hB2'.size) (hB2'.trans (hB3.mono hB2'.size)) ⟨0, 0⟩ _ 0
  | none =>
    by_cases hc1 : o.l.length = 131072
    · omega
    · have hde : d = addedP S i o 8 [a, u] := by rw [HD.out.1]; unfold putPairP; simp only; rw [if_neg hc1]
      have hBY := below1 w2 (.cells #[.int .u8 a.k, .int .i64 a.n, .int .u8 u.k, .int .i64 u.n] 26)
      have hB4' := hB2'.trans (hBY.mono hB2'.size)
      have H3 := adds_inP (h.below hB4') c k HD.out.2.2.1 8 (by omega) 2 (one_vals2 (u := a) (v := u) (heap_alloc_new w2 (.cells #[.int .u8 a.k, .int .i64 a.n, .int .u8 u.k, .int .i64 u.n] 26))) (by simp) (by simp) hr0 hr1 d hde
      have hc2 : ((o.l.length : Int) == 131072) = false := by simp; omega
      have hc3 : ¬ ((o.l.length : Int) = 131072) := by omega
      have g3 := (hBY.block _ l3).trans f3
      have l3' := (Array.getElem?_eq_some_iff.1 g3).1
      simp only [List.length_cons, List.length_nil, Nat.zero_add, Nat.reduceAdd, show ((8 : Nat) : Int) = 8 from rfl] at H3
      clear HD hc1 hde
      go_wp2_with (first
        | (go_at_call 53; (with_reducible refine H3.mono ?_); clear H3; rintro e w3 ⟨p1, c1, rfl, hts, hB3⟩; have hr := (hB3.block _ l3').trans g3; obtain ⟨⟨z0, z1, z2, z3, z4⟩, s0, s1, s2, s3, s4⟩ := cell_row5 hr))
      refine bodyPost_ret (results_cell_row (by rfl) _ _ (w.heap.size + 1 + 1 + 1) 28 _ _ _ (by rfl) (set5_row hr) Try.underlying28 (by rfl) infoDid) (by rfl) ?_
      exact did_fin hr (by omega) (hts_mono hts hB4'.size) (hB4'.trans (hB3.mono hB4'.size)) d.v d.t d.n

end Go.Proofs.Ytlghciglofbkaaa
