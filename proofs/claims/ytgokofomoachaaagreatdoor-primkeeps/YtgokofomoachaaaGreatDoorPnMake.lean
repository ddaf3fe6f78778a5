/- plain: whole, truth, Not, Neg, Len; wordsOf, makes, Text. -/
import Derived.Test.YtgokofomoachaaaGreatDoorPnDeed
import Derived.Test.YtgokofomoachaaaGreatDoorPmSets
import Derived.Test.YtgokofomoachaaaGreatDoorShCheck
import Derived.Test.YtgokofomoachaaaGreatDoorPmAdds
namespace Go.Proofs.YtgokofomoachaaaGreatDoor
set_option linter.unusedVariables false
set_option linter.unusedSimpArgs false
open Go.RowKit

variable {w : World}

/-- A whole number; a truth value. -/
def wholeD (n : Int) : Dd := { v := ⟨2, n⟩ }

def truthD (b : Bool) : Dd := { v := tru b }

def thrD (t : ByteArray) : Dd := { t := t }

theorem comesD {v : Vl} {d : Dd} (h : d = { v := v }) (w : World) : Calls Tryz.prog 232 #[.agg #[.int .u8 v.k, .int .i64 v.n]] w (DeedR w d) := by
  subst h; exact deedTo_in v w

theorem throwsD {t : ByteArray} {d : Dd} (h : d = thrD t) (w : World) : Calls Tryz.prog 154 #[.string t] w (DeedR w d) := by
  subst h; exact Throws_in t w

theorem leadO_mem {S : List Om} {v : Vl} {o : Om} (h : leadO S v = some o) : o ∈ S := by
  obtain ⟨-, -, -, i, -, -, hS⟩ := leadO_some h
  exact List.mem_of_getElem? hS

set_option maxRecDepth 20000 in
set_option maxHeartbeats 1000000 in
theorem wholeD_in (n : Int) (w : World) {d : Dd} (hd : d = wholeD n) : Calls Tryz.prog 159 #[.int .i64 n] w (DeedR w d) := by
  have hB := below1 w (.cells #[.string ⟨#[]⟩, .int .i64 0, .int .u8 0, .int .i64 0, .int .u8 0, .string ⟨#[]⟩, .slice none 0 0, .int .i64 0, .int .i64 0, .int .i64 0, .int .i64 0, .slice none 0 0, .int .i64 0] 100)
  have hb := heap_alloc_new w (.cells #[.string ⟨#[]⟩, .int .i64 0, .int .u8 0, .int .i64 0, .int .u8 0, .string ⟨#[]⟩, .slice none 0 0, .int .i64 0, .int .i64 0, .int .i64 0, .int .i64 0, .slice none 0 0, .int .i64 0] 100)
  have H1 := comesD (v := ⟨2, n⟩) hd (w.alloc (.cells #[.string ⟨#[]⟩, .int .i64 0, .int .u8 0, .int .i64 0, .int .u8 0, .string ⟨#[]⟩, .slice none 0 0, .int .i64 0, .int .i64 0, .int .i64 0, .int .i64 0, .slice none 0 0, .int .i64 0] 100))
  simp only [show ((2 : Nat) : Int) = 2 from rfl] at H1
  clear hd
  go_enter Tryz.func159, Tryz.ntmps159
  go_wp2_with (first
    | (go_at_call 232; (with_reducible refine H1.mono ?_); clear H1; rintro e w1 ⟨q, c_, q2, rfl, h1, h2, hB1⟩; have hr := (hB1.block _ (Array.getElem?_eq_some_iff.1 hb).1).trans hb; obtain ⟨⟨z0, z1, z2, z3, z4, z5, z6, z7, z8, z9, z10, z11, z12⟩, y0, y1, y2, y3, y4, y5, y6, y7, y8, y9, y10, y11, y12⟩ := cell_row13 hr))
  refine bodyPost_ret (results_cell_row (by rfl) _ _ (w.heap.size) 100 _ _ _ (by rfl) (set13_row hr) Tryz.underlying100 (by rfl) infoDeed) (by rfl) ?_
  exact deed_fin hr (by omega) d h1 h2 (hB.trans (hB1.mono hB.size))

set_option maxRecDepth 20000 in
set_option maxHeartbeats 1000000 in
theorem truthD_in (b : Bool) (w : World) {d : Dd} (hd : d = truthD b) : Calls Tryz.prog 167 #[.bool b] w (DeedR w d) := by
  have hB := below1 w (.cells #[.string ⟨#[]⟩, .int .i64 0, .int .u8 0, .int .i64 0, .int .u8 0, .string ⟨#[]⟩, .slice none 0 0, .int .i64 0, .int .i64 0, .int .i64 0, .int .i64 0, .slice none 0 0, .int .i64 0] 100)
  have hb := heap_alloc_new w (.cells #[.string ⟨#[]⟩, .int .i64 0, .int .u8 0, .int .i64 0, .int .u8 0, .string ⟨#[]⟩, .slice none 0 0, .int .i64 0, .int .i64 0, .int .i64 0, .int .i64 0, .slice none 0 0, .int .i64 0] 100)
  have H1 := comesD (v := tru b) hd (w.alloc (.cells #[.string ⟨#[]⟩, .int .i64 0, .int .u8 0, .int .i64 0, .int .u8 0, .string ⟨#[]⟩, .slice none 0 0, .int .i64 0, .int .i64 0, .int .i64 0, .int .i64 0, .slice none 0 0, .int .i64 0] 100))
  clear hd
  cases b
  all_goals
    simp only [tru, show ((1 : Nat) : Int) = 1 from rfl, Bool.false_eq_true, if_false, if_true] at H1
    go_enter Tryz.func167, Tryz.ntmps167
    go_wp2_with (first
      | (go_at_call 232; (with_reducible refine H1.mono ?_); clear H1; rintro e w1 ⟨q, c_, q2, rfl, h1, h2, hB1⟩; have hr := (hB1.block _ (Array.getElem?_eq_some_iff.1 hb).1).trans hb; obtain ⟨⟨z0, z1, z2, z3, z4, z5, z6, z7, z8, z9, z10, z11, z12⟩, y0, y1, y2, y3, y4, y5, y6, y7, y8, y9, y10, y11, y12⟩ := cell_row13 hr))
    refine bodyPost_ret (results_cell_row (by rfl) _ _ (w.heap.size) 100 _ _ _ (by rfl) (set13_row hr) Tryz.underlying100 (by rfl) infoDeed) (by rfl) ?_
    exact deed_fin hr (by omega) d h1 h2 (hB.trans (hB1.mono hB.size))

end Go.Proofs.YtgokofomoachaaaGreatDoor

namespace Go.Proofs.YtgokofomoachaaaGreatDoor
set_option linter.unusedVariables false
set_option linter.unusedSimpArgs false
open Go.RowKit

variable {w : World}

/-- An object is made. -/
def makesD (o : Om) : Dd := { n := (wordsO o : Nat), o := o }

/-- A text as an object. -/
def txtO (t : ByteArray) : Om := ⟨3, t, [], 0, 0⟩

set_option maxRecDepth 20000 in
set_option maxHeartbeats 1000000 in
theorem wordsOf_in (o : Om) {q : Option Addr} (cq : Nat) (hv : Vals w q o.l) (hq : q = none → cq = 0) (hl : o.l.length ≤ 100000) (hs : o.s.size ≤ 1048576) (hr : o.room ≤ 1099511627776) (h3 : 3 ≤ o.k) (h7 : o.k ≤ 7) :
    Calls Tryz.prog 250 #[.agg #[.int .u8 o.k, .string o.s, .slice q o.l.length cq, .int .i64 o.room, .int .i64 o.fn]] w fun e w' => e = .returned (.int .i64 (wordsO o : Nat)) ∧ Below w.heap.size w w' := by
  have hB := below3' w (.cells #[.int .u8 o.k, .string o.s, .slice q o.l.length cq, .int .i64 o.room, .int .i64 o.fn] 96) (.cells #[.int .u8 o.k, .string o.s, .slice q o.l.length cq, .int .i64 o.room, .int .i64 o.fn] 96) (.cells #[.int .u8 o.k, .int .i64 1] 27)
  have hb0 := heap_alloc_new w (.cells #[.int .u8 o.k, .string o.s, .slice q o.l.length cq, .int .i64 o.room, .int .i64 o.fn] 96)
  have hX := heap3_1 w (.cells #[.int .u8 o.k, .string o.s, .slice q o.l.length cq, .int .i64 o.room, .int .i64 o.fn] 96) (.cells #[.int .u8 o.k, .string o.s, .slice q o.l.length cq, .int .i64 o.room, .int .i64 o.fn] 96) (.cells #[.int .u8 o.k, .int .i64 1] 27)
  have hY := heap3_2 w (.cells #[.int .u8 o.k, .string o.s, .slice q o.l.length cq, .int .i64 o.room, .int .i64 o.fn] 96) (.cells #[.int .u8 o.k, .string o.s, .slice q o.l.length cq, .int .i64 o.room, .int .i64 o.fn] 96) (.cells #[.int .u8 o.k, .int .i64 1] 27)
  have HW : Calls Tryz.prog 44 #[.slice (some ⟨w.heap.size + 1, 0, none⟩) 1 1, .slice (some ⟨w.heap.size + 1 + 1, 0, none⟩) 1 1] (((w.alloc (.cells #[.int .u8 o.k, .string o.s, .slice q o.l.length cq, .int .i64 o.room, .int .i64 o.fn] 96)).alloc (.cells #[.int .u8 o.k, .string o.s, .slice q o.l.length cq, .int .i64 o.room, .int .i64 o.fn] 96)).alloc (.cells #[.int .u8 o.k, .int .i64 1] 27)) fun e w' => e = .returned (.int .i64 (wordsO o : Nat)) ∧ Below (((w.alloc (.cells #[.int .u8 o.k, .string o.s, .slice q o.l.length cq, .int .i64 o.room, .int .i64 o.fn] 96)).alloc (.cells #[.int .u8 o.k, .string o.s, .slice q o.l.length cq, .int .i64 o.room, .int .i64 o.fn] 96)).alloc (.cells #[.int .u8 o.k, .int .i64 1] 27)).heap.size (((w.alloc (.cells #[.int .u8 o.k, .string o.s, .slice q o.l.length cq, .int .i64 o.room, .int .i64 o.fn] 96)).alloc (.cells #[.int .u8 o.k, .string o.s, .slice q o.l.length cq, .int .i64 o.room, .int .i64 o.fn] 96)).alloc (.cells #[.int .u8 o.k, .int .i64 1] 27)) w' := by
    have := Words_in (S := [o]) (roots := [⟨o.k, 1⟩]) 1 1 (one_st hX (hv.below hB) hq) ⟨by simp, by simpa using hl, by simpa using hs, by simpa using hr⟩ (one_val (v := ⟨o.k, 1⟩) hY) (by simp)
    rw [words_alone h3 h7] at this
    exact this
  obtain ⟨⟨x0, x1, x2, x3, x4⟩, -⟩ := cell_row5 hb0
  clear hX hY hb0
  go_enter Tryz.func250, Tryz.ntmps250
  go_wp2_with (first
    | (go_at_call 44; (with_reducible refine HW.mono ?_); clear HW; rintro e w1 ⟨rfl, hB1⟩))
  go_ret
  exact ⟨rfl, hB.trans (hB1.mono hB.size)⟩

set_option maxRecDepth 20000 in
set_option maxHeartbeats 2000000 in
theorem mk_in (o : Om) {q : Option Addr} (cq : Nat) (hv : Vals w q o.l) (hq : q = none → cq = 0) (hl : o.l.length ≤ 100000) (hs : o.s.size ≤ 1048576) (hr : o.room ≤ 1099511627776) (h3 : 3 ≤ o.k) (h7 : o.k ≤ 7) :
    Calls Tryz.prog 180 #[.agg #[.int .u8 o.k, .string o.s, .slice q o.l.length cq, .int .i64 o.room, .int .i64 o.fn]] w fun e w' => e = .returned (.agg #[.string ⟨#[]⟩, .int .i64 (wordsO o : Nat), .int .u8 0, .int .i64 0, .int .u8 o.k, .string o.s, .slice q o.l.length cq, .int .i64 o.room, .int .i64 o.fn, .int .i64 0, .int .i64 0, .slice none 0 0, .int .i64 0]) ∧ Below w.heap.size w w' := by
  have hB0 := below2' w (.cells #[.int .u8 o.k, .string o.s, .slice q o.l.length cq, .int .i64 o.room, .int .i64 o.fn] 96) (.cells #[.string ⟨#[]⟩, .int .i64 0, .int .u8 0, .int .i64 0, .int .u8 0, .string ⟨#[]⟩, .slice none 0 0, .int .i64 0, .int .i64 0, .int .i64 0, .int .i64 0, .slice none 0 0, .int .i64 0] 100)
  have hb0 := (Below.heap_alloc _ (.cells #[.string ⟨#[]⟩, .int .i64 0, .int .u8 0, .int .i64 0, .int .u8 0, .string ⟨#[]⟩, .slice none 0 0, .int .i64 0, .int .i64 0, .int .i64 0, .int .i64 0, .slice none 0 0, .int .i64 0] 100) w.heap.size (by simp)).trans (heap_alloc_new w (.cells #[.int .u8 o.k, .string o.s, .slice q o.l.length cq, .int .i64 o.room, .int .i64 o.fn] 96))
  have hb1 := heap_two w (.cells #[.int .u8 o.k, .string o.s, .slice q o.l.length cq, .int .i64 o.room, .int .i64 o.fn] 96) (.cells #[.string ⟨#[]⟩, .int .i64 0, .int .u8 0, .int .i64 0, .int .u8 0, .string ⟨#[]⟩, .slice none 0 0, .int .i64 0, .int .i64 0, .int .i64 0, .int .i64 0, .slice none 0 0, .int .i64 0] 100)
  go_enter Tryz.func180, Tryz.ntmps180
  go_wp2_with fail
  generalize hW : (w.alloc (.cells #[.int .u8 o.k, .string o.s, .slice q o.l.length cq, .int .i64 o.room, .int .i64 o.fn] 96)).alloc (.cells #[.string ⟨#[]⟩, .int .i64 0, .int .u8 0, .int .i64 0, .int .u8 0, .string ⟨#[]⟩, .slice none 0 0, .int .i64 0, .int .i64 0, .int .i64 0, .int .i64 0, .slice none 0 0, .int .i64 0] 100) = W at *
  clear hW
  have l0 := (Array.getElem?_eq_some_iff.1 hb0).1
  have l1 := (Array.getElem?_eq_some_iff.1 hb1).1
  have FCS : ∀ W', Below W.heap.size W W' → W'.cell? ⟨w.heap.size, 0, none⟩ = some (.int .u8 o.k) ∧ W'.cell? ⟨w.heap.size, 1, none⟩ = some (.string o.s) ∧ W'.cell? ⟨w.heap.size, 2, none⟩ = some (.slice q o.l.length cq) ∧ W'.cell? ⟨w.heap.size, 3, none⟩ = some (.int .i64 o.room) ∧ W'.cell? ⟨w.heap.size, 4, none⟩ = some (.int .i64 o.fn) := fun W' hb => (cell_row5 ((hb.block _ l0).trans hb0)).1
  have hD := below_drew (Below.refl W.heap.size W)
  have hBd : Below w.heap.size w W.drew := hB0.trans (hD.mono hB0.size)
  have S0 := FCS _ hD
  have SW := FCS _ (Below.refl _ _)
  have HW := wordsOf_in o cq (hv.below hBd) hq hl hs hr h3 h7
  have hne : w.heap.size ≠ w.heap.size + 1 := by omega
  clear hv hq
  go_region_held3 (fun W => W.cell? ⟨w.heap.size, 0, none⟩ = some (.int .u8 o.k) ∧ W.cell? ⟨w.heap.size, 1, none⟩ = some (.string o.s) ∧ W.cell? ⟨w.heap.size, 2, none⟩ = some (.slice q o.l.length cq) ∧ W.cell? ⟨w.heap.size, 3, none⟩ = some (.int .i64 o.room) ∧ W.cell? ⟨w.heap.size, 4, none⟩ = some (.int .i64 o.fn)) (first | with_reducible exact S0 | with_reducible exact SW | with_reducible exact S1 | with_reducible exact ⟨(cell_set13 hne).trans s0, (cell_set13 hne).trans s1, (cell_set13 hne).trans s2, (cell_set13 hne).trans s3, (cell_set13 hne).trans s4⟩ | go_keep)
    (first
      | (go_at_call 250; (with_reducible refine HW.mono ?_); clear HW; rintro e w1 ⟨rfl, hB1⟩; have hD1 := hD.trans (hB1.mono hD.size); have S1 := FCS _ hD1; obtain ⟨s0, s1, s2, s3, s4⟩ := FCS _ hD1; have hr1 := (hD1.block _ l1).trans hb1; obtain ⟨⟨z0, z1, z2, z3, z4, z5, z6, z7, z8, z9, z10, z11, z12⟩, y0, y1, y2, y3, y4, y5, y6, y7, y8, y9, y10, y11, y12⟩ := cell_row13 hr1))
  all_goals
    go_wp2
    refine bodyPost_ret (results_cell_row (by rfl) _ _ (w.heap.size + 1) 100 _ _ _ (by rfl) (set13_row hr1) Tryz.underlying100 (by rfl) infoDeed) (by rfl) ?_
    exact ⟨rfl, below_set13 (hB0.trans (hD1.mono hB0.size)) (by omega) _ _ _ _ _ _ _ _ _ _ _ _ _⟩

set_option maxRecDepth 20000 in
set_option maxHeartbeats 1000000 in
theorem Text_far (t : ByteArray) (w : World) (ht : 4096 < t.size) {d : Dd} (hd : d = thrD tGreat) : Calls Tryz.prog 70 #[.string t] w (DeedR w d) := by
  have hB := below1 w (.cells #[.string ⟨#[]⟩, .int .i64 0, .int .u8 0, .int .i64 0, .int .u8 0, .string ⟨#[]⟩, .slice none 0 0, .int .i64 0, .int .i64 0, .int .i64 0, .int .i64 0, .slice none 0 0, .int .i64 0] 100)
  have hb := heap_alloc_new w (.cells #[.string ⟨#[]⟩, .int .i64 0, .int .u8 0, .int .i64 0, .int .u8 0, .string ⟨#[]⟩, .slice none 0 0, .int .i64 0, .int .i64 0, .int .i64 0, .int .i64 0, .slice none 0 0, .int .i64 0] 100)
  have H1 := throwsD hd (w.alloc (.cells #[.string ⟨#[]⟩, .int .i64 0, .int .u8 0, .int .i64 0, .int .u8 0, .string ⟨#[]⟩, .slice none 0 0, .int .i64 0, .int .i64 0, .int .i64 0, .int .i64 0, .slice none 0 0, .int .i64 0] 100))
  unfold tGreat at H1
  have ht' : (4096 : Int) < (t.size : Int) := by omega
  clear hd
  go_enter Tryz.func70, Tryz.ntmps70
  go_wp2_with (first
    | (go_at_call 154; (with_reducible refine H1.mono ?_); clear H1; rintro e w1 ⟨q, c_, q2, rfl, h1, h2, hB1⟩; have hr := (hB1.block _ (Array.getElem?_eq_some_iff.1 hb).1).trans hb; obtain ⟨⟨z0, z1, z2, z3, z4, z5, z6, z7, z8, z9, z10, z11, z12⟩, y0, y1, y2, y3, y4, y5, y6, y7, y8, y9, y10, y11, y12⟩ := cell_row13 hr))
  refine bodyPost_ret (results_cell_row (by rfl) _ _ (w.heap.size) 100 _ _ _ (by rfl) (set13_row hr) Tryz.underlying100 (by rfl) infoDeed) (by rfl) ?_
  exact deed_fin hr (by omega) d h1 h2 (hB.trans (hB1.mono hB.size))

set_option maxRecDepth 20000 in
set_option maxHeartbeats 1000000 in
theorem Text_ok (t : ByteArray) (w : World) (ht : t.size ≤ 4096) {d : Dd} (hd : d = makesD (txtO t)) : Calls Tryz.prog 70 #[.string t] w (DeedR w d) := by
  have hB := below1 w (.cells #[.string ⟨#[]⟩, .int .i64 0, .int .u8 0, .int .i64 0, .int .u8 0, .string ⟨#[]⟩, .slice none 0 0, .int .i64 0, .int .i64 0, .int .i64 0, .int .i64 0, .slice none 0 0, .int .i64 0] 100)
  have hb := heap_alloc_new w (.cells #[.string ⟨#[]⟩, .int .i64 0, .int .u8 0, .int .i64 0, .int .u8 0, .string ⟨#[]⟩, .slice none 0 0, .int .i64 0, .int .i64 0, .int .i64 0, .int .i64 0, .slice none 0 0, .int .i64 0] 100)
  have H1 := mk_in (w := w.alloc (.cells #[.string ⟨#[]⟩, .int .i64 0, .int .u8 0, .int .i64 0, .int .u8 0, .string ⟨#[]⟩, .slice none 0 0, .int .i64 0, .int .i64 0, .int .i64 0, .int .i64 0, .slice none 0 0, .int .i64 0] 100)) (txtO t) (q := none) 0 (fun j v hj => by simp [txtO] at hj) (fun _ => rfl) (by simp [txtO]) (by show t.size ≤ 1048576; omega) (by simp [txtO]) (by simp [txtO]) (by simp [txtO])
  simp only [show (txtO t).k = 3 from rfl, show (txtO t).s = t from rfl, show (txtO t).l = [] from rfl, show (txtO t).room = 0 from rfl, show (txtO t).fn = 0 from rfl, List.length_nil, show ((3 : Nat) : Int) = 3 from rfl] at H1
  have ht' : ¬ ((4096 : Int) < (t.size : Int)) := by omega
  subst hd
  go_enter Tryz.func70, Tryz.ntmps70
  go_wp2_with (first
    | (go_at_call 180; (with_reducible refine H1.mono ?_); clear H1; rintro e w1 ⟨rfl, hB1⟩; have hr := (hB1.block _ (Array.getElem?_eq_some_iff.1 hb).1).trans hb; obtain ⟨⟨z0, z1, z2, z3, z4, z5, z6, z7, z8, z9, z10, z11, z12⟩, y0, y1, y2, y3, y4, y5, y6, y7, y8, y9, y10, y11, y12⟩ := cell_row13 hr))
  refine bodyPost_ret (results_cell_row (by rfl) _ _ (w.heap.size) 100 _ _ _ (by rfl) (set13_row hr) Tryz.underlying100 (by rfl) infoDeed) (by rfl) ?_
  exact deed_fin hr (by omega) (makesD (txtO t)) (q := none) (c := 0) (q2 := none) ⟨VT.none _, fun _ => rfl⟩ (VT.none _) (hB.trans (hB1.mono hB.size))


end Go.Proofs.YtgokofomoachaaaGreatDoor
