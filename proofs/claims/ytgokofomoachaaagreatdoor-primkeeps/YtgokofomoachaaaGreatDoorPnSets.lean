/- plain: sets, adds, anyCell. -/
import Derived.Test.YtgokofomoachaaaGreatDoorPnDid2
namespace Go.Proofs.YtgokofomoachaaaGreatDoor
set_option linter.unusedVariables false
set_option linter.unusedSimpArgs false
open Go.RowKit

variable {w : World}

theorem fldO3 (W : World) (a b c e : Value) (n : Int) : (Instr.field 96 (.agg #[a, b, c, .int .i64 n, e]) 3).run Tryz.prog W = .ok (.int .i64 n) W := by kernel_rfl

theorem vt_one {W : World} {b : Nat} {u : Vl} (h : W.heap[b]? = some (.cells #[.int .u8 u.k, .int .i64 u.n] 27 (0, 0))) : VT W (some ⟨b, 0, none⟩) [u] := ⟨one_val h, fun ad e => by cases e; exact ⟨_, h⟩⟩

theorem set_at12 {W : World} {g : Nat} {a0 a1 a2 a3 a4 a5 a6 a7 a8 a9 a10 a11 a12 : Value} {t : TypeId} (h : W.heap[g]? = some (.cells #[a0, a1, a2, a3, a4, a5, a6, a7, a8, a9, a10, a11, a12] t (0, 0))) (x : Value) : (W.setCell ⟨g, 12, none⟩ x).heap[g]? = some (.cells #[a0, a1, a2, a3, a4, a5, a6, a7, a8, a9, a10, a11, x] t (0, 0)) := by
  have := heap_setCell_same W g 12 _ t x h
  simpa using this

theorem set_at1 {W : World} {g : Nat} {a0 a1 a2 a3 a4 a5 a6 a7 a8 a9 a10 a11 a12 : Value} {t : TypeId} (h : W.heap[g]? = some (.cells #[a0, a1, a2, a3, a4, a5, a6, a7, a8, a9, a10, a11, a12] t (0, 0))) (x : Value) : (W.setCell ⟨g, 1, none⟩ x).heap[g]? = some (.cells #[a0, x, a2, a3, a4, a5, a6, a7, a8, a9, a10, a11, a12] t (0, 0)) := by
  have := heap_setCell_same W g 1 _ t x h
  simpa using this

/-- One value is another one; values behind the others. -/
def setD (i : Int) (j : Int) (u : Vl) (r : Int) : Dd := { of_ := i, at_ := j, l2 := [u], r2 := r }

def addD (i : Int) (j : Int) (more : List Vl) (r n : Int) : Dd := { n := n, of_ := i, at_ := j, l2 := more, r2 := r }

set_option maxRecDepth 20000 in
set_option maxHeartbeats 4000000 in
theorem sets_pl {p : Option Addr} {S : List Om} (h : Ask w p S) (c : Nat) (k : Nat) {i : Nat} {o : Om} (ho : leadO S ⟨k, (i : Int) + 1⟩ = some o) (j : Int) (u : Vl) {d : Dd} (hd : d = setD ((i : Int) + 1) j u o.room) :
    Calls Tryz.prog 258 #[.slice p S.length c, .agg #[.int .u8 k, .int .i64 ((i : Int) + 1)], .int .i64 j, .agg #[.int .u8 u.k, .int .i64 u.n]] w (DeedR w d) := by
  have hB := below3' w (.cells #[.int .u8 k, .int .i64 ((i : Int) + 1)] 27) (.cells #[.int .u8 u.k, .int .i64 u.n] 27) (.cells #[.string ⟨#[]⟩, .int .i64 0, .int .u8 0, .int .i64 0, .int .u8 0, .string ⟨#[]⟩, .slice none 0 0, .int .i64 0, .int .i64 0, .int .i64 0, .int .i64 0, .slice none 0 0, .int .i64 0] 100)
  have e0 := heap3_0 w (.cells #[.int .u8 k, .int .i64 ((i : Int) + 1)] 27) (.cells #[.int .u8 u.k, .int .i64 u.n] 27) (.cells #[.string ⟨#[]⟩, .int .i64 0, .int .u8 0, .int .i64 0, .int .u8 0, .string ⟨#[]⟩, .slice none 0 0, .int .i64 0, .int .i64 0, .int .i64 0, .int .i64 0, .slice none 0 0, .int .i64 0] 100)
  have e1 := heap3_1 w (.cells #[.int .u8 k, .int .i64 ((i : Int) + 1)] 27) (.cells #[.int .u8 u.k, .int .i64 u.n] 27) (.cells #[.string ⟨#[]⟩, .int .i64 0, .int .u8 0, .int .i64 0, .int .u8 0, .string ⟨#[]⟩, .slice none 0 0, .int .i64 0, .int .i64 0, .int .i64 0, .int .i64 0, .slice none 0 0, .int .i64 0] 100)
  have e2 := heap3_2 w (.cells #[.int .u8 k, .int .i64 ((i : Int) + 1)] 27) (.cells #[.int .u8 u.k, .int .i64 u.n] 27) (.cells #[.string ⟨#[]⟩, .int .i64 0, .int .u8 0, .int .i64 0, .int .u8 0, .string ⟨#[]⟩, .slice none 0 0, .int .i64 0, .int .i64 0, .int .i64 0, .int .i64 0, .slice none 0 0, .int .i64 0] 100)
  have l0 := (Array.getElem?_eq_some_iff.1 e0).1
  have l1 := (Array.getElem?_eq_some_iff.1 e1).1
  have l2 := (Array.getElem?_eq_some_iff.1 e2).1
  have HO := fun (W : World) (hb : Below w.heap.size w W) => object_in (h.below hb) c ⟨k, (i : Int) + 1⟩ ho
  have HF := fldO3
  have HD : Hid _ := hd
  clear hd ho
  go_enter Tryz.func258, Tryz.ntmps258
  go_wp2_with fail
  generalize hW : ((w.alloc (.cells #[.int .u8 k, .int .i64 ((i : Int) + 1)] 27)).alloc (.cells #[.int .u8 u.k, .int .i64 u.n] 27)).alloc (.cells #[.string ⟨#[]⟩, .int .i64 0, .int .u8 0, .int .i64 0, .int .u8 0, .string ⟨#[]⟩, .slice none 0 0, .int .i64 0, .int .i64 0, .int .i64 0, .int .i64 0, .slice none 0 0, .int .i64 0] 100) = W at *
  clear hW
  have hD := below_drew (Below.refl W.heap.size W)
  have hDU := below_drew (below1 W (.cells #[.int .u8 u.k, .int .i64 u.n] 27))
  have hBd := hB.trans (hD.mono hB.size)
  have hBU := hB.trans (hDU.mono hB.size)
  have FCS : ∀ W', Below W.heap.size W W' → (W'.cell? ⟨w.heap.size, 0, none⟩ = some (.int .u8 k) ∧ W'.cell? ⟨w.heap.size, 1, none⟩ = some (.int .i64 ((i : Int) + 1))) ∧ W'.cell? ⟨w.heap.size + 1, 0, none⟩ = some (.int .u8 u.k) ∧ W'.cell? ⟨w.heap.size + 1, 1, none⟩ = some (.int .i64 u.n) := fun W' hb => ⟨cell_row2 ((hb.block _ l0).trans e0), cell_row2 ((hb.block _ l1).trans e1)⟩
  have S0 := FCS _ hD
  have SU := FCS _ hDU
  have SU' := FCS _ (below1 W (.cells #[.int .u8 u.k, .int .i64 u.n] 27))
  have SW := FCS _ (Below.refl _ _)
  have HO1 := HO W.drew hBd
  have HO2 := HO (W.alloc (.cells #[.int .u8 u.k, .int .i64 u.n] 27)).drew hBU
  have hUb : (W.alloc (.cells #[.int .u8 u.k, .int .i64 u.n] 27)).drew.heap[W.heap.size]? = _ := heap_alloc_new W (.cells #[.int .u8 u.k, .int .i64 u.n] 27)
  clear HO
  have hn02 : w.heap.size ≠ w.heap.size + 1 + 1 := by omega
  have hn12 : w.heap.size + 1 ≠ w.heap.size + 1 + 1 := by omega
  go_region_held3 (fun W => (W.cell? ⟨w.heap.size, 0, none⟩ = some (.int .u8 k) ∧ W.cell? ⟨w.heap.size, 1, none⟩ = some (.int .i64 ((i : Int) + 1))) ∧ W.cell? ⟨w.heap.size + 1, 0, none⟩ = some (.int .u8 u.k) ∧ W.cell? ⟨w.heap.size + 1, 1, none⟩ = some (.int .i64 u.n)) (first | with_reducible exact S0 | with_reducible exact SW | with_reducible exact SU | with_reducible exact SU' | with_reducible exact S1 | with_reducible exact S1A | with_reducible exact S2 | with_reducible exact ⟨⟨(cell_set13 hn02).trans s0, (cell_set13 hn02).trans s1⟩, (cell_set13 hn12).trans s2, (cell_set13 hn12).trans s3⟩ | go_keep)
    (first
      | (go_at_call 175; (with_reducible refine HO1.mono ?_); clear HO1; rintro e w1 ⟨q, co, rfl, hvq, -, hB1⟩; have hD1 := hD.trans (hB1.mono hD.size); have S1 := FCS _ hD1; have hBA := hD1.trans ((below1 w1 (.cells #[.int .u8 u.k, .int .i64 u.n] 27)).mono hD1.size); have S1A := FCS _ hBA; obtain ⟨⟨s0, s1⟩, s2, s3⟩ := FCS _ hBA; have hr := (hBA.block _ l2).trans e2; have hUU := heap_alloc_new w1 (.cells #[.int .u8 u.k, .int .i64 u.n] 27); obtain ⟨⟨z0, z1, z2, z3, z4, z5, z6, z7, z8, z9, z10, z11, z12⟩, t0, t1, t2, t3, t4, t5, t6, t7, t8, t9, t10, t11, t12⟩ := cell_row13 hr)
      | (go_at_call 175; (with_reducible refine HO2.mono ?_); clear HO2; rintro e w1 ⟨q, co, rfl, hvq, -, hB1⟩; have hBA := hDU.trans (hB1.mono hDU.size); have S2 := FCS _ hBA; obtain ⟨⟨s0, s1⟩, s2, s3⟩ := FCS _ hBA; have hr := (hBA.block _ l2).trans e2; have hUU := (hB1.block _ (Array.getElem?_eq_some_iff.1 hUb).1).trans hUb; obtain ⟨⟨z0, z1, z2, z3, z4, z5, z6, z7, z8, z9, z10, z11, z12⟩, t0, t1, t2, t3, t4, t5, t6, t7, t8, t9, t10, t11, t12⟩ := cell_row13 hr))
  all_goals
    go_wp2
    refine bodyPost_ret (results_cell_row (by rfl) _ _ (w.heap.size + 1 + 1) 100 _ _ _ (by rfl) (set13_row hr) Tryz.underlying100 (by rfl) infoDeed) (by rfl) ?_
    rw [HD.out]
    exact deed_fin hr (by omega) (setD ((i : Int) + 1) j u o.room) (q := none) (c := 0) ⟨VT.none _, fun _ => rfl⟩ (vt_one hUU) (hB.trans (hBA.mono hB.size))

set_option maxRecDepth 20000 in
set_option maxHeartbeats 4000000 in
theorem adds_pl {p : Option Addr} {S : List Om} (h : Ask w p S) (c : Nat) (k : Nat) {i : Nat} {o : Om} (ho : leadO S ⟨k, (i : Int) + 1⟩ = some o) (least : Nat) (hle : least ≤ 8) {q2 : Option Addr} {more : List Vl} (hm2 : more.length ≤ 2) (hr0 : 0 ≤ o.room) (hr1 : o.room ≤ 1099511627776) (R N : Int)
    (hR : (o.room < (o.l.length : Int) + more.length ∧ R = max (least : Int) (2 * o.room) ∧ N = 1 + 2 * R) ∨ ((o.l.length : Int) + more.length ≤ o.room ∧ R = o.room ∧ N = 0)) :
    Calls Tryz.prog 259 #[.slice p S.length c, .agg #[.int .u8 k, .int .i64 ((i : Int) + 1)], .int .i64 least, .slice q2 more.length more.length] w fun e w' => e = .returned (.agg #[.string ⟨#[]⟩, .int .i64 N, .int .u8 0, .int .i64 0, .int .u8 0, .string ⟨#[]⟩, .slice none 0 0, .int .i64 0, .int .i64 0, .int .i64 ((i : Int) + 1), .int .i64 o.l.length, .slice q2 more.length more.length, .int .i64 R]) ∧ Below w.heap.size w w' := by
  have hB := below2' w (.cells #[.int .u8 k, .int .i64 ((i : Int) + 1)] 27) (.cells #[.string ⟨#[]⟩, .int .i64 0, .int .u8 0, .int .i64 0, .int .u8 0, .string ⟨#[]⟩, .slice none 0 0, .int .i64 0, .int .i64 0, .int .i64 0, .int .i64 0, .slice none 0 0, .int .i64 0] 100)
  have e0 := (Below.heap_alloc _ (.cells #[.string ⟨#[]⟩, .int .i64 0, .int .u8 0, .int .i64 0, .int .u8 0, .string ⟨#[]⟩, .slice none 0 0, .int .i64 0, .int .i64 0, .int .i64 0, .int .i64 0, .slice none 0 0, .int .i64 0] 100) w.heap.size (by simp)).trans (heap_alloc_new w (.cells #[.int .u8 k, .int .i64 ((i : Int) + 1)] 27))
  have e1 := heap_two w (.cells #[.int .u8 k, .int .i64 ((i : Int) + 1)] 27) (.cells #[.string ⟨#[]⟩, .int .i64 0, .int .u8 0, .int .i64 0, .int .u8 0, .string ⟨#[]⟩, .slice none 0 0, .int .i64 0, .int .i64 0, .int .i64 0, .int .i64 0, .slice none 0 0, .int .i64 0] 100)
  have hlo := h.vals o (leadO_mem ho)
  have HO := object_in (h.below hB) c ⟨k, (i : Int) + 1⟩ ho
  obtain ⟨x0, x1⟩ := cell_row2 e0
  have hRR := hR
  clear hR ho
  go_enter Tryz.func259, Tryz.ntmps259
  go_wp2_with (first
    | (go_at_call 175; (with_reducible refine HO.mono ?_); clear HO; rintro e w1 ⟨qo, co, rfl, -, -, hB1⟩; refine halt_here ?_))
  unfold Halted
  have l0 := (Array.getElem?_eq_some_iff.1 e0).1
  have l1 := (Array.getElem?_eq_some_iff.1 e1).1
  have hB2 := hB1.trans ((below1 w1 (.cells #[.int .u8 o.k, .string o.s, .slice qo o.l.length co, .int .i64 o.room, .int .i64 o.fn] 96)).mono hB1.size)
  have hBw2 := hB.trans (hB2.mono hB.size)
  have f0 := (hB2.block _ l0).trans e0
  have hO2 := heap_alloc_new w1 (.cells #[.int .u8 o.k, .string o.s, .slice qo o.l.length co, .int .i64 o.room, .int .i64 o.fn] 96)
  have hB3 := hBw2.trans ((below1 (w1.alloc (.cells #[.int .u8 o.k, .string o.s, .slice qo o.l.length co, .int .i64 o.room, .int .i64 o.fn] 96)) (.cells #[.string ⟨#[]⟩, .int .i64 0, .int .u8 0, .int .i64 0, .int .u8 0, .string ⟨#[]⟩, .slice none 0 0, .int .i64 0, .int .i64 0, .int .i64 ((i : Int) + 1), .int .i64 o.l.length, .slice q2 more.length more.length, .int .i64 o.room] 100)).mono hBw2.size)
  have hB23 := hB2.trans ((below1 (w1.alloc (.cells #[.int .u8 o.k, .string o.s, .slice qo o.l.length co, .int .i64 o.room, .int .i64 o.fn] 96)) (.cells #[.string ⟨#[]⟩, .int .i64 0, .int .u8 0, .int .i64 0, .int .u8 0, .string ⟨#[]⟩, .slice none 0 0, .int .i64 0, .int .i64 0, .int .i64 ((i : Int) + 1), .int .i64 o.l.length, .slice q2 more.length more.length, .int .i64 o.room] 100)).mono hB2.size)
  have g0 := (hB23.block _ l0).trans e0
  have g1 := (hB23.block _ l1).trans e1
  have hO3 := ((below1 (w1.alloc (.cells #[.int .u8 o.k, .string o.s, .slice qo o.l.length co, .int .i64 o.room, .int .i64 o.fn] 96)) (.cells #[.string ⟨#[]⟩, .int .i64 0, .int .u8 0, .int .i64 0, .int .u8 0, .string ⟨#[]⟩, .slice none 0 0, .int .i64 0, .int .i64 0, .int .i64 ((i : Int) + 1), .int .i64 o.l.length, .slice q2 more.length more.length, .int .i64 o.room] 100)).block _ (Array.getElem?_eq_some_iff.1 hO2).1).trans hO2
  have hD3 := heap_two w1 (.cells #[.int .u8 o.k, .string o.s, .slice qo o.l.length co, .int .i64 o.room, .int .i64 o.fn] 96) (.cells #[.string ⟨#[]⟩, .int .i64 0, .int .u8 0, .int .i64 0, .int .u8 0, .string ⟨#[]⟩, .slice none 0 0, .int .i64 0, .int .i64 0, .int .i64 ((i : Int) + 1), .int .i64 o.l.length, .slice q2 more.length more.length, .int .i64 o.room] 100)
  clear x0 x1
  obtain ⟨x0, x1⟩ := cell_row2 f0
  obtain ⟨⟨o0, o1, o2, o3, o4⟩, -⟩ := cell_row5 hO2
  obtain ⟨⟨p0, p1, p2, p3, p4⟩, -⟩ := cell_row5 hO3
  obtain ⟨⟨d0, d1, d2, d3, d4, d5, d6, d7, d8, d9, d10, d11, d12⟩, k0, k1, k2, k3, k4, k5, k6, k7, k8, k9, k10, k11, k12⟩ := cell_row13 hD3
  have hgap : w.heap.size + 2 ≤ w1.heap.size := by have := hB1.size; simp at this; omega
  go_upto_region 3 with fail
  generalize hW2 : ((w1.alloc (.cells #[.int .u8 o.k, .string o.s, .slice qo o.l.length co, .int .i64 o.room, .int .i64 o.fn] 96)).alloc (.cells #[.string ⟨#[]⟩, .int .i64 0, .int .u8 0, .int .i64 0, .int .u8 0, .string ⟨#[]⟩, .slice none 0 0, .int .i64 0, .int .i64 0, .int .i64 ((i : Int) + 1), .int .i64 o.l.length, .slice q2 more.length more.length, .int .i64 o.room] 100)) = W2 at *
  clear hW2 f0 hO2 x0 x1 o0 o1 o2 o3 o4
  have hne : w.heap.size + 1 ≠ w1.heap.size + 1 := by omega
  rcases hRR with ⟨hlt, hRe, hNe⟩ | ⟨hge, hRe, hNe⟩
  · have hmx0 : (0 : Int) ≤ R := by omega
    have hmx1 : R ≤ 2199023255560 := by omega
    have hRe' : max (least : Int) (2 * o.room) = R := hRe.symm
    have hNN : Hid _ := hNe
    clear hRe hNe
    have q1 := set_at12 hD3 (.int .i64 R)
    have q2' := set_at1 q1 (.int .i64 (1 + 2 * R))
    have hr := (heap_setCell_other (W2.setCell ⟨w1.heap.size + 1, 12, none⟩ (.int .i64 R)) ⟨w1.heap.size + 1, 1, none⟩ (w.heap.size + 1) (.int .i64 (1 + 2 * R)) hne).trans ((heap_setCell_other W2 ⟨w1.heap.size + 1, 12, none⟩ (w.heap.size + 1) (.int .i64 R) hne).trans g1)
    have hB5 := below_set (below_set hB3 (g := w1.heap.size + 1) (i := 12) (by omega) (.int .i64 R)) (g := w1.heap.size + 1) (i := 1) (by omega) (.int .i64 (1 + 2 * R))
    go_upto_region 6 with fail
    generalize hW3 : (W2.setCell ⟨w1.heap.size + 1, 12, none⟩ (.int .i64 R)).setCell ⟨w1.heap.size + 1, 1, none⟩ (.int .i64 (1 + 2 * R)) = W3 at *
    clear hW3 q1 d0 d1 d2 d3 d4 d5 d6 d7 d8 d9 d10 d11 d12 k0 k1 k2 k3 k4 k5 k6 k7 k8 k9 k10 k11 k12 hD3 p0 p1 p2 p3 p4
    obtain ⟨⟨v0, v1, v2, v3, v4, v5, v6, v7, v8, v9, v10, v11, v12⟩, -⟩ := cell_row13 q2'
    obtain ⟨⟨z0, z1, z2, z3, z4, z5, z6, z7, z8, z9, z10, z11, z12⟩, t0, t1, t2, t3, t4, t5, t6, t7, t8, t9, t10, t11, t12⟩ := cell_row13 hr
    go_wp2
    refine bodyPost_ret (results_cell_row (by rfl) _ _ (w.heap.size + 1) 100 _ _ _ (by rfl) (set13_row hr) Tryz.underlying100 (by rfl) infoDeed) (by rfl) ?_
    exact ⟨by rw [hNN.out], below_set13 hB5 (by omega) _ _ _ _ _ _ _ _ _ _ _ _ _⟩
  · have hge' : ¬ (o.room < (o.l.length : Int) + more.length) := by omega
    have hNN : Hid _ := And.intro hRe hNe
    clear hRe hNe
    go_upto_region 6 with fail
    have hr := g1
    clear p0 p1 p2 p3 p4 k0 k1 k2 k3 k4 k5 k6 k7 k8 k9 k10 k11 k12
    obtain ⟨⟨z0, z1, z2, z3, z4, z5, z6, z7, z8, z9, z10, z11, z12⟩, t0, t1, t2, t3, t4, t5, t6, t7, t8, t9, t10, t11, t12⟩ := cell_row13 hr
    go_wp2
    refine bodyPost_ret (results_cell_row (by rfl) _ _ (w.heap.size + 1) 100 _ _ _ (by rfl) (set13_row hr) Tryz.underlying100 (by rfl) infoDeed) (by rfl) ?_
    exact ⟨by rw [hNN.out.1, hNN.out.2], below_set13 hB3 (by omega) _ _ _ _ _ _ _ _ _ _ _ _ _⟩


end Go.Proofs.YtgokofomoachaaaGreatDoor
