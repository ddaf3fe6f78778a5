/- prim: did: an operation that was worked out is done on a copy. -/
import Derived.Test.YtgokofomoachaaaGreatDoorPnOn2
import Derived.Test.YtgokofomoachaaaGreatDoorPnMake
namespace Go.Proofs.YtgokofomoachaaaGreatDoor
set_option linter.unusedVariables false
set_option linter.unusedSimpArgs false
open Go.RowKit

variable {w : World}

/-- What an operation comes to, plainly. -/
structure Dv where
  S : List Om
  v : Vl
  t : ByteArray
  n : Int

theorem hts_mono {base base' : Nat} {W : World} {S : List Om} {v : Value} (h : ∃ ts, ts.map Po.o = S ∧ OwnSt base v ts W) (hb : base' ≤ base) : ∃ ts, ts.map Po.o = S ∧ OwnSt base' v ts W := by
  obtain ⟨ts, hm, ho⟩ := h
  exact ⟨ts, hm, ho.mono hb⟩

theorem did_finM {W : World} {r : Nat} {a0 a1 a2 a3 a4 : Value} (hr : W.heap[r]? = some (.cells #[a0, a1, a2, a3, a4] 33 (0, 0))) (hge : w.heap.size ≤ r) {S : List Om} {n : Nat} (hn : S.length = n) {p : Option Addr} {c : Nat} (hts : ∃ ts, ts.map Po.o = S ∧ OwnSt w.heap.size (.slice p n c) ts W) (hB : Below w.heap.size w W) (v : Vl) (t : ByteArray) (m : Int) :
    DidR w S v t m (.returned (.agg #[.slice p n c, .int .u8 v.k, .int .i64 v.n, .string t, .int .i64 m])) (((((W.setCell ⟨r, 0, none⟩ (.slice p n c)).setCell ⟨r, 1, none⟩ (.int .u8 v.k)).setCell ⟨r, 2, none⟩ (.int .i64 v.n)).setCell ⟨r, 3, none⟩ (.string t)).setCell ⟨r, 4, none⟩ (.int .i64 m)) := by
  subst hn
  exact did_fin hr hge hts hB v t m

set_option maxRecDepth 20000 in
set_option maxHeartbeats 4000000 in
theorem did_old {p : Option Addr} {S : List Om} (h : Ask w p S) (c : Nat) (d : Dd) {q : Option Addr} {cq : Nat} {q2 : Option Addr} {S' : List Om} (hlen : S'.length = S.length)
    (HOn : ∀ (W : World) (base : Nat) (p1 : Option Addr) (c1 : Nat) (ts : List Po), Below w.heap.size w W → base ≤ W.heap.size → ts.map Po.o = S → OwnSt base (.slice p1 S.length c1) ts W → Calls Tryz.prog 157 #[.agg #[.int .i64 d.of_, .int .i64 d.at_, .slice q2 d.l2.length d.l2.length, .int .i64 d.r2], .slice p1 S.length c1] W fun e w' => e = .returned (.tuple #[]) ∧ (∃ ts', ts'.map Po.o = S' ∧ OwnSt base (.slice p1 S.length c1) ts' w') ∧ Below base W w' ∧ ∀ k, k < W.heap.size → (Value.slice p1 S.length c1).ownBlock ≠ some k → (∀ y ∈ ts, y.lv.ownBlock ≠ some k) → w'.heap[k]? = W.heap[k]?) :
    Calls Tryz.prog 51 #[.slice p S.length c, .agg #[.string d.t, .int .i64 d.n, .int .u8 d.v.k, .int .i64 d.v.n, .int .u8 0, .string d.o.s, .slice q d.o.l.length cq, .int .i64 d.o.room, .int .i64 d.o.fn, .int .i64 d.of_, .int .i64 d.at_, .slice q2 d.l2.length d.l2.length, .int .i64 d.r2]] w (DidR w S' d.v d.t d.n) := by
  have hB0 := below2' w (.cells #[.string d.t, .int .i64 d.n, .int .u8 d.v.k, .int .i64 d.v.n, .int .u8 0, .string d.o.s, .slice q d.o.l.length cq, .int .i64 d.o.room, .int .i64 d.o.fn, .int .i64 d.of_, .int .i64 d.at_, .slice q2 d.l2.length d.l2.length, .int .i64 d.r2] 100) (.cells #[.slice none 0 0, .int .u8 0, .int .i64 0, .string ⟨#[]⟩, .int .i64 0] 33)
  have hb0 := (Below.heap_alloc _ (.cells #[.slice none 0 0, .int .u8 0, .int .i64 0, .string ⟨#[]⟩, .int .i64 0] 33) w.heap.size (by simp)).trans (heap_alloc_new w (.cells #[.string d.t, .int .i64 d.n, .int .u8 d.v.k, .int .i64 d.v.n, .int .u8 0, .string d.o.s, .slice q d.o.l.length cq, .int .i64 d.o.room, .int .i64 d.o.fn, .int .i64 d.of_, .int .i64 d.at_, .slice q2 d.l2.length d.l2.length, .int .i64 d.r2] 100))
  have hb1 := heap_two w (.cells #[.string d.t, .int .i64 d.n, .int .u8 d.v.k, .int .i64 d.v.n, .int .u8 0, .string d.o.s, .slice q d.o.l.length cq, .int .i64 d.o.room, .int .i64 d.o.fn, .int .i64 d.of_, .int .i64 d.at_, .slice q2 d.l2.length d.l2.length, .int .i64 d.r2] 100) (.cells #[.slice none 0 0, .int .u8 0, .int .i64 0, .string ⟨#[]⟩, .int .i64 0] 33)
  have H1 := (h.below hB0).copyOf c
  go_enter Tryz.func51, Tryz.ntmps51
  go_wp2_with (first
    | (go_at_call 155; (with_reducible refine H1.mono ?_); clear H1; rintro e w1 ⟨v1, rfl, ⟨ts, hm, ho⟩, hB1⟩; obtain ⟨p1, c1, rfl⟩ := own_len ho hm; refine halt_here ?_))
  unfold Halted
  have l0 := (Array.getElem?_eq_some_iff.1 hb0).1
  have l1 := (Array.getElem?_eq_some_iff.1 hb1).1
  have hBA := below1 w1 (.cells #[.int .u8 d.v.k, .int .i64 d.v.n] 27)
  have hB2 := hB1.trans (hBA.mono hB1.size)
  have hBw := hB0.trans (hB2.mono hB0.size)
  have hV := heap_alloc_new w1 (.cells #[.int .u8 d.v.k, .int .i64 d.v.n] 27)
  have ho2 := ho.below hBA
  have HO := HOn _ _ p1 c1 ts hBw hB2.size hm ho2
  have e0 := (hB1.block _ l0).trans hb0
  have f0 := (hB2.block _ l0).trans hb0
  obtain ⟨⟨x0, x1, x2, x3, x4, x5, x6, x7, x8, x9, x10, x11, x12⟩, -⟩ := cell_row13 e0
  have HY := cell_row13 f0
  obtain ⟨⟨s0, s1, s2, s3, s4, s5, s6, s7, s8, s9, s10, s11, s12⟩, -⟩ := HY
  have hVlt : ∀ (k : Nat), k = w1.heap.size → (Value.slice p1 S.length c1).ownBlock ≠ some k ∧ ∀ y ∈ ts, y.lv.ownBlock ≠ some k := fun k hk => ⟨fun e => by have := (ho.row.lt k e).2; omega, fun y hy e => by have := ((ho.lst y hy).lt k e).2; omega⟩
  clear HOn h hm ho ho2
  go_wp2_with (first
    | (go_at_call 157; (with_reducible refine HO.mono ?_); clear HO; rintro e w3 ⟨rfl, hts3, hB3, hfr⟩; refine halt_here ?_))
  unfold Halted
  have hV3 := (hfr w1.heap.size (by simp) (hVlt _ rfl).1 (hVlt _ rfl).2).trans hV
  have g0 := (hB3.block _ l0).trans f0
  have g1 := (hB3.block _ l1).trans ((hB2.block _ l1).trans hb1)
  have hBw3 : Below w.heap.size w w3 := hBw.trans (hB3.mono hB0.size)
  obtain ⟨z0, z1⟩ := cell_row2 hV3
  clear x0 x1 x2 x3 x4 x5 x6 x7 x8 x9 x10 x11 x12 s0 s1 s2 s3 s4 s5 s6 s7 s8 s9 s10 s11 s12
  obtain ⟨⟨x0, x1, x2, x3, x4, x5, x6, x7, x8, x9, x10, x11, x12⟩, -⟩ := cell_row13 g0
  obtain ⟨⟨r0, r1, r2, r3, r4⟩, y0, y1, y2, y3, y4⟩ := cell_row5 g1
  clear hfr hVlt hV hV3 hB3
  go_wp2
  refine bodyPost_ret (results_cell_row (by rfl) _ _ (w.heap.size + 1) 33 _ _ _ (by rfl) (set5_row g1) Tryz.underlying33 (by rfl) infoDid) (by rfl) ?_
  exact did_finM g1 (by omega) hlen (hts_mono hts3 hB0.size) hBw3 d.v d.t d.n

theorem OwnSt.keptB {base : Nat} {v : Value} {ts : List Po} {w w' : World} (h : OwnSt base v ts w) (hrow : ∀ k, v.ownBlock = some k → w'.heap[k]? = w.heap[k]?) (hl : ∀ y ∈ ts, ∀ k, y.lv.ownBlock = some k → w'.heap[k]? = w.heap[k]?) : OwnSt base v ts w' :=
  ⟨row_kept h.row hrow, fun x hx => row_kept (h.lst x hx) (hl x hx), h.one⟩

theorem set2_row' {W : World} {g : Nat} {a b x0 x1 : Value} {t : TypeId} (h : W.heap[g]? = some (.cells #[a, b] t (0, 0))) : ((W.setCell ⟨g, 0, none⟩ x0).setCell ⟨g, 1, none⟩ x1).heap[g]? = some (.cells #[x0, x1] t (0, 0)) := by
  have h1 := heap_setCell_same W g 0 _ t x0 h
  have h2 := heap_setCell_same _ g 1 _ t x1 h1
  simpa using h2

set_option maxRecDepth 20000 in
set_option maxHeartbeats 4000000 in
theorem did_new {p : Option Addr} {S : List Om} (h : Ask w p S) (c : Nat) (d : Dd) {q : Option Addr} {cq : Nat} {q2 : Option Addr} (hv : Vals w q d.o.l) (hl : d.o.l.length ≤ 1000000) (hs : d.o.s.size ≤ 1048576) (hk0 : d.o.k ≠ 0) (hof : d.of_ = 0) :
    Calls Tryz.prog 51 #[.slice p S.length c, .agg #[.string d.t, .int .i64 d.n, .int .u8 d.v.k, .int .i64 d.v.n, .int .u8 d.o.k, .string d.o.s, .slice q d.o.l.length cq, .int .i64 d.o.room, .int .i64 d.o.fn, .int .i64 d.of_, .int .i64 d.at_, .slice q2 d.l2.length d.l2.length, .int .i64 d.r2]] w (DidR w (S ++ [d.o]) ⟨d.o.k, (S.length : Int) + 1⟩ d.t d.n) := by
  rw [hof]
  have hB0 := below2' w (.cells #[.string d.t, .int .i64 d.n, .int .u8 d.v.k, .int .i64 d.v.n, .int .u8 d.o.k, .string d.o.s, .slice q d.o.l.length cq, .int .i64 d.o.room, .int .i64 d.o.fn, .int .i64 0, .int .i64 d.at_, .slice q2 d.l2.length d.l2.length, .int .i64 d.r2] 100) (.cells #[.slice none 0 0, .int .u8 0, .int .i64 0, .string ⟨#[]⟩, .int .i64 0] 33)
  have hb0 := (Below.heap_alloc _ (.cells #[.slice none 0 0, .int .u8 0, .int .i64 0, .string ⟨#[]⟩, .int .i64 0] 33) w.heap.size (by simp)).trans (heap_alloc_new w (.cells #[.string d.t, .int .i64 d.n, .int .u8 d.v.k, .int .i64 d.v.n, .int .u8 d.o.k, .string d.o.s, .slice q d.o.l.length cq, .int .i64 d.o.room, .int .i64 d.o.fn, .int .i64 0, .int .i64 d.at_, .slice q2 d.l2.length d.l2.length, .int .i64 d.r2] 100))
  have hb1 := heap_two w (.cells #[.string d.t, .int .i64 d.n, .int .u8 d.v.k, .int .i64 d.v.n, .int .u8 d.o.k, .string d.o.s, .slice q d.o.l.length cq, .int .i64 d.o.room, .int .i64 d.o.fn, .int .i64 0, .int .i64 d.at_, .slice q2 d.l2.length d.l2.length, .int .i64 d.r2] 100) (.cells #[.slice none 0 0, .int .u8 0, .int .i64 0, .string ⟨#[]⟩, .int .i64 0] 33)
  have H1 := (h.below hB0).copyOf c
  have hSl := h.len
  have hk' : ¬ ((d.o.k : Int) = 0) := by omega
  obtain ⟨i0, hi, hz0, hz1, hz2⟩ := info_parts infoO5
  go_enter Tryz.func51, Tryz.ntmps51
  go_wp2_with (first
    | (go_at_call 155; (with_reducible refine H1.mono ?_); clear H1; rintro e w1 ⟨v1, rfl, ⟨ts, hm, ho⟩, hB1⟩; obtain ⟨p1, c1, rfl⟩ := own_len ho hm; refine halt_here ?_))
  unfold Halted
  have l0 := (Array.getElem?_eq_some_iff.1 hb0).1
  have l1 := (Array.getElem?_eq_some_iff.1 hb1).1
  have hBA := below1 w1 (.cells #[.int .u8 d.v.k, .int .i64 d.v.n] 27)
  have hB2 := hB1.trans (hBA.mono hB1.size)
  have hBw := hB0.trans (hB2.mono hB0.size)
  have hV := heap_alloc_new w1 (.cells #[.int .u8 d.v.k, .int .i64 d.v.n] 27)
  have e0 := (hB1.block _ l0).trans hb0
  have f0 := (hB2.block _ l0).trans hb0
  obtain ⟨⟨x0, x1, x2, x3, x4, x5, x6, x7, x8, x9, x10, x11, x12⟩, -⟩ := cell_row13 e0
  obtain ⟨⟨s0, s1, s2, s3, s4, s5, s6, s7, s8, s9, s10, s11, s12⟩, -⟩ := cell_row13 f0
  have HR := renewed_in d.o cq (hv.below hBw) hl hs
  unfold objV poV at HR
  have hsz1 : w.heap.size + 2 ≤ w1.heap.size := by have := hB1.size; simp at this; omega
  go_wp2_with (first
    | (go_at_call 156; (with_reducible refine HR.mono ?_); clear HR; rintro e wr ⟨lv, rfl, hown, hBR⟩; obtain ⟨pl, cl, rfl, -⟩ := own_slice hown; refine halt_here ?_))
  unfold Halted
  have hBA2 := below1 wr (.cells #[.int .u8 d.o.k, .string d.o.s, .slice pl d.o.l.length cl, .int .i64 d.o.room, .int .i64 d.o.fn] 96)
  have hBr := hBR.trans (hBA2.mono hBR.size)
  have hrowS := mk_row (X := (.cells #[.int .u8 d.o.k, .string d.o.s, .slice pl d.o.l.length cl, .int .i64 d.o.room, .int .i64 d.o.fn] 96)) ho hm (hBA.trans (hBR.mono hBA.size)) (show w.heap.size ≤ _ from hB0.size)
  have hnews := pcell_news (x := ⟨d.o, .slice pl d.o.l.length cl⟩) (heap_alloc_new wr (.cells #[.int .u8 d.o.k, .string d.o.s, .slice pl d.o.l.length cl, .int .i64 d.o.room, .int .i64 d.o.fn] 96))
  have hbw : w.heap.size ≤ (wr.alloc (.cells #[.int .u8 d.o.k, .string d.o.s, .slice pl d.o.l.length cl, .int .i64 d.o.room, .int .i64 d.o.fn] 96)).heap.size := by have := hBR.size; simp at this ⊢; omega
  have h0r := (hBr.block _ (Array.getElem?_eq_some_iff.1 f0).1).trans f0
  have h1r := (hBr.block _ (by have := hB2.size; simp at this ⊢; omega)).trans ((hB2.block _ l1).trans hb1)
  have hVr := (hBr.block _ (Array.getElem?_eq_some_iff.1 hV).1).trans hV
  clear x0 x1 x2 x3 x4 x5 x6 x7 x8 x9 x10 x11 x12 s0 s1 s2 s3 s4 s5 s6 s7 s8 s9 s10 s11 s12
  go_wp2_with (first
    | (at_builtin; refine wpList_append_lies _ rfl _ _ 23 rfl w.heap.size 96 i0 (.agg #[.int .u8 0, .string ⟨#[]⟩, .slice none 0 0, .int .i64 0, .int .i64 0]) 5 64 Tryz.underlying23 hi hz0 hz1 hz2 rfl (by decide) _ S.length _ rfl hrowS ⟨wr.heap.size, 0, none⟩ 1 1 (pcell ⟨d.o, .slice pl d.o.l.length cl⟩) rfl rfl hnews (pcell_one _ _) (by omega) (by unfold maxLen; omega) (by omega) hbw _ rfl ?_; intro g4 c4 w4 ho4 hg4 hat4 hlt4; refine halt_here ?_))
  unfold Halted
  have hW0 : w.heap.size + 2 = ((w.alloc (.cells #[.string d.t, .int .i64 d.n, .int .u8 d.v.k, .int .i64 d.v.n, .int .u8 d.o.k, .string d.o.s, .slice q d.o.l.length cq, .int .i64 d.o.room, .int .i64 d.o.fn, .int .i64 0, .int .i64 d.at_, .slice q2 d.l2.length d.l2.length, .int .i64 d.r2] 100)).alloc (.cells #[.slice none 0 0, .int .u8 0, .int .i64 0, .string ⟨#[]⟩, .int .i64 0] 33)).heap.size := by simp
  have hlt := fun k e => ho.row.lt k e
  have hk4 : ∀ k, k < (wr.alloc (.cells #[.int .u8 d.o.k, .string d.o.s, .slice pl d.o.l.length cl, .int .i64 d.o.room, .int .i64 d.o.fn] 96)).heap.size → (Value.slice p1 S.length c1).ownBlock ≠ some k → w4.heap[k]? = (wr.alloc (.cells #[.int .u8 d.o.k, .string d.o.s, .slice pl d.o.l.length cl, .int .i64 d.o.room, .int .i64 d.o.fn] 96)).heap[k]? := fun k h1 h2 => hg4.block k h1 (fun e => h2 e.symm)
  have d4 := (hk4 _ (Array.getElem?_eq_some_iff.1 h0r).1 (fun e => by have := (hlt _ e).1; omega)).trans h0r
  have r4 := (hk4 _ (Array.getElem?_eq_some_iff.1 h1r).1 (fun e => by have := (hlt _ e).1; omega)).trans h1r
  have V4 := (hk4 _ (Array.getElem?_eq_some_iff.1 hVr).1 (fun e => by have := (hlt _ e).2; omega)).trans hVr
  have hml : ts.length = S.length := by rw [← hm]; simp
  have hO4 : OwnSt w.heap.size (.slice (some ⟨g4, 0, none⟩) (S.length + 1) c4) (ts ++ [⟨d.o, .slice pl d.o.l.length cl⟩]) w4 := OwnSt.snoc (x := ⟨d.o, .slice pl d.o.l.length cl⟩) (((ho.mono hB0.size).below (hBA.trans (hBR.mono hBA.size))).below hBA2) (row_below (row_mono2 hown hBw.size) hBA2)
    (fun y hy k e1 e2 => by have := ((ho.lst y hy).lt k e1).2; have := (hown.lt k e2).1; simp at this; omega) (by rw [hml]; exact ho4) hg4
  have hB4 : Below w.heap.size w w4 := (hBw.trans (hBr.mono hBw.size)).trans (rbelow_grown hg4 (fun g e => by have := (hlt g e).1; omega) hbw)
  have hneV : ∀ (k : Nat) (y : Po), (ts ++ [(⟨d.o, .slice pl d.o.l.length cl⟩ : Po)])[k]? = some y → ∀ b, y.lv.ownBlock = some b → b ≠ w1.heap.size := fun k y hy b e hb => by
    rcases List.mem_append.1 (List.mem_of_getElem? hy) with hy | hy
    · have := ((ho.lst y hy).lt b e).2; omega
    · simp at hy; subst hy
      have := (hown.lt b e).1; simp at this; omega
  have hneg : g4 ≠ w1.heap.size := fun e => by
    obtain ⟨cur, hcur⟩ := row_obj ho4 (k := g4) rfl
    rw [e, V4] at hcur; cases hcur
  obtain ⟨⟨x0, x1, x2, x3, x4, x5, x6, x7, x8, x9, x10, x11, x12⟩, -⟩ := cell_row13 d4
  obtain ⟨v0, v1⟩ := cell_row2 V4
  have fv0 := frozen_of_row w4 _ 0 _ _ V4
  have fv1 := frozen_of_row w4 _ 1 _ _ V4
  have HNO : Hid _ := And.intro hO4 (And.intro hB4 (And.intro hneV (And.intro hm hsz1)))
  have HD : Hid _ := And.intro d4 (And.intro r4 V4)
  have hnd : w.heap.size ≠ w1.heap.size := by omega
  have hnr : w.heap.size + 1 ≠ w1.heap.size := by omega
  have d5 := (heap_setCell_other (w4.setCell ⟨w1.heap.size, 0, none⟩ (.int .u8 d.o.k)) ⟨w1.heap.size, 1, none⟩ w.heap.size (.int .i64 ((S.length : Int) + 1)) hnd).trans ((heap_setCell_other w4 ⟨w1.heap.size, 0, none⟩ w.heap.size (.int .u8 d.o.k) hnd).trans d4)
  obtain ⟨⟨s0, s1, s2, s3, s4, s5, s6, s7, s8, s9, s10, s11, s12⟩, -⟩ := cell_row13 d5
  have hmx : (S.length : Int) + 1 ≤ 1048577 := by omega
  clear hlt hk4 h0r h1r hVr hV hown hBR hBA2 hBr hrowS hnews ho4 hg4 hat4 hlt4 hBA hB2 hBw e0 f0 hB1 hO4 hB4 hneV ho hm hbw h
  have HN := on_none (.slice (some ⟨g4, 0, none⟩) (S.length + 1) c4) d.at_ d.r2 q2 d.l2.length d.l2.length ((w4.setCell ⟨w1.heap.size, 0, none⟩ (.int .u8 d.o.k)).setCell ⟨w1.heap.size, 1, none⟩ (.int .i64 ((S.length : Int) + 1)))
  go_wp2_with (first
    | (go_at_call 157; (with_reducible refine HN.mono ?_); clear HN; rintro e w6 ⟨rfl, hB6⟩; refine halt_here ?_))
  unfold Halted
  obtain ⟨d4, r4, V4⟩ := HD.out
  obtain ⟨hO4, hB4, hneV, hm, -⟩ := HNO.out
  have V5 := set2_row' (x0 := .int .u8 d.o.k) (x1 := .int .i64 ((S.length : Int) + 1)) V4
  have r5 := (heap_setCell_other (w4.setCell ⟨w1.heap.size, 0, none⟩ (.int .u8 d.o.k)) ⟨w1.heap.size, 1, none⟩ (w.heap.size + 1) (.int .i64 ((S.length : Int) + 1)) hnr).trans ((heap_setCell_other w4 ⟨w1.heap.size, 0, none⟩ (w.heap.size + 1) (.int .u8 d.o.k) hnr).trans r4)
  have V6 := (hB6.block _ (Array.getElem?_eq_some_iff.1 V5).1).trans V5
  have r6 := (hB6.block _ (Array.getElem?_eq_some_iff.1 r5).1).trans r5
  have d6 := (hB6.block _ (Array.getElem?_eq_some_iff.1 d5).1).trans d5
  have hk5 : ∀ k, k ≠ w1.heap.size → ((w4.setCell ⟨w1.heap.size, 0, none⟩ (.int .u8 d.o.k)).setCell ⟨w1.heap.size, 1, none⟩ (.int .i64 ((S.length : Int) + 1))).heap[k]? = w4.heap[k]? := fun k hk => by rw [heap_setCell_other _ ⟨w1.heap.size, 1, none⟩ _ _ hk, heap_setCell_other _ ⟨w1.heap.size, 0, none⟩ _ _ hk]
  have hO6 := (hO4.keptB (fun k e => hk5 k (fun e2 => by cases e; exact hneg e2)) (fun y hy k e => by obtain ⟨a, ha⟩ := List.getElem?_of_mem hy; exact hk5 k (hneV a y ha k e))).below hB6
  have hB6' : Below w.heap.size w w6 := by
    have hB5 := below_set (below_set hB4 (g := w1.heap.size) (i := 0) (by omega) (.int .u8 d.o.k)) (g := w1.heap.size) (i := 1) (by omega) (.int .i64 ((S.length : Int) + 1))
    exact hB5.trans (hB6.mono hB5.size)
  obtain ⟨u0, u1⟩ := cell_row2 V6
  clear x0 x1 x2 x3 x4 x5 x6 x7 x8 x9 x10 x11 x12 s0 s1 s2 s3 s4 s5 s6 s7 s8 s9 s10 s11 s12
  obtain ⟨⟨x0, x1, x2, x3, x4, x5, x6, x7, x8, x9, x10, x11, x12⟩, -⟩ := cell_row13 d6
  obtain ⟨⟨q0, q1, q2', q3, q4⟩, y0, y1, y2, y3, y4⟩ := cell_row5 r6
  have HFIN : Hid _ := And.intro hO6 (And.intro hB6' hm)
  clear hO6 hB6' hk5 hO4 hB4 hneV HNO HD d4 r4 V4 V5 r5 hB6 d5 hm
  go_wp2
  refine bodyPost_ret (results_cell_row (by rfl) _ _ (w.heap.size + 1) 33 _ _ _ (by rfl) (set5_row r6) Tryz.underlying33 (by rfl) infoDid) (by rfl) ?_
  exact did_finM r6 (by omega) (by simp) ⟨_, by simp [HFIN.out.2.2], HFIN.out.1⟩ HFIN.out.2.1 ⟨d.o.k, (S.length : Int) + 1⟩ d.t d.n


end Go.Proofs.YtgokofomoachaaaGreatDoor

namespace Go.Proofs.YtgokofomoachaaaGreatDoor
set_option linter.unusedVariables false
set_option linter.unusedSimpArgs false
open Go.RowKit

variable {w : World}

/-- A deed, and what it comes to when it is done. -/
def DoneR (S : List Om) (d : Dd) (D : Dv) : Prop :=
  (d.o.k = 0 ∧ d.of_ = 0 ∧ D = ⟨S, d.v, d.t, d.n⟩) ∨
  (d.o.k ≠ 0 ∧ d.of_ = 0 ∧ d.o.l.length ≤ 1000000 ∧ d.o.s.size ≤ 1048576 ∧ D = ⟨S ++ [d.o], ⟨d.o.k, (S.length : Int) + 1⟩, d.t, d.n⟩) ∨
  (d.o.k = 0 ∧ ∃ (i : Nat) (o : Om) (j : Nat) (u : Vl), S[i]? = some o ∧ j < o.l.length ∧ d.of_ = (i : Int) + 1 ∧ d.at_ = (j : Int) ∧ d.l2 = [u] ∧ D = ⟨S.set i { o with l := o.l.set j u, room := d.r2 }, d.v, d.t, d.n⟩) ∨
  (d.o.k = 0 ∧ ∃ (i : Nat) (o : Om), S[i]? = some o ∧ d.of_ = (i : Int) + 1 ∧ d.at_ = (o.l.length : Int) ∧ 0 < d.l2.length ∧ d.l2.length ≤ 2 ∧ D = ⟨S.set i { o with l := o.l ++ d.l2, room := d.r2 }, d.v, d.t, d.n⟩)

theorem DoneR.old {S : List Om} {d : Dd} (hk : d.o.k = 0) (hof : d.of_ = 0) : DoneR S d ⟨S, d.v, d.t, d.n⟩ := .inl ⟨hk, hof, rfl⟩

theorem DoneR.new {S : List Om} {d : Dd} (hk : d.o.k ≠ 0) (hof : d.of_ = 0) (hl : d.o.l.length ≤ 1000000) (hs : d.o.s.size ≤ 1048576) : DoneR S d ⟨S ++ [d.o], ⟨d.o.k, (S.length : Int) + 1⟩, d.t, d.n⟩ := .inr (.inl ⟨hk, hof, hl, hs, rfl⟩)

theorem DoneR.set {S : List Om} {d : Dd} (hk : d.o.k = 0) {i : Nat} {o : Om} {j : Nat} {u : Vl} (ho : S[i]? = some o) (hj : j < o.l.length) (hof : d.of_ = (i : Int) + 1) (hat : d.at_ = (j : Int)) (hl : d.l2 = [u]) : DoneR S d ⟨S.set i { o with l := o.l.set j u, room := d.r2 }, d.v, d.t, d.n⟩ := .inr (.inr (.inl ⟨hk, i, o, j, u, ho, hj, hof, hat, hl, rfl⟩))

theorem DoneR.add {S : List Om} {d : Dd} (hk : d.o.k = 0) {i : Nat} {o : Om} (ho : S[i]? = some o) (hof : d.of_ = (i : Int) + 1) (hat : d.at_ = (o.l.length : Int)) (h0 : 0 < d.l2.length) (h2 : d.l2.length ≤ 2) : DoneR S d ⟨S.set i { o with l := o.l ++ d.l2, room := d.r2 }, d.v, d.t, d.n⟩ := .inr (.inr (.inr ⟨hk, i, o, ho, hof, hat, h0, h2, rfl⟩))

theorem at_slice {base : Nat} {v : Value} {ts : List Po} {S : List Om} (h : OwnSt base v ts w) (hm : ts.map Po.o = S) {i : Nat} {o : Om} (hi : S[i]? = some o) : ∃ x g n c, ts[i]? = some x ∧ x.o = o ∧ v = .slice (some ⟨g, 0, none⟩) n c := by
  obtain ⟨x, g, n, c, h1, h2, h3, -⟩ := h.at_ hm hi
  exact ⟨x, g, n, c, h1, h2, h3⟩

theorem vals_ne {q : Option Addr} {l : List Vl} (h : Vals w q l) (h0 : 0 < l.length) : ∃ ad, q = some ad := by
  obtain ⟨u, hu⟩ : ∃ u, l[0]? = some u := ⟨l[0], by simp⟩
  obtain ⟨b, off, e, -⟩ := h 0 u hu
  exact ⟨_, e⟩

set_option maxHeartbeats 1000000 in
theorem did_in {p : Option Addr} {S : List Om} (h : Ask w p S) (c : Nat) (d : Dd) {D : Dv} (hD : DoneR S d D) {q : Option Addr} {cq : Nat} {q2 : Option Addr} (hv : Vals w q d.o.l) (hv2 : Vals w q2 d.l2) :
    Calls Tryz.prog 51 #[.slice p S.length c, .agg #[.string d.t, .int .i64 d.n, .int .u8 d.v.k, .int .i64 d.v.n, .int .u8 d.o.k, .string d.o.s, .slice q d.o.l.length cq, .int .i64 d.o.room, .int .i64 d.o.fn, .int .i64 d.of_, .int .i64 d.at_, .slice q2 d.l2.length d.l2.length, .int .i64 d.r2]] w (DidR w D.S D.v D.t D.n) := by
  rcases hD with ⟨hk, hof, rfl⟩ | ⟨hk, hof, hl, hs, rfl⟩ | ⟨hk, i, o, j, u, ho, hj, hof, hat, hl, rfl⟩ | ⟨hk, i, o, ho, hof, hat, h0, h2, rfl⟩
  · have := did_old h c d (q := q) (cq := cq) (q2 := q2) (S' := S) rfl (fun W base p1 c1 ts hB hbs hm ho => by
      rw [hof]
      refine Calls.mono (on_none (.slice p1 S.length c1) d.at_ d.r2 q2 d.l2.length d.l2.length W) ?_
      rintro e w' ⟨rfl, hB'⟩
      exact ⟨rfl, ⟨ts, hm, ho.below hB'⟩, hB'.mono hbs, fun k hk _ _ => hB'.block k hk⟩)
    rw [hk]
    exact this
  · exact did_new h c d hv hl hs hk hof
  · have hll := h.vals o (List.mem_of_getElem? ho)
    have := did_old h c d (q := q) (cq := cq) (q2 := q2) (S' := S.set i { o with l := o.l.set j u, room := d.r2 }) (by simp) (fun W base p1 c1 ts hB hbs hm hO => by
      obtain ⟨x, g, n, c', hx, hxo, hvv⟩ := at_slice hO hm ho
      cases hvv
      subst hxo
      obtain ⟨ql, cl, hlv, -, hq0, -⟩ := own_slice (hO.lst x (List.mem_of_getElem? hx))
      obtain ⟨gl, rfl⟩ := hq0 (by omega)
      rw [hl] at hv2
      obtain ⟨ad, rfl⟩ := vals_ne hv2 (by simp)
      rw [hof, hat, hl]
      refine Calls.mono (on_set hO h.len hx hlv hll hj u (hv2.below hB) d.r2) ?_
      rintro e w' ⟨rfl, hO', hB', hfr⟩
      exact ⟨rfl, ⟨_, by rw [map_set_o hm], hO'⟩, hB', fun k hk h1 h2 => hfr k hk (fun e => h1 (by rw [e]; rfl)) (h2 x (List.mem_of_getElem? hx))⟩)
    rw [hk]
    exact this
  · have hll := h.vals o (List.mem_of_getElem? ho)
    have := did_old h c d (q := q) (cq := cq) (q2 := q2) (S' := S.set i { o with l := o.l ++ d.l2, room := d.r2 }) (by simp) (fun W base p1 c1 ts hB hbs hm hO => by
      obtain ⟨x, g, n, c', hx, hxo, hvv⟩ := at_slice hO hm ho
      cases hvv
      subst hxo
      obtain ⟨ad, rfl⟩ := vals_ne hv2 h0
      rw [hof, hat]
      refine Calls.mono (on_add hO h.len hx (by omega) h0 h2 (hv2.below hB) d.r2) ?_
      rintro e w' ⟨rfl, ⟨lv, hO'⟩, hB', hfr⟩
      exact ⟨rfl, ⟨_, by rw [map_set_o hm], hO'⟩, hB', fun k hk h1 h2 => hfr k hk (fun e => h1 (by rw [e]; rfl)) (h2 x (List.mem_of_getElem? hx))⟩)
    rw [hk]
    exact this

/-- What a function that works an operation out comes to, wherever its lists lie. -/
def DeedV (w : World) (d : Dd) (e : Ending) (w' : World) : Prop :=
  ∃ q c q2, e = .returned (.agg #[.string d.t, .int .i64 d.n, .int .u8 d.v.k, .int .i64 d.v.n, .int .u8 d.o.k, .string d.o.s, .slice q d.o.l.length c, .int .i64 d.o.room, .int .i64 d.o.fn, .int .i64 d.of_, .int .i64 d.at_, .slice q2 d.l2.length d.l2.length, .int .i64 d.r2]) ∧ Vals w' q d.o.l ∧ Vals w' q2 d.l2 ∧ Below w.heap.size w w'

theorem DeedR.V {d : Dd} {e : Ending} {w' : World} (h : DeedR w d e w') : DeedV w d e w' := by
  obtain ⟨q, c, q2, he, h1, h2, hB⟩ := h
  exact ⟨q, c, q2, he, h1.1.1, h2.1, hB⟩

/-- A value may not be. -/
def refD (S : List Om) : Dv := ⟨S, ⟨0, 0⟩, tKind, 0⟩

set_option maxRecDepth 20000 in
set_option maxHeartbeats 1000000 in
theorem refused_in {p : Option Addr} {S : List Om} (h : Ask w p S) (c : Nat) {D : Dv} (hd : D = refD S) : Calls Tryz.prog 50 #[.slice p S.length c] w (DidR w D.S D.v D.t D.n) := by
  have hB := below1 w (.cells #[.slice none 0 0, .int .u8 0, .int .i64 0, .string ⟨#[]⟩, .int .i64 0] 33)
  have hb := heap_alloc_new w (.cells #[.slice none 0 0, .int .u8 0, .int .i64 0, .string ⟨#[]⟩, .int .i64 0] 33)
  obtain ⟨d, hdd⟩ : ∃ d, d = thrD tKind := ⟨_, rfl⟩
  have HT := throwsD hdd (w.alloc (.cells #[.slice none 0 0, .int .u8 0, .int .i64 0, .string ⟨#[]⟩, .int .i64 0] 33))
  have HDN : DoneR S d D := by subst hdd; rw [hd]; exact DoneR.old rfl rfl
  clear hd hdd
  unfold tKind at HT
  go_enter Tryz.func50, Tryz.ntmps50
  go_wp2_with (first
    | (go_at_call 154; (with_reducible refine HT.mono ?_); clear HT; rintro e w1 ⟨q, c_, q2, rfl, h1, h2, hB1⟩; refine halt_here ?_))
  unfold Halted
  have hB2 := hB.trans (hB1.mono hB.size)
  have HE := did_in (h.below hB2) c d HDN (cq := c_) h1.1.1 h2.1
  have hb' := (hB1.block _ (Array.getElem?_eq_some_iff.1 hb).1).trans hb
  go_wp2_with (first
    | (go_at_call 51; (with_reducible refine HE.mono ?_); clear HE; rintro e w2 ⟨p1, c1, rfl, hts, hB3⟩; have hr := (hB3.block _ (Array.getElem?_eq_some_iff.1 hb').1).trans hb'; obtain ⟨⟨z0, z1, z2, z3, z4⟩, y0, y1, y2, y3, y4⟩ := cell_row5 hr))
  refine bodyPost_ret (results_cell_row (by rfl) _ _ w.heap.size 33 _ _ _ (by rfl) (set5_row hr) Tryz.underlying33 (by rfl) infoDid) (by rfl) ?_
  exact did_fin hr (Nat.le_refl _) (hts_mono hts hB2.size) (hB2.trans (hB3.mono hB2.size)) D.v D.t D.n


end Go.Proofs.YtgokofomoachaaaGreatDoor
