/- prim: adds. -/
import Derived.Test.YtlghciglofbkaaaPmSets
import Derived.Test.YtlghciglofbkaaaPmMakes
import Derived.Lib.MinMax
namespace Go.Proofs.Ytlghciglofbkaaa
set_option linter.unusedVariables false
set_option linter.unusedSimpArgs false
open Go.RowKit

variable {w : World}

theorem pcells_setD {ts : List Po} {i : Nat} {x y : Po} (hx : ts[i]? = some x) {d : Nat} (hd : d < 5) {v : Value} (he : pcell y = (pcell x).set d v) : (pcells ts).set (i * 5 + d) v = pcells (ts.set i y) := by
  have hi := (List.getElem?_eq_some_iff.1 hx).1
  apply List.ext_getElem?
  intro j
  rw [List.getElem?_set, pcells_len]
  by_cases hj : j < ts.length * 5
  · have hdl : j / 5 < ts.length := by omega
    obtain ⟨z, hz⟩ : ∃ z, ts[j / 5]? = some z := ⟨ts[j / 5], by simp⟩
    have e1 := pcells_get ts (j / 5) z hz (j % 5) (by omega)
    rw [show j / 5 * 5 + j % 5 = j by omega] at e1
    by_cases hij : j / 5 = i
    · subst hij
      rw [hx] at hz; cases hz
      have e2 := pcells_get (ts.set (j / 5) y) (j / 5) y (List.getElem?_set_self hdl) (j % 5) (by omega)
      rw [show j / 5 * 5 + j % 5 = j by omega] at e2
      rw [e2, he, List.getElem?_set]
      by_cases hjd : j % 5 = d
      · have hl5 : (pcell x).length = 5 := rfl
        rw [if_pos (by omega), if_pos (by omega), if_pos hjd.symm, if_pos (by omega)]
      · rw [if_neg (by omega), if_neg (fun e => hjd e.symm), e1]
    · have e2 := pcells_get (ts.set i y) (j / 5) z (by rw [List.getElem?_set_ne (by omega)]; exact hz) (j % 5) (by omega)
      rw [show j / 5 * 5 + j % 5 = j by omega] at e2
      rw [if_neg (by omega), e1, e2]
  · have e1 : (pcells (ts.set i y))[j]? = none := by rw [List.getElem?_eq_none_iff, pcells_len, List.length_set]; omega
    have e2 : (pcells ts)[j]? = none := by rw [List.getElem?_eq_none_iff, pcells_len]; omega
    rw [if_neg (by omega), e1, e2]

/-- A list has more values. -/
theorem OwnSt.more {base : Nat} {ts : List Po} {w w4 : World} {g n c : Nat} (h : OwnSt base (.slice (some ⟨g, 0, none⟩) n c) ts w) {i : Nat} {x : Po} (hx : ts[i]? = some x) {more : List Vl} {g4 c4 : Nat}
    (hown : w4.ownsRow base 26 2 (.slice (some ⟨g4, 0, none⟩) (x.o.l.length + more.length) c4) (x.o.l.length + more.length) (vcells x.o.l ++ vcells more)) (hg : w.grownBy w4 x.lv.ownBlock) (hat : x.lv.ownBlock = some g4 ∨ g4 = w.heap.size) :
    OwnSt base (.slice (some ⟨g, 0, none⟩) n c) (ts.set i ⟨{ x.o with l := x.o.l ++ more }, .slice (some ⟨g4, 0, none⟩) (x.o.l.length + more.length) c4⟩) (w4.setCell ⟨g, i * 5 + 2, none⟩ (.slice (some ⟨g4, 0, none⟩) (x.o.l.length + more.length) c4)) := by
  have hi := (List.getElem?_eq_some_iff.1 hx).1
  have hn : ts.length = n := by
    obtain ⟨p, c', e, -⟩ := own_slice h.row
    cases e; rfl
  subst hn
  have hgb := h.row.lt g rfl
  have hne : x.lv.ownBlock ≠ some g := fun e => val_obj_ne h.row (h.lst x (List.mem_of_getElem? hx)) e rfl
  have hgg : w4.heap[g]? = w.heap[g]? := hg.block g hgb.2 (fun e => hne e.symm)
  have hr4 := row_kept h.row (w' := w4) (fun k e => by cases e; exact hgg)
  have hg4 : g4 ≠ g := val_obj_ne hr4 hown rfl
  refine h.upd hx _ ?_ ?_ ?_ ?_
  · have := rowSet hr4 (j := i * 5 + 2) (by omega) (.slice (some ⟨g4, 0, none⟩) (x.o.l.length + more.length) c4)
    rw [pcells_setD hx (y := ⟨{ x.o with l := x.o.l ++ more }, .slice (some ⟨g4, 0, none⟩) (x.o.l.length + more.length) c4⟩) (by omega) (by rfl)] at this
    exact this
  · dsimp only
    rw [List.length_append, vcells_append]
    exact row_kept hown (fun k e => by cases e; exact heap_setCell_other _ ⟨g, i * 5 + 2, none⟩ _ _ hg4)
  · intro k j z hj hz e
    have hzl := h.lst z (List.mem_of_getElem? hz)
    rw [heap_setCell_other _ ⟨g, i * 5 + 2, none⟩ _ _ (val_obj_ne h.row hzl e)]
    exact hg.block k (hzl.lt k e).2 (fun e2 => hj (h.one j i z x k hz hx e e2.symm))
  · intro k e
    cases e
    rcases hat with h1 | h1
    · exact .inl h1
    · exact .inr (by show w.heap.size ≤ g4; omega)

/-- A Room is another one. -/
theorem OwnSt.room {base : Nat} {ts : List Po} {w : World} {g n c : Nat} (h : OwnSt base (.slice (some ⟨g, 0, none⟩) n c) ts w) {i : Nat} {x : Po} (hx : ts[i]? = some x) (r : Int) :
    OwnSt base (.slice (some ⟨g, 0, none⟩) n c) (ts.set i ⟨{ x.o with room := r }, x.lv⟩) (w.setCell ⟨g, i * 5 + 3, none⟩ (.int .i64 r)) := by
  have hi := (List.getElem?_eq_some_iff.1 hx).1
  have hn : ts.length = n := by
    obtain ⟨p, c', e, -⟩ := own_slice h.row
    cases e; rfl
  subst hn
  refine h.upd hx _ ?_ ?_ ?_ ?_
  · have := rowSet h.row (j := i * 5 + 3) (by omega) (.int .i64 r)
    rw [pcells_setD hx (y := ⟨{ x.o with room := r }, x.lv⟩) (by omega) (by rfl)] at this
    exact this
  · have hl := h.lst x (List.mem_of_getElem? hx)
    exact row_kept hl (fun k e => heap_setCell_other _ ⟨g, i * 5 + 3, none⟩ _ _ (val_obj_ne h.row hl e))
  · intro k j z hj hz e
    exact heap_setCell_other _ ⟨g, i * 5 + 3, none⟩ _ _ (val_obj_ne h.row (h.lst z (List.mem_of_getElem? hz)) e)
  · intro k e
    exact .inl e

theorem heap_drewP (W : World) : W.drew.heap = W.heap := rfl

theorem set5_rowD {W : World} {g : Nat} {a b c d e x0 x1 x2 x3 x4 : Value} {t : TypeId} (h : W.heap[g]? = some (.cells #[a, b, c, d, e] t (0, 0))) : (((((W.setCell ⟨g, 0, none⟩ x0).setCell ⟨g, 1, none⟩ x1).setCell ⟨g, 2, none⟩ x2).setCell ⟨g, 3, none⟩ x3).setCell ⟨g, 4, none⟩ x4).drew.heap[g]? = some (.cells #[x0, x1, x2, x3, x4] t (0, 0)) := by
  simp only [heap_drewP]
  exact set5_row h

theorem DidR.drew {S : List Om} {v : Vl} {t : ByteArray} {n : Int} {e : Ending} {w' : World} (h : DidR w S v t n e w') : DidR w S v t n e w'.drew := by
  obtain ⟨p, c, he, ⟨ts, hm, ho⟩, hb⟩ := h
  exact ⟨p, c, he, ⟨ts, hm, ho.kept (fun _ _ _ => rfl)⟩, below_drew hb⟩

set_option maxRecDepth 20000 in
set_option maxHeartbeats 4000000 in
theorem adds_in {p : Option Addr} {S : List Om} (h : Ask w p S) (c : Nat) (k : Nat) {i : Nat} {o : Om} (ho : S[i]? = some o) (least : Nat) (hle : least ≤ 8) {q2 : Option Addr} {more : List Vl} (c2 : Nat) (hv2 : Vals w q2 more) (hm0 : 0 < more.length) (hm2 : more.length ≤ 2) (hr0 : 0 ≤ o.room) (hr1 : o.room ≤ 1099511627776) (R N : Int)
    (hR : (o.room < (o.l.length : Int) + more.length ∧ R = max (least : Int) (2 * o.room) ∧ N = 1 + 2 * R) ∨ ((o.l.length : Int) + more.length ≤ o.room ∧ R = o.room ∧ N = 0)) :
    Calls Try.prog 53 #[.slice p S.length c, .agg #[.int .u8 k, .int .i64 ((i : Int) + 1)], .int .i64 least, .slice q2 more.length c2] w (DidR w (S.set i { o with l := o.l ++ more, room := R }) ⟨0, 0⟩ ⟨#[]⟩ N) := by
  have hiS := (List.getElem?_eq_some_iff.1 ho).1
  have hiS' : (i : Int) < (S.length : Int) := by omega
  have hlen := h.len
  have hlo := h.vals o (List.mem_of_getElem? ho)
  have hB := below2' w (.cells #[.int .u8 k, .int .i64 ((i : Int) + 1)] 26) (.cells #[.slice none 0 0, .int .u8 0, .int .i64 0, .string ⟨#[]⟩, .int .i64 0] 28)
  have hb0 := (Below.heap_alloc _ (.cells #[.slice none 0 0, .int .u8 0, .int .i64 0, .string ⟨#[]⟩, .int .i64 0] 28) w.heap.size (by simp)).trans (heap_alloc_new w (.cells #[.int .u8 k, .int .i64 ((i : Int) + 1)] 26))
  have hb1 := heap_two w (.cells #[.int .u8 k, .int .i64 ((i : Int) + 1)] 26) (.cells #[.slice none 0 0, .int .u8 0, .int .i64 0, .string ⟨#[]⟩, .int .i64 0] 28)
  have H1 := comesTo_in (h.below hB) c ⟨0, 0⟩
  simp only [show ((0 : Nat) : Int) = 0 from rfl] at H1
  obtain ⟨ad, rfl⟩ : ∃ ad, q2 = some ad := by
    obtain ⟨u, hu⟩ : ∃ u, more[0]? = some u := ⟨more[0], by simp⟩
    obtain ⟨b0, off, e, -⟩ := hv2 0 u hu
    exact ⟨_, e⟩
  have hn2 : ∀ (w' : World), Below w.heap.size w w' → ∀ j u, (vcells more)[j]? = some u → w'.cell? (ad.add j) = some u := by
    intro w' hB j u hj
    obtain ⟨a, y, hy, hu⟩ := vcells_at more j u hj
    obtain ⟨b0, off, e, h1, h2⟩ := (hv2.below hB) a y hy
    cases e
    rcases hu with ⟨rfl, rfl⟩ | ⟨rfl, rfl⟩
    · rw [Addr.add_lit]; exact h1
    · rw [Addr.add_lit, ← Nat.add_assoc]; exact h2
  obtain ⟨i0, hi0, hz0, hz1, hz2⟩ := info_parts infoV
  go_enter Try.func53, Try.ntmps53
  go_wp2_with (first
    | (go_at_call 22; (with_reducible refine H1.mono ?_); clear H1; rintro e w1 ⟨p1, c1, rfl, ⟨ts, hm, hO⟩, hB1⟩; refine halt_here ?_))
  unfold Halted
  obtain ⟨x, g, n1, cz, hx, hxo, hv, hn1, d2, d3, q, cl, hlv, hq⟩ := hO.at_ hm ho
  cases hv
  rw [hlv] at d2
  have hB' := hB.trans (hB1.mono hB.size)
  have e0 := (hB1.block _ (Array.getElem?_eq_some_iff.1 hb0).1).trans hb0
  have e1 := (hB1.block _ (Array.getElem?_eq_some_iff.1 hb1).1).trans hb1
  have hgb := hO.row.lt g rfl
  have hBD := below1 w1 (.cells #[.slice (some ⟨g, 0, none⟩) S.length c1, .int .u8 0, .int .i64 0, .string ⟨#[]⟩, .int .i64 0] 28)
  have f0 := (hBD.block _ (Array.getElem?_eq_some_iff.1 e0).1).trans e0
  have f1 := (hBD.block _ (Array.getElem?_eq_some_iff.1 e1).1).trans e1
  have fD := heap_alloc_new w1 (.cells #[.slice (some ⟨g, 0, none⟩) S.length c1, .int .u8 0, .int .i64 0, .string ⟨#[]⟩, .int .i64 0] 28)
  have hB3 := hB'.trans (hBD.mono hB'.size)
  have hO2 := (hO.mono (show w.heap.size ≤ _ from hB.size)).below hBD
  have d2' := (hBD.cell (p := ⟨g, i * 5 + 2, none⟩) hgb.2).trans d2
  have hrl := hO2.lst x (List.mem_of_getElem? hx)
  rw [hlv, hxo] at hrl
  have hgne : g ≠ w.heap.size + 1 := by have := hgb.1; simp at this; omega
  have hgne0 : g ≠ w.heap.size := by have := hgb.1; simp at this; omega
  have HX : Hid _ := And.intro hx (And.intro hxo (And.intro hm hlv))
  have hlvb : ∀ gg, x.lv.ownBlock = some gg → w.heap.size + 2 ≤ gg ∧ gg < w1.heap.size := fun gg e => by have := (hO.lst x (List.mem_of_getElem? hx)).lt gg e; simp at this; exact this
  rw [hlv] at hlvb
  have HR : Hid _ := And.intro hR (And.intro hlvb hgb)
  have hcB : Below w.heap.size w _ := hB3
  have hwD : w.heap.size ≤ (w1.alloc (.cells #[.slice (some ⟨g, 0, none⟩) S.length c1, .int .u8 0, .int .i64 0, .string ⟨#[]⟩, .int .i64 0] 28)).heap.size := hB3.size
  obtain ⟨x0, x1⟩ := cell_row2 f0
  obtain ⟨⟨D0, D1, D2, D3, D4⟩, -⟩ := cell_row5 fD
  clear hx hxo hm hlv hO d2 d3 e0 e1 hb0 hb1 hB hB1 hB' hBD hR hlvb
  go_wp2_with (first
    | (at_builtin; refine wpList_append_lies _ rfl _ _ 50 rfl w.heap.size 26 i0 (.agg #[.int .u8 0, .int .i64 0]) 2 16 Try.underlying50 hi0 hz0 hz1 hz2 rfl (by decide) _ o.l.length _ rfl hrl ad more.length c2 (vcells more) rfl (vcells_len more) (hn2 _ hB3) (vcells_one more) hm0 (by unfold maxLen; omega) (by omega) hwD _ rfl ?_; intro g4 c4 w4 ho4 hg4 hat4 hlt4; refine halt_here ?_))
  unfold Halted
  obtain ⟨hx, hxo, hm, hlv⟩ := HX.out
  obtain ⟨hR, hlvb, hgb2⟩ := HR.out
  have hat5 : x.lv.ownBlock = some g4 ∨ g4 = (w1.alloc (.cells #[.slice (some ⟨g, 0, none⟩) S.length c1, .int .u8 0, .int .i64 0, .string ⟨#[]⟩, .int .i64 0] 28)).heap.size := by rw [hlv]; exact hat4
  have hO5 := hO2.more hx (more := more) (g4 := g4) (c4 := c4) (by rw [hxo]; exact ho4) (by rw [hlv]; exact hg4) hat5
  rw [hxo] at hO5
  have hkeep : ∀ kk, kk < w1.heap.size + 1 → (Value.slice q o.l.length cl).ownBlock ≠ some kk → w4.heap[kk]? = (w1.alloc (.cells #[.slice (some ⟨g, 0, none⟩) S.length c1, .int .u8 0, .int .i64 0, .string ⟨#[]⟩, .int .i64 0] 28)).heap[kk]? := fun kk hk hne => hg4.block kk (by simpa using hk) (fun e => hne e.symm)
  have hx2 : ts.length = S.length := by rw [← hm]; simp
  have hrow2 := hO2.row
  rw [hx2] at hrow2
  have hgx : (Value.slice q o.l.length cl).ownBlock ≠ some g := fun e => val_obj_ne hrow2 hrl e rfl
  have hrow4 := row_kept hrow2 (w' := w4) (fun kk e => by cases e; exact hkeep g (by omega) hgx)
  obtain ⟨t0, t1, t2, t3, t4⟩ := cell_pcells hrow4 hx2 hx
  rw [hlv] at t2
  rw [hxo] at t3
  have fz2 := frozen_row hrow4 (i * 5 + 2)
  have fD4 := (hkeep w1.heap.size (by omega) (fun e => by have := (hlvb _ e).2; omega)).trans fD
  have f14 := (hkeep (w.heap.size + 1) (by have := (Array.getElem?_eq_some_iff.1 f1).1; simpa using this) (fun e => by have := (hlvb _ e).1; omega)).trans f1
  have hB4 : Below w.heap.size w w4 := hB3.trans (rbelow_grown hg4 (fun kk e => by have := (hlvb _ e).1; omega) hwD)
  have hDg : w1.heap.size ≠ g := by omega
  have fD5 := (heap_setCell_other w4 ⟨g, i * 5 + 2, none⟩ w1.heap.size (.slice (some ⟨g4, 0, none⟩) (o.l.length + more.length) c4) hDg).trans fD4
  have f15 := (heap_setCell_other w4 ⟨g, i * 5 + 2, none⟩ (w.heap.size + 1) (.slice (some ⟨g4, 0, none⟩) (o.l.length + more.length) c4) (fun e => hgne e.symm)).trans f14
  have hB5 := below_set hB4 (g := g) (i := i * 5 + 2) (by have := hgb2.1; simp at this; omega) (.slice (some ⟨g4, 0, none⟩) (o.l.length + more.length) c4)
  have HY : Hid _ := And.intro hO5 (And.intro hB5 hm)
  have hRR := hR
  clear hO5 hB5 hm hx hxo hlv hR hlvb hat5 ho4 hg4 hat4 hB4 hkeep hO2 hgx hB3 hcB hrow2 hrow4 hx2 t0 t1 t4
  go_wp2_with fail
  generalize hW5 : w4.setCell ⟨g, i * 5 + 2, none⟩ (.slice (some ⟨g4, 0, none⟩) (o.l.length + more.length) c4) = W5 at *
  clear hW5
  have hx2 : (ts.set i ⟨{ o with l := o.l ++ more }, .slice (some ⟨g4, 0, none⟩) (o.l.length + more.length) c4⟩).length = S.length := by have := HY.out.2.2; rw [List.length_set, ← this]; simp
  have hrow5 := HY.out.1.row
  rw [hx2] at hrow5
  have hy5 : (ts.set i ⟨{ o with l := o.l ++ more }, .slice (some ⟨g4, 0, none⟩) (o.l.length + more.length) c4⟩)[i]? = some ⟨{ o with l := o.l ++ more }, .slice (some ⟨g4, 0, none⟩) (o.l.length + more.length) c4⟩ := List.getElem?_set_self (by rw [List.length_set] at hx2; omega)
  obtain ⟨u0, u1, u2, u3, u4⟩ := cell_pcells hrow5 hx2 hy5
  have v3 := frozen_row hrow5 (i * 5 + 3)
  obtain ⟨⟨D0, D1, D2, D3, D4⟩, -, -, -, -, G4⟩ := cell_row5 fD5
  obtain ⟨⟨R0, R1, R2, R3, R4⟩, F0, F1, F2, F3, F4⟩ := cell_row5 f15
  have hDr : w1.heap.size ≠ w.heap.size + 1 := by have := hgb.1; simp at this; omega
  simp only at u2 u3
  clear hx2 u0 u1 u4 t2 t3 fz2 fD4 f14
  rcases hRR with ⟨hlt, hRe, hNe⟩ | ⟨hge, hRe, hNe⟩
  · have hmx0 : (0 : Int) ≤ R := by omega
    have hmx1 : R ≤ 2199023255560 := by omega
    have hRe' : max (least : Int) (2 * o.room) = R := hRe.symm
    clear hRe
    subst hNe
    have HZ : Hid _ := And.intro hy5 (And.intro fD5 (And.intro f15 hgb))
    go_region
    clear HR HX hn2 hv2 hi0 hz0 hz1 hz2 f0 f1 fD x0 x1 hq hlo ho h hrow5 hy5 fD5 f15 hgb hwD hlt4
    go_wp2
    obtain ⟨hy5, fD5, f15, hgb⟩ := HZ.out
    have k5 := (heap_setCell_other (W5.setCell ⟨g, i * 5 + 3, none⟩ (.int .i64 R)) ⟨w1.heap.size, 4, none⟩ (w.heap.size + 1) (.int .i64 (1 + 2 * R)) (fun e => hDr e.symm)).trans ((heap_setCell_other W5 ⟨g, i * 5 + 3, none⟩ (w.heap.size + 1) (.int .i64 R) (fun e => hgne e.symm)).trans f15)
    refine bodyPost_ret (results_cell_row (by rfl) _ _ (w.heap.size + 1) 28 _ _ _ (by rfl) (set5_rowD k5) Try.underlying28 (by rfl) infoDid) (by rfl) ?_
    have hO6 := HY.out.1.room hy5 R
    rw [List.set_set] at hO6
    have hD6 : OwnSt w.heap.size (.slice (some ⟨g, 0, none⟩) S.length c1) (ts.set i ⟨{ o with l := o.l ++ more, room := R }, .slice (some ⟨g4, 0, none⟩) (o.l.length + more.length) c4⟩) ((W5.setCell ⟨g, i * 5 + 3, none⟩ (.int .i64 R)).setCell ⟨w1.heap.size, 4, none⟩ (.int .i64 (1 + 2 * R))) := hO6.keptT (fun k cur T hk hT => heap_setCell_other _ ⟨w1.heap.size, 4, none⟩ _ _ (fun e => by
      have hk2 := hk
      rw [heap_setCell_other _ ⟨g, i * 5 + 3, none⟩ _ _ (by rw [e]; exact hDg), e, fD5] at hk2
      cases hk2
      rcases hT with h | h <;> cases h))
    have hg2 : w.heap.size ≤ g := by have := hgb.1; simp at this; omega
    have hB6 : Below w.heap.size w ((W5.setCell ⟨g, i * 5 + 3, none⟩ (.int .i64 R)).setCell ⟨w1.heap.size, 4, none⟩ (.int .i64 (1 + 2 * R))) := below_set (below_set HY.out.2.1 hg2 _) (by omega) _
    have hsl : (S.set i { o with l := o.l ++ more, room := R }).length = S.length := by simp
    have := did_fin (w := w) k5 (by omega) (S := S.set i { o with l := o.l ++ more, room := R }) (p := some ⟨g, 0, none⟩) (c := c1) ⟨_, map_set_o HY.out.2.2 i _, by rw [hsl]; exact hD6⟩ hB6 ⟨0, 0⟩ ⟨#[]⟩ (1 + 2 * R)
    rw [hsl] at this
    exact this.drew
  · subst hRe hNe
    have hge' : ¬ (o.room < (o.l.length : Int) + more.length) := by omega
    have HZ : Hid _ := And.intro hy5 (And.intro fD5 (And.intro f15 hgb))
    go_region
    clear HR HX hn2 hv2 hi0 hz0 hz1 hz2 f0 f1 fD x0 x1 hq hlo ho h hrow5 hy5 fD5 f15 hgb hwD hlt4
    go_wp2
    obtain ⟨hy5, fD5, f15, hgb⟩ := HZ.out
    refine bodyPost_ret (results_cell_row (by rfl) _ _ (w.heap.size + 1) 28 _ _ _ (by rfl) (set5_rowD f15) Try.underlying28 (by rfl) infoDid) (by rfl) ?_
    have hsl : (S.set i { o with l := o.l ++ more }).length = S.length := by simp
    have := did_fin (w := w) f15 (by omega) (S := S.set i { o with l := o.l ++ more }) (p := some ⟨g, 0, none⟩) (c := c1) ⟨_, map_set_o HY.out.2.2 i _, by rw [hsl]; exact HY.out.1⟩ HY.out.2.1 ⟨0, 0⟩ ⟨#[]⟩ 0
    rw [hsl] at this
    exact this.drew

end Go.Proofs.Ytlghciglofbkaaa
