/- prim: adds. -/
import Derived.Test.YtgokofomoachaaaPmSets
import Derived.Test.YtgokofomoachaaaPmMakes
import Derived.Lib.MinMax
namespace Go.Proofs.Ytgokofomoachaaa
set_option linter.unusedVariables false
set_option linter.unusedSimpArgs false
open Go.RowKit

variable {w : World}

theorem pcells_setD {ts : List Po} {i : Nat} {x y : Po} (hx : ts[i]? = some x) {d : Nat} (hd : d < 5) {v : Value} (he : pcell y = (pcell x).set d v) : (pcells ts).set (i * 5 + d) v = pcells (ts.set i y) := by
  have hi := (List.getElem?_eq_some_iff.1 hx).1
  apply List.ext_getElem?
  intro j
  rw [List.getElem?_set, pcells_len]
  by_cases hj : j < ts.length * 5
  · have hdl : j / 5 < ts.length := by omega
    obtain ⟨z, hz⟩ : ∃ z, ts[j / 5]? = some z := ⟨ts[j / 5], by simp⟩
    have e1 := pcells_get ts (j / 5) z hz (j % 5) (by omega)
    rw [show j / 5 * 5 + j % 5 = j by omega] at e1
    by_cases hij : j / 5 = i
    · subst hij
      rw [hx] at hz; cases hz
      have e2 := pcells_get (ts.set (j / 5) y) (j / 5) y (List.getElem?_set_self hdl) (j % 5) (by omega)
      rw [show j / 5 * 5 + j % 5 = j by omega] at e2
      rw [e2, he, List.getElem?_set]
      by_cases hjd : j % 5 = d
      · have hl5 : (pcell x).length = 5 := rfl
        rw [if_pos (by omega), if_pos (by omega), if_pos hjd.symm, if_pos (by omega)]
      · rw [if_neg (by omega), if_neg (fun e => hjd e.symm), e1]
    · have e2 := pcells_get (ts.set i y) (j / 5) z (by rw [List.getElem?_set_ne (by omega)]; exact hz) (j % 5) (by omega)
      rw [show j / 5 * 5 + j % 5 = j by omega] at e2
      rw [if_neg (by omega), e1, e2]
  · have e1 : (pcells (ts.set i y))[j]? = none := by rw [List.getElem?_eq_none_iff, pcells_len, List.length_set]; omega
    have e2 : (pcells ts)[j]? = none := by rw [List.getElem?_eq_none_iff, pcells_len]; omega
    rw [if_neg (by omega), e1, e2]

/-- A list has more values. -/
theorem OwnSt.more {base : Nat} {ts : List Po} {w w4 : World} {g n c : Nat} (h : OwnSt base (.slice (some ⟨g, 0, none⟩) n c) ts w) {i : Nat} {x : Po} (hx : ts[i]? = some x) {more : List Vl} {g4 c4 : Nat}
    (hown : w4.ownsRow base 26 2 (.slice (some ⟨g4, 0, none⟩) (x.o.l.length + more.length) c4) (x.o.l.length + more.length) (vcells x.o.l ++ vcells more)) (hg : w.grownBy w4 x.lv.ownBlock) (hat : x.lv.ownBlock = some g4 ∨ g4 = w.heap.size) :
    OwnSt base (.slice (some ⟨g, 0, none⟩) n c) (ts.set i ⟨{ x.o with l := x.o.l ++ more }, .slice (some ⟨g4, 0, none⟩) (x.o.l.length + more.length) c4⟩) (w4.setCell ⟨g, i * 5 + 2, none⟩ (.slice (some ⟨g4, 0, none⟩) (x.o.l.length + more.length) c4)) := by
  have hi := (List.getElem?_eq_some_iff.1 hx).1
  have hn : ts.length = n := by
    obtain ⟨p, c', e, -⟩ := own_slice h.row
    cases e; rfl
  subst hn
  have hgb := h.row.lt g rfl
  have hne : x.lv.ownBlock ≠ some g := fun e => val_obj_ne h.row (h.lst x (List.mem_of_getElem? hx)) e rfl
  have hgg : w4.heap[g]? = w.heap[g]? := hg.block g hgb.2 (fun e => hne e.symm)
  have hr4 := row_kept h.row (w' := w4) (fun k e => by cases e; exact hgg)
  have hg4 : g4 ≠ g := val_obj_ne hr4 hown rfl
  refine h.upd hx _ ?_ ?_ ?_ ?_
  · have := rowSet hr4 (j := i * 5 + 2) (by omega) (.slice (some ⟨g4, 0, none⟩) (x.o.l.length + more.length) c4)
    rw [pcells_setD hx (y := ⟨{ x.o with l := x.o.l ++ more }, .slice (some ⟨g4, 0, none⟩) (x.o.l.length + more.length) c4⟩) (by omega) (by rfl)] at this
    exact this
  · dsimp only
    rw [List.length_append, vcells_append]
    exact row_kept hown (fun k e => by cases e; exact heap_setCell_other _ ⟨g, i * 5 + 2, none⟩ _ _ hg4)
  · intro k j z hj hz e
    have hzl := h.lst z (List.mem_of_getElem? hz)
    rw [heap_setCell_other _ ⟨g, i * 5 + 2, none⟩ _ _ (val_obj_ne h.row hzl e)]
    exact hg.block k (hzl.lt k e).2 (fun e2 => hj (h.one j i z x k hz hx e e2.symm))
  · intro k e
    cases e
    rcases hat with h1 | h1
    · exact .inl h1
    · exact .inr (by show w.heap.size ≤ g4; omega)

/-- A Room is another one. -/
theorem OwnSt.room {base : Nat} {ts : List Po} {w : World} {g n c : Nat} (h : OwnSt base (.slice (some ⟨g, 0, none⟩) n c) ts w) {i : Nat} {x : Po} (hx : ts[i]? = some x) (r : Int) :
    OwnSt base (.slice (some ⟨g, 0, none⟩) n c) (ts.set i ⟨{ x.o with room := r }, x.lv⟩) (w.setCell ⟨g, i * 5 + 3, none⟩ (.int .i64 r)) := by
  have hi := (List.getElem?_eq_some_iff.1 hx).1
  have hn : ts.length = n := by
    obtain ⟨p, c', e, -⟩ := own_slice h.row
    cases e; rfl
  subst hn
  refine h.upd hx _ ?_ ?_ ?_ ?_
  · have := rowSet h.row (j := i * 5 + 3) (by omega) (.int .i64 r)
    rw [pcells_setD hx (y := ⟨{ x.o with room := r }, x.lv⟩) (by omega) (by rfl)] at this
    exact this
  · have hl := h.lst x (List.mem_of_getElem? hx)
    exact row_kept hl (fun k e => heap_setCell_other _ ⟨g, i * 5 + 3, none⟩ _ _ (val_obj_ne h.row hl e))
  · intro k j z hj hz e
    exact heap_setCell_other _ ⟨g, i * 5 + 3, none⟩ _ _ (val_obj_ne h.row (h.lst z (List.mem_of_getElem? hz)) e)
  · intro k e
    exact .inl e

theorem heap_drewP (W : World) : W.drew.heap = W.heap := rfl

theorem set5_rowD {W : World} {g : Nat} {a b c d e x0 x1 x2 x3 x4 : Value} {t : TypeId} (h : W.heap[g]? = some (.cells #[a, b, c, d, e] t (0, 0))) : (((((W.setCell ⟨g, 0, none⟩ x0).setCell ⟨g, 1, none⟩ x1).setCell ⟨g, 2, none⟩ x2).setCell ⟨g, 3, none⟩ x3).setCell ⟨g, 4, none⟩ x4).drew.heap[g]? = some (.cells #[x0, x1, x2, x3, x4] t (0, 0)) := by
  simp only [heap_drewP]
  exact set5_row h

theorem DidR.drew {S : List Om} {v : Vl} {t : ByteArray} {n : Int} {e : Ending} {w' : World} (h : DidR w S v t n e w') : DidR w S v t n e w'.drew := by
  obtain ⟨p, c, he, ⟨ts, hm, ho⟩, hb⟩ := h
  exact ⟨p, c, he, ⟨ts, hm, ho.kept (fun _ _ _ => rfl)⟩, below_drew hb⟩

end Go.Proofs.Ytgokofomoachaaa
