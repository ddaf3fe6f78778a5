/- makes: a new object behind a store. -/
import Derived.Test.YtgokofomoachaaaGreatDoorPnDeed
import Derived.Test.YtgokofomoachaaaGreatDoorShCheck
import Derived.Deep.AppendLies
import Derived.Deep.Cut
import Derived.Test.YtgokofomoachaaaGreatDoorPmSets
import Derived.Lib.MinMax
namespace Go.Proofs.YtgokofomoachaaaGreatDoor
set_option linter.unusedVariables false
set_option linter.unusedSimpArgs false
open Go.RowKit

variable {w : World}

theorem OwnSt.snoc {base : Nat} {p : Option Addr} {n c : Nat} {v' : Value} {ts : List Po} {x : Po} {W w4 : World} (h : OwnSt base (.slice p n c) ts W) (hx : W.ownsRow base 27 2 x.lv x.o.l.length (vcells x.o.l)) (hne : ∀ y ∈ ts, ∀ k, y.lv.ownBlock = some k → x.lv.ownBlock ≠ some k)
    (hrow : w4.ownsRow base 96 5 v' (ts.length + 1) (pcells ts ++ pcell x)) (hg : W.grownBy w4 (Value.slice p n c).ownBlock) : OwnSt base v' (ts ++ [x]) w4 := by
  have hk : ∀ (k : Nat) {m : Nat} {v : Value} {ys : List Value}, W.ownsRow base 27 2 v m ys → v.ownBlock = some k → w4.heap[k]? = W.heap[k]? := fun k m v ys hr e => by
    refine hg.block k (hr.lt k e).2 (fun e2 => ?_)
    obtain ⟨c1, h1⟩ := row_obj hr e
    obtain ⟨c2, h2⟩ := row_obj h.row e2.symm
    rw [h1] at h2; cases h2
  refine ⟨?_, ?_, ?_⟩
  · rw [pcells_append]
    simpa [pcells] using hrow
  · intro y hy
    rcases List.mem_append.1 hy with hy | hy
    · exact row_kept (h.lst y hy) (fun k e => hk k (h.lst y hy) e)
    · simp at hy; subst hy
      exact row_kept hx (fun k e => hk k hx e)
  · have hcase : ∀ (i : Nat) (y : Po), (ts ++ [x])[i]? = some y → ts[i]? = some y ∨ (i = ts.length ∧ y = x) := fun i y hy => by
      by_cases hi : i < ts.length
      · rw [List.getElem?_append_left hi] at hy; exact .inl hy
      · rw [List.getElem?_append_right (by omega)] at hy
        have := (List.getElem?_eq_some_iff.1 hy).1
        simp at this
        have hi' : i = ts.length := by omega
        subst hi'
        simp at hy
        exact .inr ⟨rfl, hy.symm⟩
    intro i j y z k hy hz h1 h2
    rcases hcase i y hy with hy' | ⟨rfl, e1⟩ <;> rcases hcase j z hz with hz' | ⟨rfl, e2⟩
    · exact h.one i j y z k hy' hz' h1 h2
    · rw [e2] at h2; exact (hne y (List.mem_of_getElem? hy') k h1 h2).elim
    · rw [e1] at h1; exact (hne z (List.mem_of_getElem? hz') k h2 h1).elim
    · rfl

theorem words_alone {o : Om} (h3 : 3 ≤ o.k) (h7 : o.k ≤ 7) : wordsR [o] [⟨o.k, 1⟩] = wordsO o := by
  have hl : leadO [o] ⟨o.k, 1⟩ ≠ none := by
    unfold leadO
    rw [if_pos ⟨h3, h7, by simp, by simp⟩]
    simp
  have hr : Reach [o] [⟨o.k, 1⟩] 1 := Reach.root (v := ⟨o.k, 1⟩) (by simp) hl
  unfold wordsR
  simp [sumIf, hr]

/-- One object in a block of its own is a store. -/
theorem one_st {W : World} {b : Nat} {o : Om} {q : Option Addr} {cq : Nat} (h : W.heap[b]? = some (.cells #[.int .u8 o.k, .string o.s, .slice q o.l.length cq, .int .i64 o.room, .int .i64 o.fn] 96 (0, 0))) (hv : Vals W q o.l) (hq : q = none → cq = 0) : IsSt W (some ⟨b, 0, none⟩) [o] := by
  intro j x hj
  have hj0 : j = 0 := by have := (List.getElem?_eq_some_iff.1 hj).1; simp at this; omega
  subst hj0
  simp at hj; subst hj
  obtain ⟨⟨c0, c1, c2, c3, c4⟩, -⟩ := cell_row5 h
  exact ⟨b, 0, rfl, by simpa using c0, by simpa using c1, ⟨q, cq, by simpa using c2, hv, hq⟩, by simpa using c3, by simpa using c4⟩

theorem one_val {W : World} {b : Nat} {v : Vl} (h : W.heap[b]? = some (.cells #[.int .u8 v.k, .int .i64 v.n] 27 (0, 0))) : Vals W (some ⟨b, 0, none⟩) [v] := by
  intro j x hj
  have hj0 : j = 0 := by have := (List.getElem?_eq_some_iff.1 hj).1; simp at this; omega
  subst hj0
  simp at hj; subst hj
  obtain ⟨c0, c1⟩ := cell_row2 h
  exact ⟨b, 0, rfl, by simpa using c0, by simpa using c1⟩

theorem pcell_news {W : World} {b : Nat} {x : Po} (h : W.heap[b]? = some (.cells #[.int .u8 x.o.k, .string x.o.s, x.lv, .int .i64 x.o.room, .int .i64 x.o.fn] 96 (0, 0))) : ∀ j u, (pcell x)[j]? = some u → W.cell? ((⟨b, 0, none⟩ : Addr).add j) = some u := by
  intro j u hj
  rw [Addr.add_lit, cell_of_row W b _ _ _ _ h]
  simpa [pcell] using hj

theorem pcell_one (o : Om) {q : Option Addr} (cq : Nat) : ∀ u ∈ pcell ⟨o, .slice q o.l.length cq⟩, u.oneCell' = true := by
  intro u hu
  simp [pcell] at hu
  rcases hu with rfl | rfl | rfl | rfl | rfl <;> rfl

theorem mk_row {base base' : Nat} {p1 : Option Addr} {S : List Om} {c1 : Nat} {ts : List Po} {wc wr : World} {X : Obj} (ho : OwnSt base' (.slice p1 S.length c1) ts wc) (hm : ts.map Po.o = S) (hB : Below wc.heap.size wc wr) (hb : base ≤ base') : (wr.alloc X).ownsRow base 96 5 (.slice p1 S.length c1) S.length (pcells ts) := by
  have hl : ts.length = S.length := by rw [← hm]; simp
  have := row_mono2 (row_below (row_below ho.row hB) (below1 wr X)) hb
  rw [hl] at this
  exact this

end Go.Proofs.YtgokofomoachaaaGreatDoor

namespace Go.Proofs.YtgokofomoachaaaGreatDoor
set_option linter.unusedVariables false
set_option linter.unusedSimpArgs false
open Go.RowKit

variable {w : World}

theorem pcells_setD {ts : List Po} {i : Nat} {x y : Po} (hx : ts[i]? = some x) {d : Nat} (hd : d < 5) {v : Value} (he : pcell y = (pcell x).set d v) : (pcells ts).set (i * 5 + d) v = pcells (ts.set i y) := by
  have hi := (List.getElem?_eq_some_iff.1 hx).1
  apply List.ext_getElem?
  intro j
  rw [List.getElem?_set, pcells_len]
  by_cases hj : j < ts.length * 5
  · have hdl : j / 5 < ts.length := by omega
    obtain ⟨z, hz⟩ : ∃ z, ts[j / 5]? = some z := ⟨ts[j / 5], by simp⟩
    have e1 := pcells_get ts (j / 5) z hz (j % 5) (by omega)
    rw [show j / 5 * 5 + j % 5 = j by omega] at e1
    by_cases hij : j / 5 = i
    · subst hij
      rw [hx] at hz; cases hz
      have e2 := pcells_get (ts.set (j / 5) y) (j / 5) y (List.getElem?_set_self hdl) (j % 5) (by omega)
      rw [show j / 5 * 5 + j % 5 = j by omega] at e2
      rw [e2, he, List.getElem?_set]
      by_cases hjd : j % 5 = d
      · have hl5 : (pcell x).length = 5 := rfl
        rw [if_pos (by omega), if_pos (by omega), if_pos hjd.symm, if_pos (by omega)]
      · rw [if_neg (by omega), if_neg (fun e => hjd e.symm), e1]
    · have e2 := pcells_get (ts.set i y) (j / 5) z (by rw [List.getElem?_set_ne (by omega)]; exact hz) (j % 5) (by omega)
      rw [show j / 5 * 5 + j % 5 = j by omega] at e2
      rw [if_neg (by omega), e1, e2]
  · have e1 : (pcells (ts.set i y))[j]? = none := by rw [List.getElem?_eq_none_iff, pcells_len, List.length_set]; omega
    have e2 : (pcells ts)[j]? = none := by rw [List.getElem?_eq_none_iff, pcells_len]; omega
    rw [if_neg (by omega), e1, e2]

/-- A list has more values. -/
theorem OwnSt.more {base : Nat} {ts : List Po} {w w4 : World} {g n c : Nat} (h : OwnSt base (.slice (some ⟨g, 0, none⟩) n c) ts w) {i : Nat} {x : Po} (hx : ts[i]? = some x) {more : List Vl} {g4 c4 : Nat}
    (hown : w4.ownsRow base 27 2 (.slice (some ⟨g4, 0, none⟩) (x.o.l.length + more.length) c4) (x.o.l.length + more.length) (vcells x.o.l ++ vcells more)) (hg : w.grownBy w4 x.lv.ownBlock) (hat : x.lv.ownBlock = some g4 ∨ g4 = w.heap.size) :
    OwnSt base (.slice (some ⟨g, 0, none⟩) n c) (ts.set i ⟨{ x.o with l := x.o.l ++ more }, .slice (some ⟨g4, 0, none⟩) (x.o.l.length + more.length) c4⟩) (w4.setCell ⟨g, i * 5 + 2, none⟩ (.slice (some ⟨g4, 0, none⟩) (x.o.l.length + more.length) c4)) := by
  have hi := (List.getElem?_eq_some_iff.1 hx).1
  have hn : ts.length = n := by
    obtain ⟨p, c', e, -⟩ := own_slice h.row
    cases e; rfl
  subst hn
  have hgb := h.row.lt g rfl
  have hne : x.lv.ownBlock ≠ some g := fun e => val_obj_ne h.row (h.lst x (List.mem_of_getElem? hx)) e rfl
  have hgg : w4.heap[g]? = w.heap[g]? := hg.block g hgb.2 (fun e => hne e.symm)
  have hr4 := row_kept h.row (w' := w4) (fun k e => by cases e; exact hgg)
  have hg4 : g4 ≠ g := val_obj_ne hr4 hown rfl
  refine h.upd hx _ ?_ ?_ ?_ ?_
  · have := rowSet hr4 (j := i * 5 + 2) (by omega) (.slice (some ⟨g4, 0, none⟩) (x.o.l.length + more.length) c4)
    rw [pcells_setD hx (y := ⟨{ x.o with l := x.o.l ++ more }, .slice (some ⟨g4, 0, none⟩) (x.o.l.length + more.length) c4⟩) (by omega) (by rfl)] at this
    exact this
  · dsimp only
    rw [List.length_append, vcells_append]
    exact row_kept hown (fun k e => by cases e; exact heap_setCell_other _ ⟨g, i * 5 + 2, none⟩ _ _ hg4)
  · intro k j z hj hz e
    have hzl := h.lst z (List.mem_of_getElem? hz)
    rw [heap_setCell_other _ ⟨g, i * 5 + 2, none⟩ _ _ (val_obj_ne h.row hzl e)]
    exact hg.block k (hzl.lt k e).2 (fun e2 => hj (h.one j i z x k hz hx e e2.symm))
  · intro k e
    cases e
    rcases hat with h1 | h1
    · exact .inl h1
    · exact .inr (by show w.heap.size ≤ g4; omega)

/-- A Room is another one. -/
theorem OwnSt.room {base : Nat} {ts : List Po} {w : World} {g n c : Nat} (h : OwnSt base (.slice (some ⟨g, 0, none⟩) n c) ts w) {i : Nat} {x : Po} (hx : ts[i]? = some x) (r : Int) :
    OwnSt base (.slice (some ⟨g, 0, none⟩) n c) (ts.set i ⟨{ x.o with room := r }, x.lv⟩) (w.setCell ⟨g, i * 5 + 3, none⟩ (.int .i64 r)) := by
  have hi := (List.getElem?_eq_some_iff.1 hx).1
  have hn : ts.length = n := by
    obtain ⟨p, c', e, -⟩ := own_slice h.row
    cases e; rfl
  subst hn
  refine h.upd hx _ ?_ ?_ ?_ ?_
  · have := rowSet h.row (j := i * 5 + 3) (by omega) (.int .i64 r)
    rw [pcells_setD hx (y := ⟨{ x.o with room := r }, x.lv⟩) (by omega) (by rfl)] at this
    exact this
  · have hl := h.lst x (List.mem_of_getElem? hx)
    exact row_kept hl (fun k e => heap_setCell_other _ ⟨g, i * 5 + 3, none⟩ _ _ (val_obj_ne h.row hl e))
  · intro k j z hj hz e
    exact heap_setCell_other _ ⟨g, i * 5 + 3, none⟩ _ _ (val_obj_ne h.row (h.lst z (List.mem_of_getElem? hz)) e)
  · intro k e
    exact .inl e

theorem DidR.drew {S : List Om} {v : Vl} {t : ByteArray} {n : Int} {e : Ending} {w' : World} (h : DidR w S v t n e w') : DidR w S v t n e w'.drew := by
  obtain ⟨p, c, he, ⟨ts, hm, ho⟩, hb⟩ := h
  exact ⟨p, c, he, ⟨ts, hm, ho.kept (fun _ _ _ => rfl)⟩, below_drew hb⟩

end Go.Proofs.YtgokofomoachaaaGreatDoor
