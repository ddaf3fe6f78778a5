/- A store of one's own: one object is changed. -/
import Derived.Test.YtgokofomoachaaaPmKey
namespace Go.Proofs.Ytgokofomoachaaa
set_option linter.unusedVariables false
set_option linter.unusedSimpArgs false
open Go.RowKit

variable {w : World}

theorem OwnSt.upd {base : Nat} {v : Value} {ts : List Po} {w w' : World} (h : OwnSt base v ts w) {i : Nat} {x : Po} (hx : ts[i]? = some x) (y : Po) (hrow : w'.ownsRow base 39 5 v ts.length (pcells (ts.set i y))) (hy : w'.ownsRow base 26 2 y.lv y.o.l.length (vcells y.o.l))
    (hoth : ∀ (k j : Nat) (z : Po), j ≠ i → ts[j]? = some z → z.lv.ownBlock = some k → w'.heap[k]? = w.heap[k]?) (hne : ∀ k, y.lv.ownBlock = some k → x.lv.ownBlock = some k ∨ w.heap.size ≤ k) : OwnSt base v (ts.set i y) w' := by
  have hi := (List.getElem?_eq_some_iff.1 hx).1
  have hcase : ∀ (j : Nat) (z : Po), (ts.set i y)[j]? = some z → (j = i ∧ z = y) ∨ (j ≠ i ∧ ts[j]? = some z) := fun j z hz => by
    by_cases hj : j = i
    · subst hj
      rw [List.getElem?_set_self hi] at hz
      cases hz
      exact .inl ⟨rfl, rfl⟩
    · rw [List.getElem?_set_ne (fun e => hj e.symm)] at hz
      exact .inr ⟨hj, hz⟩
  refine ⟨by rw [List.length_set]; exact hrow, ?_, ?_⟩
  · intro z hz
    obtain ⟨j, hj⟩ := List.getElem?_of_mem hz
    rcases hcase j z hj with ⟨-, rfl⟩ | ⟨hji, hzj⟩
    · exact hy
    · exact row_kept (h.lst z (List.mem_of_getElem? hzj)) (fun k e => hoth k j z hji hzj e)
  · have hold : ∀ (j : Nat) (z : Po) (k : Nat), j ≠ i → ts[j]? = some z → z.lv.ownBlock = some k → y.lv.ownBlock = some k → False := fun j z k hji hz h1 h2 => by
      rcases hne k h2 with h3 | h3
      · exact hji (h.one j i z x k hz hx h1 h3)
      · have := ((h.lst z (List.mem_of_getElem? hz)).lt k h1).2; omega
    intro a b z z' k hz hz' h1 h2
    rcases hcase a z hz with ⟨rfl, e1⟩ | ⟨ha, hza⟩ <;> rcases hcase b z' hz' with ⟨e, e2⟩ | ⟨hb, hzb⟩
    · exact e.symm
    · rw [e1] at h1; exact (hold b z' k hb hzb h2 h1).elim
    · rw [e2] at h2; subst e; exact (hold a z k ha hza h1 h2).elim
    · exact h.one a b z z' k hza hzb h1 h2

theorem pcells_same {ts : List Po} {i : Nat} {x y : Po} (hx : ts[i]? = some x) (he : pcell y = pcell x) : pcells (ts.set i y) = pcells ts := by
  apply List.ext_getElem?
  intro j
  by_cases hj : j < ts.length * 5
  · have hd : j / 5 < ts.length := by omega
    obtain ⟨z, hz⟩ : ∃ z, ts[j / 5]? = some z := ⟨ts[j / 5], by simp⟩
    have e1 := pcells_get ts (j / 5) z hz (j % 5) (by omega)
    rw [show j / 5 * 5 + j % 5 = j by omega] at e1
    by_cases hij : j / 5 = i
    · subst hij
      rw [hx] at hz; cases hz
      have e2 := pcells_get (ts.set (j / 5) y) (j / 5) y (List.getElem?_set_self hd) (j % 5) (by omega)
      rw [show j / 5 * 5 + j % 5 = j by omega] at e2
      rw [e1, e2, he]
    · have e2 := pcells_get (ts.set i y) (j / 5) z (by rw [List.getElem?_set_ne (by omega)]; exact hz) (j % 5) (by omega)
      rw [show j / 5 * 5 + j % 5 = j by omega] at e2
      rw [e1, e2]
  · have e1 : (pcells (ts.set i y))[j]? = none := by rw [List.getElem?_eq_none_iff, pcells_len, List.length_set]; omega
    have e2 : (pcells ts)[j]? = none := by rw [List.getElem?_eq_none_iff, pcells_len]; omega
    rw [e1, e2]

theorem vcells_put : ∀ (l : List Vl) (j : Nat) (u : Vl), j < l.length → ((vcells l).set (j * 2) (.int .u8 u.k)).set (j * 2 + 1) (.int .i64 u.n) = vcells (l.set j u)
  | [], j, u, h => by simp at h
  | v :: r, 0, u, _ => by simp [vcells]
  | v :: r, j + 1, u, h => by
    have := vcells_put r j u (by simpa using h)
    rw [show (j + 1) * 2 = j * 2 + 2 by omega]
    simpa [vcells] using this

/-- A value of a list is another one. -/
theorem OwnSt.put {base : Nat} {v : Value} {ts : List Po} {w : World} (h : OwnSt base v ts w) {i : Nat} {x : Po} (hx : ts[i]? = some x) {gl cl : Nat} (hlv : x.lv = .slice (some ⟨gl, 0, none⟩) x.o.l.length cl) {j : Nat} (hj : j < x.o.l.length) (u : Vl) :
    OwnSt base v (ts.set i ⟨{ x.o with l := x.o.l.set j u }, x.lv⟩) ((w.setCell ⟨gl, j * 2, none⟩ (.int .u8 u.k)).setCell ⟨gl, j * 2 + 1, none⟩ (.int .i64 u.n)) := by
  have hk : ∀ k, k ≠ gl → ((w.setCell ⟨gl, j * 2, none⟩ (.int .u8 u.k)).setCell ⟨gl, j * 2 + 1, none⟩ (.int .i64 u.n)).heap[k]? = w.heap[k]? := fun k hk => by
    rw [heap_setCell_other _ ⟨gl, j * 2 + 1, none⟩ _ _ hk, heap_setCell_other _ ⟨gl, j * 2, none⟩ _ _ hk]
  have hl := h.lst x (List.mem_of_getElem? hx)
  have hgl : x.lv.ownBlock = some gl := by rw [hlv]; rfl
  refine h.upd hx _ ?_ ?_ ?_ ?_
  · rw [pcells_same hx (by rfl)]
    refine row_kept h.row (fun k e => hk k (fun e2 => ?_))
    obtain ⟨c1, h1⟩ := row_obj h.row e
    obtain ⟨c2, h2⟩ := row_obj hl hgl
    subst e2
    rw [h1] at h2; cases h2
  · dsimp only
    rw [hlv] at hl ⊢
    have := rowSet (rowSet hl (j := j * 2) (by omega) (.int .u8 u.k)) (j := j * 2 + 1) (by omega) (.int .i64 u.n)
    rw [vcells_put _ _ _ hj] at this
    rw [List.length_set]
    exact this
  · intro k a z ha hz e
    refine hk k (fun e2 => ha ?_)
    subst e2
    exact h.one a i z x k hz hx e hgl
  · intro k e
    exact .inl e

/-- What a store that is one's own says of an object. -/
theorem OwnSt.at_ {base : Nat} {v : Value} {ts : List Po} {S : List Om} (h : OwnSt base v ts w) (hm : ts.map Po.o = S) {i : Nat} {o : Om} (hi : S[i]? = some o) : ∃ x g n c, ts[i]? = some x ∧ x.o = o ∧ v = .slice (some ⟨g, 0, none⟩) n c ∧ n = S.length ∧ w.cell? ⟨g, i * 5 + 2, none⟩ = some x.lv ∧ w.cell? ⟨g, i * 5 + 3, none⟩ = some (.int .i64 o.room) ∧ (∃ q cl, x.lv = .slice q o.l.length cl ∧ (0 < o.l.length → ∃ gl, q = some ⟨gl, 0, none⟩)) := by
  have hlen : ts.length = S.length := by rw [← hm]; simp
  rw [← hm, List.getElem?_map] at hi
  cases hx : ts[i]? with
  | none => rw [hx] at hi; simp at hi
  | some x =>
    rw [hx] at hi; simp at hi
    have hlt := (List.getElem?_eq_some_iff.1 hx).1
    obtain ⟨p, c, hv, -, hg, -⟩ := own_slice h.row
    obtain ⟨g, rfl⟩ := hg (by omega)
    have hr := h.row
    rw [hv] at hr
    obtain ⟨c0, c1, c2, c3, c4⟩ := cell_pcells hr rfl hx
    obtain ⟨q, cl, hq, -, hg2, -⟩ := own_slice (h.lst x (List.mem_of_getElem? hx))
    exact ⟨x, g, _, c, rfl, hi, hv, hlen, c2, by rw [← hi]; exact c3, q, cl, by rw [← hi]; exact hq, by rw [← hi]; exact hg2⟩

end Go.Proofs.Ytgokofomoachaaa
