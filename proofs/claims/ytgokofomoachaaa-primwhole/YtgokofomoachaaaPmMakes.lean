/- makes: a new object behind a store. -/
import Derived.Test.YtgokofomoachaaaPmDid
import Derived.Test.YtgokofomoachaaaShEachW
import Derived.Deep.AppendLies
import Derived.Deep.Cut
namespace Go.Proofs.Ytgokofomoachaaa
set_option linter.unusedVariables false
set_option linter.unusedSimpArgs false
open Go.RowKit

variable {w : World}

theorem OwnSt.snoc {base : Nat} {p : Option Addr} {n c : Nat} {v' : Value} {ts : List Po} {x : Po} {W w4 : World} (h : OwnSt base (.slice p n c) ts W) (hx : W.ownsRow base 26 2 x.lv x.o.l.length (vcells x.o.l)) (hne : ∀ y ∈ ts, ∀ k, y.lv.ownBlock = some k → x.lv.ownBlock ≠ some k)
    (hrow : w4.ownsRow base 39 5 v' (ts.length + 1) (pcells ts ++ pcell x)) (hg : W.grownBy w4 (Value.slice p n c).ownBlock) : OwnSt base v' (ts ++ [x]) w4 := by
  have hk : ∀ (k : Nat) {m : Nat} {v : Value} {ys : List Value}, W.ownsRow base 26 2 v m ys → v.ownBlock = some k → w4.heap[k]? = W.heap[k]? := fun k m v ys hr e => by
    refine hg.block k (hr.lt k e).2 (fun e2 => ?_)
    obtain ⟨c1, h1⟩ := row_obj hr e
    obtain ⟨c2, h2⟩ := row_obj h.row e2.symm
    rw [h1] at h2; cases h2
  refine ⟨?_, ?_, ?_⟩
  · rw [pcells_append]
    simpa [pcells] using hrow
  · intro y hy
    rcases List.mem_append.1 hy with hy | hy
    · exact row_kept (h.lst y hy) (fun k e => hk k (h.lst y hy) e)
    · simp at hy; subst hy
      exact row_kept hx (fun k e => hk k hx e)
  · have hcase : ∀ (i : Nat) (y : Po), (ts ++ [x])[i]? = some y → ts[i]? = some y ∨ (i = ts.length ∧ y = x) := fun i y hy => by
      by_cases hi : i < ts.length
      · rw [List.getElem?_append_left hi] at hy; exact .inl hy
      · rw [List.getElem?_append_right (by omega)] at hy
        have := (List.getElem?_eq_some_iff.1 hy).1
        simp at this
        have hi' : i = ts.length := by omega
        subst hi'
        simp at hy
        exact .inr ⟨rfl, hy.symm⟩
    intro i j y z k hy hz h1 h2
    rcases hcase i y hy with hy' | ⟨rfl, e1⟩ <;> rcases hcase j z hz with hz' | ⟨rfl, e2⟩
    · exact h.one i j y z k hy' hz' h1 h2
    · rw [e2] at h2; exact (hne y (List.mem_of_getElem? hy') k h1 h2).elim
    · rw [e1] at h1; exact (hne z (List.mem_of_getElem? hz') k h2 h1).elim
    · rfl

theorem words_alone {o : Om} (h3 : 3 ≤ o.k) (h7 : o.k ≤ 7) : wordsR [o] [⟨o.k, 1⟩] = wordsO o := by
  have hl : leadO [o] ⟨o.k, 1⟩ ≠ none := by
    unfold leadO
    rw [if_pos ⟨h3, h7, by simp, by simp⟩]
    simp
  have hr : Reach [o] [⟨o.k, 1⟩] 1 := Reach.root (v := ⟨o.k, 1⟩) (by simp) hl
  unfold wordsR
  simp [sumIf, hr]

/-- One object in a block of its own is a store. -/
theorem one_st {W : World} {b : Nat} {o : Om} {q : Option Addr} {cq : Nat} (h : W.heap[b]? = some (.cells #[.int .u8 o.k, .string o.s, .slice q o.l.length cq, .int .i64 o.room, .int .i64 o.fn] 39 (0, 0))) (hv : Vals W q o.l) (hq : q = none → cq = 0) : IsSt W (some ⟨b, 0, none⟩) [o] := by
  intro j x hj
  have hj0 : j = 0 := by have := (List.getElem?_eq_some_iff.1 hj).1; simp at this; omega
  subst hj0
  simp at hj; subst hj
  obtain ⟨⟨c0, c1, c2, c3, c4⟩, -⟩ := cell_row5 h
  exact ⟨b, 0, rfl, by simpa using c0, by simpa using c1, ⟨q, cq, by simpa using c2, hv, hq⟩, by simpa using c3, by simpa using c4⟩

theorem one_val {W : World} {b : Nat} {v : Vl} (h : W.heap[b]? = some (.cells #[.int .u8 v.k, .int .i64 v.n] 26 (0, 0))) : Vals W (some ⟨b, 0, none⟩) [v] := by
  intro j x hj
  have hj0 : j = 0 := by have := (List.getElem?_eq_some_iff.1 hj).1; simp at this; omega
  subst hj0
  simp at hj; subst hj
  obtain ⟨c0, c1⟩ := cell_row2 h
  exact ⟨b, 0, rfl, by simpa using c0, by simpa using c1⟩

theorem pcell_news {W : World} {b : Nat} {x : Po} (h : W.heap[b]? = some (.cells #[.int .u8 x.o.k, .string x.o.s, x.lv, .int .i64 x.o.room, .int .i64 x.o.fn] 39 (0, 0))) : ∀ j u, (pcell x)[j]? = some u → W.cell? ((⟨b, 0, none⟩ : Addr).add j) = some u := by
  intro j u hj
  rw [Addr.add_lit, cell_of_row W b _ _ _ _ h]
  simpa [pcell] using hj

theorem pcell_one (o : Om) {q : Option Addr} (cq : Nat) : ∀ u ∈ pcell ⟨o, .slice q o.l.length cq⟩, u.oneCell' = true := by
  intro u hu
  simp [pcell] at hu
  rcases hu with rfl | rfl | rfl | rfl | rfl <;> rfl

theorem mk_row {base base' : Nat} {p1 : Option Addr} {S : List Om} {c1 : Nat} {ts : List Po} {wc wr : World} {X : Obj} (ho : OwnSt base' (.slice p1 S.length c1) ts wc) (hm : ts.map Po.o = S) (hB : Below wc.heap.size wc wr) (hb : base ≤ base') : (wr.alloc X).ownsRow base 39 5 (.slice p1 S.length c1) S.length (pcells ts) := by
  have hl : ts.length = S.length := by rw [← hm]; simp
  have := row_mono2 (row_below (row_below ho.row hB) (below1 wr X)) hb
  rw [hl] at this
  exact this

/-- What stands behind the first part. -/
def MkS (w : World) (S : List Om) (o : Om) (q : Option Addr) (cq : Nat) (s : Value) (W : World) : Prop :=
  ∃ p c ts, s = .slice p (S.length + 1) c ∧ ts.map Po.o = S ++ [o] ∧ OwnSt w.heap.size (.slice p (S.length + 1) c) ts W ∧ Below w.heap.size w W ∧ W.heap[w.heap.size]? = some (.cells #[.int .u8 o.k, .string o.s, .slice q o.l.length cq, .int .i64 o.room, .int .i64 o.fn] 39 (0, 0)) ∧ W.heap[w.heap.size + 1]? = some (.cells #[.slice none 0 0, .int .u8 0, .int .i64 0, .string ⟨#[]⟩, .int .i64 0] 28 (0, 0))

theorem mks_fin {S : List Om} {o : Om} {q : Option Addr} {cq : Nat} {W Wa w4 : World} {p1 : Option Addr} {c1 : Nat} {ts : List Po} {lv : Value} (hm : ts.map Po.o = S) (ho : OwnSt w.heap.size (.slice p1 S.length c1) ts Wa) (hlv : Wa.ownsRow w.heap.size 26 2 lv o.l.length (vcells o.l)) (hne : ∀ y ∈ ts, ∀ k, y.lv.ownBlock = some k → lv.ownBlock ≠ some k)
    (hWa : Below W.heap.size W Wa) (hw : Below w.heap.size w W) (hb0 : W.heap[w.heap.size]? = some (.cells #[.int .u8 o.k, .string o.s, .slice q o.l.length cq, .int .i64 o.room, .int .i64 o.fn] 39 (0, 0))) (hb1 : W.heap[w.heap.size + 1]? = some (.cells #[.slice none 0 0, .int .u8 0, .int .i64 0, .string ⟨#[]⟩, .int .i64 0] 28 (0, 0)))
    (hfar : ∀ g, (Value.slice p1 S.length c1).ownBlock = some g → w.heap.size + 2 ≤ g) {g4 c4 : Nat} (hrow : w4.ownsRow w.heap.size 39 5 (.slice (some ⟨g4, 0, none⟩) (S.length + 1) c4) (S.length + 1) (pcells ts ++ pcell ⟨o, lv⟩)) (hg : Wa.grownBy w4 (Value.slice p1 S.length c1).ownBlock) : MkS w S o q cq (.slice (some ⟨g4, 0, none⟩) (S.length + 1) c4) w4 := by
  have hl : ts.length = S.length := by rw [← hm]; simp
  have hB : Below w.heap.size w Wa := hw.trans (hWa.mono hw.size)
  have hk : ∀ k, k < w.heap.size + 2 → k < W.heap.size → w4.heap[k]? = W.heap[k]? := fun k h1 h2 =>
    (hg.block k (Nat.lt_of_lt_of_le h2 hWa.size) (fun e => by have := hfar k e.symm; omega)).trans (hWa.block k h2)
  refine ⟨_, _, ts ++ [⟨o, lv⟩], rfl, by simp [hm], OwnSt.snoc ho hlv hne (by rw [hl]; exact hrow) hg, ?_, ?_, ?_⟩
  · exact hB.trans (rbelow_grown hg (fun g e => by have := hfar g e; omega) hB.size)
  · rw [hk _ (by omega) (Array.getElem?_eq_some_iff.1 hb0).1]; exact hb0
  · rw [hk _ (by omega) (Array.getElem?_eq_some_iff.1 hb1).1]; exact hb1

end Go.Proofs.Ytgokofomoachaaa
