/- show's each, for Words. -/
import Derived.Test.YtgokofomoachaaaShWords
namespace Go.Proofs.Ytgokofomoachaaa
set_option linter.unusedVariables false
set_option linter.unusedSimpArgs false
open Go.RowKit

variable {w : World}

/-- What stands before a round. -/
def EachW (w0 : World) (bt bM bn bp c : Nat) (p : Option Addr) (S : List Om) (roots : List Vl) (m : Nat) (w : World) : Prop :=
  ∃ (t : Tr) (vt : Value) (done : List Int), IsTo w0.heap.size bt bM (.slice p S.length c) vt (100000 + 100000 * done.length) t w ∧ Way S roots t done ∧ w.heap[bn]? = some (.cells #[.int .i64 (sumAt S done : Nat)] 3 (0, 0)) ∧ w.heap[bp]? = some (.cells #[.pointer (some ⟨bt, 0, none⟩)] 71 (0, 0)) ∧ Below w0.heap.size w0 w ∧ m = S.length - done.length

theorem list_snoc (l : List Int) (h : l ≠ []) : ∃ a x, l = a ++ [x] := ⟨l.dropLast, l.getLast h, (List.dropLast_concat_getLast h).symm⟩

set_option maxRecDepth 20000 in
set_option maxHeartbeats 2000000 in
theorem eachW_in {w0 : World} {bt bM bn bp c : Nat} {p : Option Addr} {S : List Om} {roots : List Vl} (hs : IsSt w0 p S) (hf : Fair S) (hbase : w0.heap.size ≤ bn) (h : ∃ m, EachW w0 bt bM bn bp c p S roots m w) :
    Calls Try.prog 45 #[.pointer (some ⟨bt, 0, none⟩), .func (.func 74) #[] #[.pointer (some ⟨bn, 0, none⟩), .pointer (some ⟨bp, 0, none⟩)]] w fun e w' => e = .returned (.bool true) ∧ w'.heap[bn]? = some (.cells #[.int .i64 (wordsR S roots : Nat)] 3 (0, 0)) ∧ Below w0.heap.size w0 w' := by
  have hlen := hf.len
  have hSm : S.length ≤ maxLen := Nat.le_trans hlen (by unfold maxLen; decide)
  go_enter Try.func45, Try.ntmps45
  go_wp2
  go_loopw [5] (fun k wr => ∃ m, EachW w0 bt bM bn bp c p S roots m wr) (fun k wr => least (EachW w0 bt bM bn bp c p S roots) wr)
  case atStart => exact h
  case round =>
    have hl := least_at hrel
    generalize hm : least (EachW w0 bt bM bn bp c p S roots) wr = m at hl
    obtain ⟨t, vt, done, hto, hway, hbn, hbp, hB, rfl⟩ := hl
    cases htd : t.todo with
    | nil =>
      obtain ⟨pv, cv, rfl, -, -, -⟩ := row_form hto.todo
      rw [htd] at hto
      obtain ⟨⟨t0, t1, t2⟩, -⟩ := cell_row3 hto.blk
      have HW : Hid _ := hway
      have HM : Hid _ := hm
      clear hm hway
      simp only [List.length_nil] at t2
      go_wp2
      go_ret
      have hway := HW.out
      obtain ⟨cnt, todo⟩ := t
      simp only at htd
      subst htd
      exact ⟨rfl, by rw [← hway.sum]; exact hbn, hB⟩
    | cons y r =>
      obtain ⟨a, x, hax⟩ := list_snoc t.todo (by rw [htd]; simp)
      obtain ⟨cnt, todo⟩ := t
      simp only at hax htd
      subst hax
      clear htd
      obtain ⟨pv, cv, rfl, hcl, hcm, hpg⟩ := row_form hto.todo
      obtain ⟨g, rfl⟩ := hpg (by simp)
      have hle : (a ++ [x]).length = a.length + 1 := by simp
      simp only [hle] at hto hcl
      have hlenW := hway.len
      obtain ⟨hx1, hx2, o, hobj, hk3, hk7⟩ := (hway.rch x (by simp)).num
      obtain ⟨hoS, i, hxi, hiS, hSi⟩ := objAt_mem hobj
      have hnd : x ∉ done := fun hm => by
        have := hway.nod
        rw [List.nodup_append] at this
        exact this.2.2 x (by simp) x hm rfl
      have hsum := sumAt_cons hnd hobj
      have hdl : (x :: done).length = done.length + 1 := by simp
      have hway2 := hway.step hobj
      have hdone : done.length < S.length := by simp at hlenW; omega
      obtain ⟨hpo, hSo⟩ := hto.popped
      have hcell : wr.cell? ⟨g, a.length, none⟩ = some (.int .i64 x) := row_cell (by have := hto.todo; simp only [hle] at this; exact this) (by simp) (by omega)
      obtain ⟨⟨t0, t1, t2⟩, ff0, ff1, ff2⟩ := cell_row3 hto.blk
      have hBW : Below w0.heap.size w0 (wr.setCell ⟨bt, 2, none⟩ (.slice (some ⟨g, 0, none⟩) a.length cv)) := hB.trans (hto.below0 hSo)
      obtain ⟨b0, off, hp0, s0, s1, ⟨q, cq, s2, hvq, -⟩, s3, s4⟩ := hs.look hBW hSi
      have hbn2 : (wr.setCell ⟨bt, 2, none⟩ (.slice (some ⟨g, 0, none⟩) a.length cv)).heap[bn]? = _ := (heap_setCell_other wr ⟨bt, 2, none⟩ bn _ (by rintro rfl; rw [hto.blk] at hbn; cases hbn)).trans hbn
      have hbp2 : (wr.setCell ⟨bt, 2, none⟩ (.slice (some ⟨g, 0, none⟩) a.length cv)).heap[bp]? = _ := (heap_setCell_other wr ⟨bt, 2, none⟩ bp _ (by rintro rfl; rw [hto.blk] at hbp; cases hbp)).trans hbp
      have hov := hf.vals o hoS
      have hsl := sumAt_le hf (x :: done)
      have hno : sumAt S done + wordsO o ≤ 9223372036854775807 := by rw [Nat.add_comm, ← hsum]; exact Nat.le_trans hsl (by decide)
      have hKo : 100000 + 100000 * done.length + o.l.length ≤ 1099511627776 := by omega
      have ha40 : a.length ≤ 100000 + 100000 * 1048576 := by have := hto.len; simp only [hle] at this; omega
      have hV := visitW_in (qc := cq) (w := wr.setCell ⟨bt, 2, none⟩ (.slice (some ⟨g, 0, none⟩) a.length cv)) hs hSm hvq hBW hpo hKo (hf.str o hoS) (by omega) (hf.room o hoS) hno hbase hbn2 hbp2
      unfold objV at hV
      have hpos : (0 : Int) < ((a.length + 1 : Nat) : Int) := by omega
      have hii : (i : Int) < (S.length : Int) := by omega
      have hal : (a.length : Int) < ((a.length + 1 : Nat) : Int) := by omega
      have hac : (a.length : Int) ≤ (cv : Int) := by omega
      have hw2 : IntKind.i64.wrap (x - 1) = i := by
        clear hV hno hsum hsl hto hpo hSo hway hway2 hlenW hm hBW hbn2 hbp2
        rw [IntKind.wrap_i64]; omega
      have hw1 : wrap64 (a.length : Int) = a.length := by
        clear hV hno hsum hsl hto hpo hSo hway hway2 hlenW hm hBW hbn2 hbp2
        unfold wrap64; omega
      subst hp0
      have HH : Hid _ := And.intro hsum (And.intro hway2 (And.intro hdl (And.intro hBW hdone)))
      clear hsum hway2 hm hway hxi hSi hobj hle hdl hlenW hs hvq hBW hpo hSo hnd hbn2 hbp2 hdone hsl hx1 hx2 hcl hcm hno hKo hSm hov
      go_wp2_with (first
        | (go_at_call 74; refine hV.mono ?_; clear hV; rintro e w3 ⟨rfl, vt', hto3, hbn3, hbp3, hB3⟩))
      obtain ⟨hsum, hway2, hdl, hBW, hdone⟩ := HH.out
      have key : EachW w0 bt bM bn bp c (some ⟨b0, off, none⟩) S roots (S.length - (done.length + 1)) w3 := by
        refine ⟨_, vt', x :: done, hto3.more ?_, hway2, ?_, hbp3, hBW.trans hB3, by rw [hdl]⟩
        · rw [hdl]
          have := hf.vals o hoS
          omega
        · rw [hsum, Nat.add_comm]; exact hbn3
      refine ⟨⟨_, key⟩, ?_⟩
      have := least_le key
      omega

/-- A new tour. -/
theorem tourOf_in {p : Option Addr} {n c : Nat} (w : World) :
    Calls Try.prog 43 #[.slice p n c] w fun e w' => ∃ bt bM, e = .returned (.pointer (some ⟨bt, 0, none⟩)) ∧ IsTo w.heap.size bt bM (.slice p n c) (.slice none 0 0) 0 ⟨fun _ => 0, []⟩ w' ∧ Below w.heap.size w w' := by
  have hmm := @run_makeMap Try.prog
  go_enter Try.func43, Try.ntmps43
  go_wp2
  go_ret
  refine ⟨_, _, rfl, ⟨by omega, Nat.le_refl _, heap_two _ _ _, ?_, ?_, by simp⟩, below2' _ _ _⟩
  · have h0 : IsCnt (w.alloc (Obj.map #[] 0)) w.heap.size 0 (fun _ => 0) := ⟨.map [], World.ownsMap_made _ _ _ _, fun x => ⟨by simp [DataW.atKey], Nat.le_refl _⟩⟩
    exact h0.kept (Below.heap_alloc _ _ _ (by simp))
  · exact World.ownsRow_nil _ _ _ _

set_option maxRecDepth 20000 in
set_option maxHeartbeats 2000000 in
/-- show's Words. -/
theorem Words_in {p q : Option Addr} {S : List Om} {roots : List Vl} (c cq : Nat) (hs : IsSt w p S) (hf : Fair S) (hv : Vals w q roots) (hr : roots.length ≤ 100000) :
    Calls Try.prog 72 #[.slice p S.length c, .slice q roots.length cq] w fun e w' => e = .returned (.int .i64 (wordsR S roots : Nat)) ∧ Below w.heap.size w w' := by
  have hlen := hf.len
  have hSm : S.length ≤ maxLen := Nat.le_trans hlen (by unfold maxLen; decide)
  have H1 := tourOf_in (p := p) (n := S.length) (c := c) w
  have H2 := fun (w1 : World) (vt : Value) (t : Tr) (bt bM : Nat) (hB : Below w.heap.size w w1) ht => meet_in (cq := cq) (vt := vt) (t := t) (K := 0) (bt := bt) (bM := bM) (c := c) (w := w1) hs hSm hv hB ht (by omega)
  go_enter Try.func72, Try.ntmps72
  go_wp2_with (first
    | (go_at_call 43; refine H1.mono ?_; clear H1; rintro e w1 ⟨bt, bM, rfl, hto, hB1⟩; have hto1 := hto.below (below1 w1 (.cells #[.pointer (some ⟨bt, 0, none⟩)] 71)); have hB1' := hB1.alloc hB1.size (.cells #[.pointer (some ⟨bt, 0, none⟩)] 71); have hbp := heap_alloc_new w1 (.cells #[.pointer (some ⟨bt, 0, none⟩)] 71); obtain ⟨c0, -⟩ := cell_row1 hbp)
    | (go_at_call 60; refine (H2 _ _ _ _ _ hB1' hto1).mono ?_; clear H2; rintro e w2 ⟨rfl, vt', hto2, hS2⟩
       have hbl := hto.lt; have hMl := hto.cnt.lt
       have hbp2 := (hS2.block w1.heap.size (by simp) (by omega) (by omega) (by simp [Value.ownBlock])).trans hbp
       have hB2 : Below w.heap.size w w2 := hB1'.trans (hto1.below0 hS2)
       have hbp3 := (Below.heap_alloc w2 (.cells #[.int .i64 0] 3) _ (Array.getElem?_eq_some_iff.1 hbp2).1).trans hbp2
       have hbn3 := heap_alloc_new w2 (.cells #[.int .i64 0] 3)
       have hto3 := hto2.below (below1 w2 (.cells #[.int .i64 0] 3))
       have hB3 := hB2.alloc hB2.size (.cells #[.int .i64 0] 3)
       have H3 := eachW_in (bp := w1.heap.size) (bn := w2.heap.size) (c := c) (roots := roots) hs hf hB2.size ⟨_, _, vt', [], hto3.more (by simp; omega), Way.start S roots, (by rw [sumAt_nil]; exact hbn3), hbp3, hB3, rfl⟩
       obtain ⟨p0, -⟩ := cell_row1 hbp3; clear hbp2 hbp3 hbn3 hbp c0)
    | (go_at_call 45; refine H3.mono ?_; clear H3; rintro e w3 ⟨rfl, hbn4, hB4⟩; obtain ⟨n0, -⟩ := cell_row1 hbn4))
  go_ret
  exact ⟨rfl, hB4⟩

end Go.Proofs.Ytgokofomoachaaa
