/- prim: mayHold. -/
import Derived.Test.YtgokofomoachaaaPmFree
import Derived.Test.YtgokofomoachaaaPmZeros
namespace Go.Proofs.Ytgokofomoachaaa
set_option linter.unusedVariables false
set_option linter.unusedSimpArgs false
open Go.RowKit

variable {w : World}

def zeroO : Om := ⟨0, ⟨#[]⟩, [], 0, 0⟩

def zp : Po := ⟨zeroO, .slice none 0 0⟩

/-- A store that is made wide enough for an object with a number. -/
def wideS (S : List Om) (o : Om) (n : Nat) : List Om := S ++ List.replicate (n - S.length - 1) zeroO ++ [o]

theorem zero_pcells (m : Nat) : (Builtin.zeroCells (Value.agg #[.int .u8 0, .string ⟨#[]⟩, .slice none 0 0, .int .i64 0, .int .i64 0]).cells m).toList = pcells (List.replicate m zp) := by
  apply List.ext_getElem?
  intro j
  have hc : (Value.agg #[.int .u8 0, .string ⟨#[]⟩, .slice none 0 0, .int .i64 0, .int .i64 0]).cells = #[.int .u8 0, .string ⟨#[]⟩, .slice none 0 0, .int .i64 0, .int .i64 0] := rfl
  rw [hc]
  by_cases hj : j < m * 5
  · have e1 := pcells_get (List.replicate m zp) (j / 5) zp (by rw [List.getElem?_replicate, if_pos (by omega)]) (j % 5) (by omega)
    rw [show j / 5 * 5 + j % 5 = j by omega] at e1
    rw [e1]
    have h5 : j % 5 = 0 ∨ j % 5 = 1 ∨ j % 5 = 2 ∨ j % 5 = 3 ∨ j % 5 = 4 := by omega
    simp only [Builtin.zeroCells, Array.toList_map, List.getElem?_map, Array.toList_range, List.getElem?_range]
    simp only [List.size_toArray, List.length_cons, List.length_nil, Nat.zero_add, Nat.reduceAdd]
    rw [List.getElem?_range hj]
    rcases h5 with h5 | h5 | h5 | h5 | h5 <;> simp [h5, pcell, zp, zeroO]
  · have e1 : (pcells (List.replicate m zp))[j]? = none := by rw [List.getElem?_eq_none_iff, pcells_len, List.length_replicate]; omega
    rw [e1, List.getElem?_eq_none_iff, Array.length_toList, size_zeroCells]
    simp; omega

theorem zero_one (m : Nat) : ∀ u ∈ (Builtin.zeroCells (Value.agg #[.int .u8 0, .string ⟨#[]⟩, .slice none 0 0, .int .i64 0, .int .i64 0]).cells m).toList, u.oneCell' = true := by
  rw [zero_pcells]
  exact pcells_one (fun x hx => by rw [List.mem_replicate] at hx; rw [hx.2]; exact ⟨none, 0, rfl⟩)

theorem row_isSt {base n c : Nat} {p : Option Addr} {us : List Po} (h : w.ownsRow base 39 5 (.slice p n c) n (pcells us)) (hn : us.length = n) (hu : ∀ x ∈ us, ∃ q c, x.lv = .slice q x.o.l.length c ∧ Vals w q x.o.l ∧ (q = none → c = 0)) : IsSt w p (us.map Po.o) := by
  intro j o hj
  rw [List.getElem?_map] at hj
  cases hx : us[j]? with
  | none => rw [hx] at hj; simp at hj
  | some x =>
    rw [hx] at hj; simp at hj; subst hj
    have hlt := (List.getElem?_eq_some_iff.1 hx).1
    obtain ⟨p', c', e, -, hg, -⟩ := own_slice h
    cases e
    obtain ⟨g, rfl⟩ := hg (by omega)
    obtain ⟨q, cq, hq, hvq, hqn⟩ := hu x (List.mem_of_getElem? hx)
    obtain ⟨c0, c1, c2, c3, c4⟩ := cell_pcells h hn hx
    rw [hq] at c2
    exact ⟨g, 0, rfl, by simpa using c0, by simpa using c1, ⟨q, cq, by simpa using c2, hvq, hqn⟩, by simpa using c3, by simpa using c4⟩

/-- What mayHold says. -/
def HoldR (S : List Om) (o : Om) (w : World) (e : Ending) (w' : World) : Prop := ∃ (n : Nat) (b : Bool), FreeP S o n ∧ (b = true ↔ checkP (wideS S o n) ⟨o.k, n⟩) ∧ e = .returned (.bool b) ∧ Below w.heap.size w w'

set_option maxRecDepth 20000 in
set_option maxHeartbeats 2000000 in
theorem mayHold_in {p : Option Addr} {S : List Om} (h : Ask w p S) (c : Nat) (o : Om) {q : Option Addr} (co : Nat) (hv : Vals w q o.l) (hq : q = none → co = 0) (hof : o.fits) (hol : o.l.length ≤ 100000) (hos : o.s.size ≤ 1048576) (hsum : S.length + 1 + sumL S + o.l.length ≤ 1048576) :
    Calls Try.prog 54 #[.slice p S.length c, .agg #[.int .u8 o.k, .string o.s, .slice q o.l.length co, .int .i64 o.room, .int .i64 o.fn]] w (HoldR S o w) := by
  have hB := below1 w (.cells #[.int .u8 o.k, .string o.s, .slice q o.l.length co, .int .i64 o.room, .int .i64 o.fn] 39)
  have b0 := heap_alloc_new w (.cells #[.int .u8 o.k, .string o.s, .slice q o.l.length co, .int .i64 o.room, .int .i64 o.fn] 39)
  obtain ⟨⟨x0, x1, x2, x3, x4⟩, -⟩ := cell_row5 b0
  have HF := freeNumber_in (h.below hB) c o co (hv.below hB) hof.2.1 hsum
  obtain ⟨i0, hi0, hz0, hz1, hz2⟩ := info_parts infoO5
  have hlen := h.len
  go_enter Try.func54, Try.ntmps54
  go_wp2_with (first
    | (go_at_call 67; (with_reducible refine HF.mono ?_); clear HF; rintro e w1 ⟨n, rfl, hfree, hB1⟩; refine halt_here ?_))
  unfold Halted
  have hB1' := hB.trans (hB1.mono hB.size)
  have l0 := (Array.getElem?_eq_some_iff.1 b0).1
  have c0 := (hB1.block _ l0).trans b0
  have hn1 : S.length < n := hfree.1
  have hn2 : n ≤ 1048576 := Nat.le_trans hfree.2.1 hsum
  obtain ⟨ts, hmap, hts, hc⟩ := (h.below hB1').st.pos
  have htl : ts.length = S.length := by rw [← hmap]; simp
  have HC := cloneS_in (w := w1) c hc (fun x hx => by obtain ⟨q, c', h, -⟩ := hts x hx; exact ⟨q, c', h⟩) (by omega)
  rw [htl] at HC
  have HX : Hid _ := And.intro hmap (And.intro hts (And.intro htl hfree))
  clear x0 x1 x2 x3 x4 hB1 hmap hts hc htl hfree b0
  have hsub : (n : Int) - (S.length : Int) = ((n - S.length : Nat) : Int) := by omega
  have hm0 : 0 < n - S.length := by omega
  go_wp2_with (first
    | (go_at_call 47; (with_reducible refine HC.mono ?_); clear HC; rintro e w2 ⟨v2, rfl, hown2, hB2⟩; obtain ⟨p2, c2, rfl, -⟩ := own_slice hown2; have hB2' := hB1'.trans (hB2.mono hB1'.size))
    | (at_builtin; refine halt_here ?_))
  unfold Halted
  have hsumn : S.length + (n - S.length) = n := by omega
  refine wpList_append_zerosK _ rfl _ _ 23 3 rfl w1.heap.size 39 .i64 i0 (.agg #[.int .u8 0, .string ⟨#[]⟩, .slice none 0 0, .int .i64 0, .int .i64 0]) 5 64 Try.underlying23 Try.underlying3 hi0 hz0 (by decide) hz1 hz2 rfl zero_one _ S.length _ rfl hown2 (n - S.length) rfl hm0 (by rw [hsumn]; unfold maxLen; omega) (by rw [hsumn]; omega) hB2.size ?_
  rw [hsumn]
  intro v3 w3 hown3 hg3 hat3
  rw [zero_pcells, ← pcells_append] at hown3
  obtain ⟨p3, c3, rfl, -, hp3, -⟩ := own_slice hown3
  obtain ⟨g, rfl⟩ := hp3 (by omega)
  obtain ⟨hmap, hts, htl, hfree⟩ := HX.out
  have hul : (ts ++ List.replicate (n - S.length) zp).length = n := by rw [List.length_append, List.length_replicate, htl]; omega
  have hBg : Below w1.heap.size w1 w3 := hB2.trans (rbelow_grown hg3 (fun k e => (hown2.lt k e).1) hB2.size)
  have hB3' := hB1'.trans (hBg.mono hB1'.size)
  have l1 := (Array.getElem?_eq_some_iff.1 c0).1
  have d0 := (hBg.block _ l1).trans c0
  have hgb := hown3.lt g rfl
  have hul1 : (ts ++ List.replicate (n - S.length) zp)[n - 1]? = some zp := by
    rw [List.getElem?_append_right (by omega), List.getElem?_replicate, if_pos (by omega)]
  obtain ⟨y0, y1, y2, y3, y4⟩ := cell_pcells hown3 hul hul1
  have f0 := frozen_row hown3 ((n - 1) * 5)
  have f1 := frozen_row hown3 ((n - 1) * 5 + 1)
  have f2 := frozen_row hown3 ((n - 1) * 5 + 2)
  have f3 := frozen_row hown3 ((n - 1) * 5 + 3)
  have f4 := frozen_row hown3 ((n - 1) * 5 + 4)
  obtain ⟨⟨x0, x1, x2, x3, x4⟩, -⟩ := cell_row5 d0
  have hset := rowSetO hown3 hul (j := n - 1) (by omega) ⟨o, .slice q o.l.length co⟩
  have hne : w.heap.size ≠ g := by omega
  have hsub1 : (n : Int) - 1 = ((n - 1 : Nat) : Int) := by omega
  have hlt1 : ((n - 1 : Nat) : Int) < (n : Int) := by omega
  have d0' := (set5_other (W := w3) (g := g) (j := (n - 1) * 5) (.int .u8 o.k) (.string o.s) (.slice q o.l.length co) (.int .i64 o.room) (.int .i64 o.fn) hne).trans d0
  have hB4 : Below w.heap.size w (((((w3.setCell ⟨g, (n - 1) * 5, none⟩ (.int .u8 o.k)).setCell ⟨g, (n - 1) * 5 + 1, none⟩ (.string o.s)).setCell ⟨g, (n - 1) * 5 + 2, none⟩ (.slice q o.l.length co)).setCell ⟨g, (n - 1) * 5 + 3, none⟩ (.int .i64 o.room)).setCell ⟨g, (n - 1) * 5 + 4, none⟩ (.int .i64 o.fn)) := by
    have hgw : w.heap.size ≤ g := Nat.le_trans hB1'.size hgb.1
    exact below_set (below_set (below_set (below_set (below_set hB3' hgw _) hgw _) hgw _) hgw _) hgw _
  have hBw1 : Below w1.heap.size w1 (((((w3.setCell ⟨g, (n - 1) * 5, none⟩ (.int .u8 o.k)).setCell ⟨g, (n - 1) * 5 + 1, none⟩ (.string o.s)).setCell ⟨g, (n - 1) * 5 + 2, none⟩ (.slice q o.l.length co)).setCell ⟨g, (n - 1) * 5 + 3, none⟩ (.int .i64 o.room)).setCell ⟨g, (n - 1) * 5 + 4, none⟩ (.int .i64 o.fn)) := below_set (below_set (below_set (below_set (below_set hBg hgb.1 _) hgb.1 _) hgb.1 _) hgb.1 _) hgb.1 _
  dsimp only at hset
  generalize hW5 : (((((w3.setCell ⟨g, (n - 1) * 5, none⟩ (.int .u8 o.k)).setCell ⟨g, (n - 1) * 5 + 1, none⟩ (.string o.s)).setCell ⟨g, (n - 1) * 5 + 2, none⟩ (.slice q o.l.length co)).setCell ⟨g, (n - 1) * 5 + 3, none⟩ (.int .i64 o.room)).setCell ⟨g, (n - 1) * 5 + 4, none⟩ (.int .i64 o.fn)) = W5 at hset d0' hB4 hBw1
  have hall : ∀ x ∈ (ts ++ List.replicate (n - S.length) zp).set (n - 1) ⟨o, .slice q o.l.length co⟩, ∃ qq cc, x.lv = .slice qq x.o.l.length cc ∧ Vals W5 qq x.o.l ∧ (qq = none → cc = 0) := by
    intro x hx
    obtain ⟨j, hj⟩ := List.getElem?_of_mem hx
    by_cases hjn : j = n - 1
    · subst hjn
      rw [List.getElem?_set_self (by omega)] at hj
      cases hj
      exact ⟨q, co, rfl, hv.below hB4, hq⟩
    · rw [List.getElem?_set_ne (fun e => hjn e.symm)] at hj
      by_cases hjl : j < ts.length
      · rw [List.getElem?_append_left hjl] at hj
        obtain ⟨q', c', h1, h2, h3⟩ := hts x (List.mem_of_getElem? hj)
        exact ⟨q', c', h1, h2.below hBw1, h3⟩
      · rw [List.getElem?_append_right (by omega), List.getElem?_replicate] at hj
        split at hj
        · cases hj
          exact ⟨none, 0, rfl, (fun j v hj => by simp [zp, zeroO] at hj), fun _ => rfl⟩
        · cases hj
  have hst := row_isSt hset (by rw [List.length_set]; exact hul) hall
  have hwide : ((ts ++ List.replicate (n - S.length) zp).set (n - 1) ⟨o, .slice q o.l.length co⟩).map Po.o = wideS S o n := by
    unfold wideS
    have e1 : List.replicate (n - S.length) zp = List.replicate (n - S.length - 1) zp ++ [zp] := by
      rw [← List.replicate_succ', show n - S.length - 1 + 1 = n - S.length by omega]
    rw [e1, ← List.append_assoc, List.set_append_right _ _ (by rw [List.length_append, List.length_replicate, htl]; omega)]
    have e2 : n - 1 - (ts ++ List.replicate (n - S.length - 1) zp).length = 0 := by rw [List.length_append, List.length_replicate, htl]; omega
    rw [e2]
    simp [hmap, zp]
  rw [hwide] at hst
  have hwl : (wideS S o n).length = n := by unfold wideS; simp; omega
  have hask : Ask W5 (some ⟨g, 0, none⟩) (wideS S o n) := by
    have hm : ∀ x ∈ wideS S o n, x ∈ S ∨ x = zeroO ∨ x = o := fun x hx => by
      unfold wideS at hx
      rcases List.mem_append.1 hx with hx | hx
      · rcases List.mem_append.1 hx with hx | hx
        · exact .inl hx
        · exact .inr (.inl (List.mem_replicate.1 hx).2)
      · exact .inr (.inr (by simpa using hx))
    refine ⟨hst, by rw [hwl]; exact hn2, fun x hx => ?_, fun x hx => ?_, fun x hx => ?_⟩
    · rcases hm x hx with h1 | rfl | rfl
      · exact h.vals x h1
      · simp [zeroO]
      · exact hol
    · rcases hm x hx with h1 | rfl | rfl
      · exact h.str x h1
      · show (0 : Nat) ≤ 1048576; omega
      · exact hos
    · rcases hm x hx with h1 | rfl | rfl
      · exact h.fit x h1
      · exact ⟨by simp [zeroO], by simp [zeroO], by simp [zeroO], by simp [zeroO]⟩
      · exact hof
  obtain ⟨b, hb⟩ := b_of (checkP (wideS S o n) ⟨o.k, (n : Int)⟩)
  have HK := hask.check c3 ⟨o.k, (n : Int)⟩ b hb
  rw [hwl] at HK
  obtain ⟨⟨z0, z1, z2, z3, z4⟩, -⟩ := cell_row5 d0'
  have HH : Hid _ := And.intro hfree hb
  clear hall hwide hset hst hask hb hfree hts hmap hul hul1 hB3' hBg hg3 hat3 hown2 hown3 HX hsum hsub
  go_wp2_with (first
    | (go_at_call 15; (with_reducible refine HK.mono ?_); clear HK; rintro e w6 ⟨rfl, hB6⟩))
  go_ret
  exact ⟨n, b, HH.out.1, HH.out.2, rfl, hB4.trans (hB6.mono hB4.size)⟩

end Go.Proofs.Ytgokofomoachaaa
