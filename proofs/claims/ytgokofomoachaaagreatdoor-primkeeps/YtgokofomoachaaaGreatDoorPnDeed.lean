/- copyOf: a store in new memory. -/
import Derived.Test.YtgokofomoachaaaGreatDoorPmRenew
import Derived.Test.YtgokofomoachaaaGreatDoorShMayBe
namespace Go.Proofs.YtgokofomoachaaaGreatDoor
set_option linter.unusedVariables false
set_option linter.unusedSimpArgs false
open Go.RowKit

variable {w : World}

theorem rowSet {w : World} {base T k n c g : Nat} {xs : List Value} (h : w.ownsRow base T k (.slice (some ⟨g, 0, none⟩) n c) n xs) {j : Nat} (hj : j < n * k) (v : Value) :
    (w.setCell ⟨g, j, none⟩ v).ownsRow base T k (.slice (some ⟨g, 0, none⟩) n c) n (xs.set j v) := by
  refine ⟨by rw [List.length_set]; exact h.1, ?_⟩
  rcases h.2 with ⟨h1, _⟩ | ⟨g', cap, cur, h1, hb, hg, hnc, hcm, hcs, htake⟩
  · simp at h1
  · simp only [Value.slice.injEq, Option.some.injEq, Addr.mk.injEq, and_true, true_and] at h1
    obtain ⟨rfl, rfl⟩ := h1
    refine .inr ⟨_, _, cur.set! j v, rfl, hb, heap_setCell_same w _ j _ _ v hg, hnc, hcm, by simpa using hcs, ?_⟩
    rw [← htake]
    simp [List.take_set]

theorem frozen_row {w : World} {base T k n c g : Nat} {xs : List Value} (h : w.ownsRow base T k (.slice (some ⟨g, 0, none⟩) n c) n xs) (j : Nat) : w.frozen? ⟨g, j, none⟩ = false := by
  obtain ⟨cur, hc⟩ := row_obj h rfl
  exact frozen_of_row w g j _ _ hc

/-- An object is put in a row's place. -/
theorem rowSetO {w : World} {base n c g : Nat} {l : List Po} (h : w.ownsRow base 96 5 (.slice (some ⟨g, 0, none⟩) n c) n (pcells l)) (hn : l.length = n) {j : Nat} (hj : j < n) (x : Po) :
    (((((w.setCell ⟨g, j * 5, none⟩ (.int .u8 x.o.k)).setCell ⟨g, j * 5 + 1, none⟩ (.string x.o.s)).setCell ⟨g, j * 5 + 2, none⟩ x.lv).setCell ⟨g, j * 5 + 3, none⟩ (.int .i64 x.o.room)).setCell ⟨g, j * 5 + 4, none⟩ (.int .i64 x.o.fn)).ownsRow base 96 5 (.slice (some ⟨g, 0, none⟩) n c) n (pcells (l.set j x)) := by
  have := rowSet (rowSet (rowSet (rowSet (rowSet h (j := j * 5) (by omega) (.int .u8 x.o.k)) (j := j * 5 + 1) (by omega) (.string x.o.s)) (j := j * 5 + 2) (by omega) x.lv) (j := j * 5 + 3) (by omega) (.int .i64 x.o.room)) (j := j * 5 + 4) (by omega) (.int .i64 x.o.fn)
  rw [show pcells (l.set j x) = (((((pcells l).set (j * 5) (.int .u8 x.o.k)).set (j * 5 + 1) (.string x.o.s)).set (j * 5 + 2) x.lv).set (j * 5 + 3) (.int .i64 x.o.room)).set (j * 5 + 4) (.int .i64 x.o.fn) from ?_]
  · exact this
  apply List.ext_getElem?
  intro i
  have hlen := pcells_len l
  simp only [List.getElem?_set, List.length_set, hlen]
  by_cases hi : i < l.length * 5
  · have hd : i / 5 < l.length := by omega
    obtain ⟨y, hy⟩ : ∃ y, l[i / 5]? = some y := ⟨l[i / 5], by simp⟩
    have e1 := pcells_get l (i / 5) y hy (i % 5) (by omega)
    rw [show i / 5 * 5 + i % 5 = i by omega] at e1
    by_cases hij : i / 5 = j
    · have e2 := pcells_get (l.set j x) j x (List.getElem?_set_self (by omega)) (i % 5) (by omega)
      rw [show j * 5 + i % 5 = i by omega] at e2
      rw [e2]
      have h5 : i % 5 = 0 ∨ i % 5 = 1 ∨ i % 5 = 2 ∨ i % 5 = 3 ∨ i % 5 = 4 := by omega
      rcases h5 with h5 | h5 | h5 | h5 | h5 <;> rw [h5]
      · rw [if_neg (by omega), if_neg (by omega), if_neg (by omega), if_neg (by omega), if_pos (by omega), if_pos (by omega)]; rfl
      · rw [if_neg (by omega), if_neg (by omega), if_neg (by omega), if_pos (by omega), if_pos (by omega)]; rfl
      · rw [if_neg (by omega), if_neg (by omega), if_pos (by omega), if_pos (by omega)]; rfl
      · rw [if_neg (by omega), if_pos (by omega), if_pos (by omega)]; rfl
      · rw [if_pos (by omega), if_pos (by omega)]; rfl
    · have e2 := pcells_get (l.set j x) (i / 5) y (by rw [List.getElem?_set_ne (by omega)]; exact hy) (i % 5) (by omega)
      rw [show i / 5 * 5 + i % 5 = i by omega] at e2
      rw [e2, e1, if_neg (by omega), if_neg (by omega), if_neg (by omega), if_neg (by omega), if_neg (by omega)]
  · have e1 : (pcells (l.set j x))[i]? = none := by rw [List.getElem?_eq_none_iff, pcells_len, List.length_set]; omega
    have e2 : (pcells l)[i]? = none := by rw [List.getElem?_eq_none_iff, pcells_len]; omega
    rw [e1, e2, if_neg (by omega), if_neg (by omega), if_neg (by omega), if_neg (by omega), if_neg (by omega)]

theorem set5_other {W : World} {g j k : Nat} (x0 x1 x2 x3 x4 : Value) (h : k ≠ g) : (((((W.setCell ⟨g, j, none⟩ x0).setCell ⟨g, j + 1, none⟩ x1).setCell ⟨g, j + 2, none⟩ x2).setCell ⟨g, j + 3, none⟩ x3).setCell ⟨g, j + 4, none⟩ x4).heap[k]? = W.heap[k]? := by
  rw [heap_setCell_other _ ⟨g, j + 4, none⟩ _ _ h, heap_setCell_other _ ⟨g, j + 3, none⟩ _ _ h, heap_setCell_other _ ⟨g, j + 2, none⟩ _ _ h, heap_setCell_other _ ⟨g, j + 1, none⟩ _ _ h, heap_setCell_other _ ⟨g, j, none⟩ _ _ h]

theorem cell_pcells {base n c g : Nat} {l : List Po} (h : w.ownsRow base 96 5 (.slice (some ⟨g, 0, none⟩) n c) n (pcells l)) (hn : l.length = n) {j : Nat} {x : Po} (hj : l[j]? = some x) :
    w.cell? ⟨g, j * 5, none⟩ = some (.int .u8 x.o.k) ∧ w.cell? ⟨g, j * 5 + 1, none⟩ = some (.string x.o.s) ∧ w.cell? ⟨g, j * 5 + 2, none⟩ = some x.lv ∧ w.cell? ⟨g, j * 5 + 3, none⟩ = some (.int .i64 x.o.room) ∧ w.cell? ⟨g, j * 5 + 4, none⟩ = some (.int .i64 x.o.fn) := by
  have hlt := (List.getElem?_eq_some_iff.1 hj).1
  have hg := pcells_get l j x hj
  refine ⟨?_, ?_, ?_, ?_, ?_⟩
  · rw [h.cellAt _ (by omega)]; have := hg 0 (by omega); simpa [pcell] using this
  · rw [h.cellAt _ (by omega), hg 1 (by omega)]; rfl
  · rw [h.cellAt _ (by omega), hg 2 (by omega)]; rfl
  · rw [h.cellAt _ (by omega), hg 3 (by omega)]; rfl
  · rw [h.cellAt _ (by omega), hg 4 (by omega)]; rfl

/-- What is copied so far. -/
structure Cpd (base n c g : Nat) (ts : List Po) (pre : List Po) (w : World) : Prop where
  row : w.ownsRow base 96 5 (.slice (some ⟨g, 0, none⟩) n c) n (pcells (pre ++ ts.drop pre.length))
  lst : ∀ x ∈ pre, w.ownsRow base 27 2 x.lv x.o.l.length (vcells x.o.l)
  one : ∀ (i j : Nat) (x y : Po) (k : Nat), pre[i]? = some x → pre[j]? = some y → x.lv.ownBlock = some k → y.lv.ownBlock = some k → i = j

theorem val_obj_ne {base base' n m c g k : Nat} {v : Value} {xs ys : List Value} (h : w.ownsRow base 96 5 (.slice (some ⟨g, 0, none⟩) n c) n xs) (h2 : w.ownsRow base' 27 2 v m ys) (hk : v.ownBlock = some k) : k ≠ g := by
  intro e
  subst e
  obtain ⟨c1, h3⟩ := row_obj h rfl
  obtain ⟨c2, h4⟩ := row_obj h2 hk
  rw [h3] at h4; cases h4

theorem Cpd.step {base n c g : Nat} {ts pre : List Po} {w w2 : World} (h : Cpd base n c g ts pre w) (hn : ts.length = n) {x : Po} (hx : ts[pre.length]? = some x) (hb : base ≤ w.heap.size) (hB : Below w.heap.size w w2) {lv : Value}
    (hown : w2.ownsRow w.heap.size 27 2 lv x.o.l.length (vcells x.o.l)) :
    Cpd base n c g ts (pre ++ [⟨x.o, lv⟩]) (((((w2.setCell ⟨g, pre.length * 5, none⟩ (.int .u8 x.o.k)).setCell ⟨g, pre.length * 5 + 1, none⟩ (.string x.o.s)).setCell ⟨g, pre.length * 5 + 2, none⟩ lv).setCell ⟨g, pre.length * 5 + 3, none⟩ (.int .i64 x.o.room)).setCell ⟨g, pre.length * 5 + 4, none⟩ (.int .i64 x.o.fn)) := by
  have hlt := (List.getElem?_eq_some_iff.1 hx).1
  have hr2 := row_below h.row hB
  have hd : ts.drop pre.length = x :: ts.drop (pre.length + 1) := by
    rw [List.getElem?_eq_some_iff] at hx
    obtain ⟨h1, h2⟩ := hx
    rw [← h2]; exact List.drop_eq_getElem_cons h1
  have hlen : (pre ++ ts.drop pre.length).length = n := by simp; omega
  refine ⟨?_, ?_, ?_⟩
  · have := rowSetO hr2 hlen (j := pre.length) (by omega) ⟨x.o, lv⟩
    rw [hd] at this
    simp only [List.length_append, List.length_singleton]
    have e : (pre ++ x :: ts.drop (pre.length + 1)).set pre.length ⟨x.o, lv⟩ = pre ++ [⟨x.o, lv⟩] ++ ts.drop (pre.length + 1) := by simp
    rw [e] at this
    exact this
  · intro y hy
    rcases List.mem_append.1 hy with hy | hy
    · have h1 := row_below (h.lst y hy) hB
      exact row_kept h1 (fun k e => set5_other _ _ _ _ _ (val_obj_ne hr2 h1 e))
    · simp at hy; subst hy
      exact row_kept (row_mono2 hown hb) (fun k e => set5_other _ _ _ _ _ (val_obj_ne hr2 hown e))
  · have hnew : ∀ (i : Nat) (y : Po) (k : Nat), pre[i]? = some y → y.lv.ownBlock = some k → lv.ownBlock = some k → False := fun i y k hy h1 h2 => by
      have := ((h.lst y (List.mem_of_getElem? hy)).lt k h1).2
      have := (hown.lt k h2).1
      omega
    have hcase : ∀ (i : Nat) (y : Po), (pre ++ [⟨x.o, lv⟩])[i]? = some y → pre[i]? = some y ∨ (i = pre.length ∧ y = ⟨x.o, lv⟩) := fun i y hy => by
      by_cases hi : i < pre.length
      · rw [List.getElem?_append_left hi] at hy; exact .inl hy
      · rw [List.getElem?_append_right (by omega)] at hy
        have := (List.getElem?_eq_some_iff.1 hy).1
        simp at this
        have hi' : i = pre.length := by omega
        subst hi'
        simp at hy
        exact .inr ⟨rfl, hy.symm⟩
    intro i j y z k hy hz h1 h2
    rcases hcase i y hy with hy | ⟨rfl, rfl⟩ <;> rcases hcase j z hz with hz | ⟨rfl, rfl⟩
    · exact h.one i j y z k hy hz h1 h2
    · exact (hnew i y k hy h1 h2).elim
    · exact (hnew j z k hz h2 h1).elim
    · rfl

set_option maxRecDepth 20000 in
set_option maxHeartbeats 2000000 in
theorem copyOf_in {p : Option Addr} {S : List Om} (c : Nat) (hs : IsSt w p S) (hlen : S.length ≤ 1048576) (hls : ∀ o ∈ S, o.l.length ≤ 1000000) (hstr : ∀ o ∈ S, o.s.size ≤ 1048576) :
    Calls Tryz.prog 155 #[.slice p S.length c] w fun e w' => ∃ v, e = .returned v ∧ (∃ ts, ts.map Po.o = S ∧ OwnSt w.heap.size v ts w') ∧ Below w.heap.size w w' := by
  obtain ⟨ts, hmap, hts, hc⟩ := hs.pos
  have hl : ts.length = S.length := by rw [← hmap]; simp
  have H1 := cloneS_in (w := w) c hc (fun x hx => by obtain ⟨q, c', h, -⟩ := hts x hx; exact ⟨q, c', h⟩) (by omega)
  rw [hl] at H1
  go_enter Tryz.func155, Tryz.ntmps155
  go_wp2_with (first
    | (go_at_call 187; refine H1.mono ?_; clear H1; rintro e w1 ⟨v1, rfl, hown1, hB1⟩; obtain ⟨p1, c1, rfl, hp1, hg1, -⟩ := own_slice hown1; refine halt_here ?_))
  unfold Halted
  have HM : Hid _ := And.intro hmap (And.intro hts hc)
  have HL : Hid _ := hl
  clear hmap hts hc hl
  by_cases h0 : S.length = 0
  · have hS : S = [] := List.eq_nil_of_length_eq_zero h0
    have ht : ts = [] := List.eq_nil_of_length_eq_zero (by rw [HL.out]; exact h0)
    have HOW : Hid _ := And.intro hown1 ht
    subst hS
    clear hown1 ht h0 hg1 hp1
    go_wp2
    go_loopw [10] (fun k wr => k = .int .i64 0 ∧ wr = w1) (fun _ _ => 0)
    case atStart => exact ⟨rfl, rfl⟩
    case round =>
      obtain ⟨rfl, rfl⟩ := hrel
      go_wp2
      go_ret
      obtain ⟨ho, ht⟩ := HOW.out
      subst ht
      exact ⟨_, rfl, ⟨[], rfl, ⟨ho, by simp, by simp⟩⟩, hB1⟩
  · obtain ⟨g, rfl⟩ := hg1 (by omega)
    clear hp1 h0
    have hn := HL.out
    have HN : Hid _ := hn
    have hz1 := hB1.size
    clear hn
    go_wp2
    go_loopw [10] (fun k wr => ∃ pre : List Po, k = .int .i64 pre.length ∧ pre.length ≤ S.length ∧ pre.map Po.o = S.take pre.length ∧ Cpd w.heap.size S.length c1 g ts pre wr ∧ Below w.heap.size w wr) (fun k _ => S.length - (intOf k).toNat)
    case atStart => exact ⟨[], rfl, by simp, rfl, ⟨by simpa using hown1, by simp, by simp⟩, hB1⟩
    case round =>
      obtain ⟨pre, rfl, hpl, hpm, hC, hB⟩ := hrel
      have hsz := hB.size
      have HP : Hid _ := hpm
      clear hpm
      by_cases hj : pre.length < S.length
      · have hj' : (pre.length : Int) < (S.length : Int) := by omega
        obtain ⟨x, hx⟩ : ∃ x, ts[pre.length]? = some x := ⟨ts[pre.length]'(by rw [HL.out]; exact hj), by simp⟩
        obtain ⟨q, cq, hlv, hvq, hqn⟩ := HM.out.2.1 x (List.mem_of_getElem? hx)
        have hxS : x.o ∈ S := by rw [← HM.out.1]; exact List.mem_map_of_mem (List.mem_of_getElem? hx)
        have hxl := hls _ hxS
        have hxs := hstr _ hxS
        have hgx : (pre ++ ts.drop pre.length)[pre.length]? = some x := by rw [List.getElem?_append_right (by omega)]; simpa using hx
        have hlen2 : (pre ++ ts.drop pre.length).length = S.length := by have := HL.out; simp; omega
        obtain ⟨c0, cs1, c2, c3, c4⟩ := cell_pcells hC.row hlen2 hgx
        rw [hlv] at c2
        have hB' : Below w.heap.size w (wr.alloc (.cells #[.int .u8 x.o.k, .string x.o.s, .slice q x.o.l.length cq, .int .i64 x.o.room, .int .i64 x.o.fn] 96)) := hB.alloc hsz _
        have H2 := renewed_in (w := wr.alloc (.cells #[.int .u8 x.o.k, .string x.o.s, .slice q x.o.l.length cq, .int .i64 x.o.room, .int .i64 x.o.fn] 96)) x.o cq (hvq.below hB') hxl hxs
        unfold objV poV at H2
        obtain ⟨⟨b0, b1, b2, b3, b4⟩, -⟩ := cell_row5 (heap_alloc_new wr (.cells #[.int .u8 x.o.k, .string x.o.s, .slice q x.o.l.length cq, .int .i64 x.o.room, .int .i64 x.o.fn] 96))
        have HX : Hid _ := And.intro hx (And.intro hlv hlen2)
        clear hx hlv hlen2 hgx hxS
        go_wp2_with (first
          | (go_at_call 156; (with_reducible refine H2.mono ?_); clear H2; rintro e w2 ⟨lv, rfl, hown2, hB2⟩; obtain ⟨pl, cl, rfl, -⟩ := own_slice hown2
             have hB3 := (below1 wr (.cells #[.int .u8 x.o.k, .string x.o.s, .slice q x.o.l.length cq, .int .i64 x.o.room, .int .i64 x.o.fn] 96)).trans (hB2.mono (by simp))
             have hrow2 := row_below hC.row hB3
             obtain ⟨d0, d1, d2, d3, d4⟩ := cell_pcells hrow2 HX.out.2.2 (j := pre.length) (x := x) (by rw [List.getElem?_append_right (by omega)]; simpa using HX.out.1)
             have f0 := frozen_row hrow2 (pre.length * 5)
             have f1 := frozen_row hrow2 (pre.length * 5 + 1)
             have f2 := frozen_row hrow2 (pre.length * 5 + 2)
             have f3 := frozen_row hrow2 (pre.length * 5 + 3)
             have f4 := frozen_row hrow2 (pre.length * 5 + 4)
             rw [HX.out.2.1] at d2))
        go_roundw
        case rel =>
          have hstep := hC.step HL.out HX.out.1 hsz hB3 (row_mono2 hown2 (by simp))
          refine ⟨pre ++ [⟨x.o, .slice pl x.o.l.length cl⟩], by simp, by simp; omega, ?_, hstep, ?_⟩
          · simp only [List.map_append, List.map_cons, List.map_nil, List.length_append, List.length_singleton]
            rw [List.take_add_one, ← HP.out]
            congr 1
            have : S[pre.length]? = some x.o := by rw [← HM.out.1, List.getElem?_map, HX.out.1]; rfl
            rw [this]; rfl
          · have hg := (hC.row.lt g rfl).1
            have hB4 := hB.trans (hB3.mono hsz)
            exact below_set (below_set (below_set (below_set (below_set hB4 hg _) hg _) hg _) hg _) hg _
        case measure => simp [intOf]; omega
      · have hj' : ¬ ((pre.length : Int) < (S.length : Int)) := by omega
        have hpe : pre.length = S.length := by omega
        have HE : Hid _ := hpe
        clear hpe
        go_wp2
        go_ret
        refine ⟨_, rfl, ⟨pre, ?_, ⟨?_, hC.lst, hC.one⟩⟩, hB⟩
        · rw [HP.out, HE.out]; simp
        · have := hC.row
          rw [List.drop_of_length_le (by rw [HL.out, HE.out]; omega), List.append_nil] at this
          rw [HE.out]
          exact this

end Go.Proofs.YtgokofomoachaaaGreatDoor

namespace Go.Proofs.YtgokofomoachaaaGreatDoor
set_option linter.unusedVariables false
set_option linter.unusedSimpArgs false
open Go.RowKit

variable {w : World}

/-- What an operation came to: a store of its own memory, a value, what is thrown, words. -/
def DidR (w : World) (S : List Om) (v : Vl) (t : ByteArray) (n : Int) (e : Ending) (w' : World) : Prop :=
  ∃ p c, e = .returned (.agg #[.slice p S.length c, .int .u8 v.k, .int .i64 v.n, .string t, .int .i64 n]) ∧ (∃ ts, ts.map Po.o = S ∧ OwnSt w.heap.size (.slice p S.length c) ts w') ∧ Below w.heap.size w w'

theorem OwnSt.keptT {base : Nat} {v : Value} {ts : List Po} (h : OwnSt base v ts w) {w' : World} (hk : ∀ (k : Nat) (cur : Array Value) (T : TypeId), w.heap[k]? = some (.cells cur T (0, 0)) → (T = 96 ∨ T = 27) → w'.heap[k]? = w.heap[k]?) : OwnSt base v ts w' :=
  ⟨row_kept h.row (fun k e => by obtain ⟨cur, hc⟩ := row_obj h.row e; exact hk k cur _ hc (.inl rfl)), fun x hx => row_kept (h.lst x hx) (fun k e => by obtain ⟨cur, hc⟩ := row_obj (h.lst x hx) e; exact hk k cur _ hc (.inr rfl)), h.one⟩

theorem did_fin {W : World} {r : Nat} {a0 a1 a2 a3 a4 : Value} (hr : W.heap[r]? = some (.cells #[a0, a1, a2, a3, a4] 33 (0, 0))) (hge : w.heap.size ≤ r) {S : List Om} {p : Option Addr} {c : Nat} (hts : ∃ ts, ts.map Po.o = S ∧ OwnSt w.heap.size (.slice p S.length c) ts W) (hB : Below w.heap.size w W) (v : Vl) (t : ByteArray) (n : Int) :
    DidR w S v t n (.returned (.agg #[.slice p S.length c, .int .u8 v.k, .int .i64 v.n, .string t, .int .i64 n])) (((((W.setCell ⟨r, 0, none⟩ (.slice p S.length c)).setCell ⟨r, 1, none⟩ (.int .u8 v.k)).setCell ⟨r, 2, none⟩ (.int .i64 v.n)).setCell ⟨r, 3, none⟩ (.string t)).setCell ⟨r, 4, none⟩ (.int .i64 n)) := by
  obtain ⟨ts, hm, ho⟩ := hts
  refine ⟨p, c, rfl, ⟨ts, hm, ho.keptT (fun k cur T hk hT => ?_)⟩, below_set5 hB hge _ _ _ _ _⟩
  have hne : k ≠ r := fun e => by
    subst e
    rw [hr] at hk
    cases hk
    rcases hT with h | h <;> cases h
  exact set5_other (j := 0) _ _ _ _ _ hne

theorem DidR.from {w0 : World} {S : List Om} {v : Vl} {t : ByteArray} {n : Int} {e : Ending} {w' : World} (h : DidR w S v t n e w') (hB : Below w0.heap.size w0 w) : DidR w0 S v t n e w' := by
  obtain ⟨p, c, he, ⟨ts, hm, ho⟩, hb⟩ := h
  exact ⟨p, c, he, ⟨ts, hm, ho.mono hB.size⟩, hB.trans (hb.mono hB.size)⟩

theorem infoDid : (Tryz.prog.info? 33).map (·.size) = some 5 := by kernel_rfl

theorem infoVal2 : (Tryz.prog.info? 27).map (·.size) = some 2 := by kernel_rfl

/-- A store that operations are asked of. -/
structure Ask (w : World) (p : Option Addr) (S : List Om) : Prop where
  st : IsSt w p S
  len : S.length ≤ 1048576
  vals : ∀ o ∈ S, o.l.length ≤ 100000
  str : ∀ o ∈ S, o.s.size ≤ 1048576
  fit : ∀ o ∈ S, o.fits

theorem Ask.below {p : Option Addr} {S : List Om} (h : Ask w p S) {w' : World} (hB : Below w.heap.size w w') : Ask w' p S := ⟨h.st.below hB, h.len, h.vals, h.str, h.fit⟩

theorem Ask.copyOf {p : Option Addr} {S : List Om} (h : Ask w p S) (c : Nat) : Calls Tryz.prog 155 #[.slice p S.length c] w fun e w' => ∃ v, e = .returned v ∧ (∃ ts, ts.map Po.o = S ∧ OwnSt w.heap.size v ts w') ∧ Below w.heap.size w w' :=
  copyOf_in c h.st h.len (fun o ho => Nat.le_trans (h.vals o ho) (by decide)) h.str

theorem own_len {base : Nat} {v : Value} {ts : List Po} {S : List Om} (h : OwnSt base v ts w) (hm : ts.map Po.o = S) : ∃ p c, v = .slice p S.length c := by
  obtain ⟨p, c, hv, -⟩ := own_slice h.row
  exact ⟨p, c, by rw [hv, ← hm]; simp⟩

/-- A truth value. -/
def tru (b : Bool) : Vl := ⟨1, if b then 1 else 0⟩

end Go.Proofs.YtgokofomoachaaaGreatDoor

namespace Go.Proofs.YtgokofomoachaaaGreatDoor
set_option linter.unusedVariables false
set_option linter.unusedSimpArgs false
open Go.RowKit

variable {w : World}

/-- A Deed, plainly. -/
structure Dd where
  t : ByteArray := ⟨#[]⟩
  n : Int := 0
  v : Vl := ⟨0, 0⟩
  o : Om := ⟨0, ⟨#[]⟩, [], 0, 0⟩
  of_ : Int := 0
  at_ : Int := 0
  l2 : List Vl := []
  r2 : Int := 0

/-- Its value. -/
def Dd.V (d : Dd) (q : Option Addr) (c : Nat) (q2 : Option Addr) : Value := .agg #[.string d.t, .int .i64 d.n, .int .u8 d.v.k, .int .i64 d.v.n, .int .u8 d.o.k, .string d.o.s, .slice q d.o.l.length c, .int .i64 d.o.room, .int .i64 d.o.fn, .int .i64 d.of_, .int .i64 d.at_, .slice q2 d.l2.length d.l2.length, .int .i64 d.r2]

theorem cell_row13 {W : World} {g : Nat} {a0 a1 a2 a3 a4 a5 a6 a7 a8 a9 a10 a11 a12 : Value} {t : TypeId} (h : W.heap[g]? = some (.cells #[a0, a1, a2, a3, a4, a5, a6, a7, a8, a9, a10, a11, a12] t (0, 0))) :
    (W.cell? ⟨g, 0, none⟩ = some a0 ∧ W.cell? ⟨g, 1, none⟩ = some a1 ∧ W.cell? ⟨g, 2, none⟩ = some a2 ∧ W.cell? ⟨g, 3, none⟩ = some a3 ∧ W.cell? ⟨g, 4, none⟩ = some a4 ∧ W.cell? ⟨g, 5, none⟩ = some a5 ∧ W.cell? ⟨g, 6, none⟩ = some a6 ∧ W.cell? ⟨g, 7, none⟩ = some a7 ∧ W.cell? ⟨g, 8, none⟩ = some a8 ∧ W.cell? ⟨g, 9, none⟩ = some a9 ∧ W.cell? ⟨g, 10, none⟩ = some a10 ∧ W.cell? ⟨g, 11, none⟩ = some a11 ∧ W.cell? ⟨g, 12, none⟩ = some a12) ∧ W.frozen? ⟨g, 0, none⟩ = false ∧ W.frozen? ⟨g, 1, none⟩ = false ∧ W.frozen? ⟨g, 2, none⟩ = false ∧ W.frozen? ⟨g, 3, none⟩ = false ∧ W.frozen? ⟨g, 4, none⟩ = false ∧ W.frozen? ⟨g, 5, none⟩ = false ∧ W.frozen? ⟨g, 6, none⟩ = false ∧ W.frozen? ⟨g, 7, none⟩ = false ∧ W.frozen? ⟨g, 8, none⟩ = false ∧ W.frozen? ⟨g, 9, none⟩ = false ∧ W.frozen? ⟨g, 10, none⟩ = false ∧ W.frozen? ⟨g, 11, none⟩ = false ∧ W.frozen? ⟨g, 12, none⟩ = false :=
  ⟨⟨by rw [cell_of_row W g 0 _ _ _ h]; rfl, by rw [cell_of_row W g 1 _ _ _ h]; rfl, by rw [cell_of_row W g 2 _ _ _ h]; rfl, by rw [cell_of_row W g 3 _ _ _ h]; rfl, by rw [cell_of_row W g 4 _ _ _ h]; rfl, by rw [cell_of_row W g 5 _ _ _ h]; rfl, by rw [cell_of_row W g 6 _ _ _ h]; rfl, by rw [cell_of_row W g 7 _ _ _ h]; rfl, by rw [cell_of_row W g 8 _ _ _ h]; rfl, by rw [cell_of_row W g 9 _ _ _ h]; rfl, by rw [cell_of_row W g 10 _ _ _ h]; rfl, by rw [cell_of_row W g 11 _ _ _ h]; rfl, by rw [cell_of_row W g 12 _ _ _ h]; rfl⟩, frozen_of_row W g 0 _ _ h, frozen_of_row W g 1 _ _ h, frozen_of_row W g 2 _ _ h, frozen_of_row W g 3 _ _ h, frozen_of_row W g 4 _ _ h, frozen_of_row W g 5 _ _ h, frozen_of_row W g 6 _ _ h, frozen_of_row W g 7 _ _ h, frozen_of_row W g 8 _ _ h, frozen_of_row W g 9 _ _ h, frozen_of_row W g 10 _ _ h, frozen_of_row W g 11 _ _ h, frozen_of_row W g 12 _ _ h⟩

theorem set13_row {W : World} {g : Nat} {a0 a1 a2 a3 a4 a5 a6 a7 a8 a9 a10 a11 a12 x0 x1 x2 x3 x4 x5 x6 x7 x8 x9 x10 x11 x12 : Value} {t : TypeId} (h : W.heap[g]? = some (.cells #[a0, a1, a2, a3, a4, a5, a6, a7, a8, a9, a10, a11, a12] t (0, 0))) : (((((((((((((W.setCell ⟨g, 0, none⟩ x0).setCell ⟨g, 1, none⟩ x1).setCell ⟨g, 2, none⟩ x2).setCell ⟨g, 3, none⟩ x3).setCell ⟨g, 4, none⟩ x4).setCell ⟨g, 5, none⟩ x5).setCell ⟨g, 6, none⟩ x6).setCell ⟨g, 7, none⟩ x7).setCell ⟨g, 8, none⟩ x8).setCell ⟨g, 9, none⟩ x9).setCell ⟨g, 10, none⟩ x10).setCell ⟨g, 11, none⟩ x11).setCell ⟨g, 12, none⟩ x12).heap[g]? = some (.cells #[x0, x1, x2, x3, x4, x5, x6, x7, x8, x9, x10, x11, x12] t (0, 0)) := by
  have h1 := heap_setCell_same W g 0 _ t x0 h
  have h2 := heap_setCell_same _ g 1 _ t x1 h1
  have h3 := heap_setCell_same _ g 2 _ t x2 h2
  have h4 := heap_setCell_same _ g 3 _ t x3 h3
  have h5 := heap_setCell_same _ g 4 _ t x4 h4
  have h6 := heap_setCell_same _ g 5 _ t x5 h5
  have h7 := heap_setCell_same _ g 6 _ t x6 h6
  have h8 := heap_setCell_same _ g 7 _ t x7 h7
  have h9 := heap_setCell_same _ g 8 _ t x8 h8
  have h10 := heap_setCell_same _ g 9 _ t x9 h9
  have h11 := heap_setCell_same _ g 10 _ t x10 h10
  have h12 := heap_setCell_same _ g 11 _ t x11 h11
  have h13 := heap_setCell_same _ g 12 _ t x12 h12
  simpa using h13

theorem set13_other {W : World} {g k : Nat} (x0 x1 x2 x3 x4 x5 x6 x7 x8 x9 x10 x11 x12 : Value) (h : k ≠ g) : (((((((((((((W.setCell ⟨g, 0, none⟩ x0).setCell ⟨g, 1, none⟩ x1).setCell ⟨g, 2, none⟩ x2).setCell ⟨g, 3, none⟩ x3).setCell ⟨g, 4, none⟩ x4).setCell ⟨g, 5, none⟩ x5).setCell ⟨g, 6, none⟩ x6).setCell ⟨g, 7, none⟩ x7).setCell ⟨g, 8, none⟩ x8).setCell ⟨g, 9, none⟩ x9).setCell ⟨g, 10, none⟩ x10).setCell ⟨g, 11, none⟩ x11).setCell ⟨g, 12, none⟩ x12).heap[k]? = W.heap[k]? := by
  rw [heap_setCell_other _ ⟨g, 12, none⟩ _ _ h, heap_setCell_other _ ⟨g, 11, none⟩ _ _ h, heap_setCell_other _ ⟨g, 10, none⟩ _ _ h, heap_setCell_other _ ⟨g, 9, none⟩ _ _ h, heap_setCell_other _ ⟨g, 8, none⟩ _ _ h, heap_setCell_other _ ⟨g, 7, none⟩ _ _ h, heap_setCell_other _ ⟨g, 6, none⟩ _ _ h, heap_setCell_other _ ⟨g, 5, none⟩ _ _ h, heap_setCell_other _ ⟨g, 4, none⟩ _ _ h, heap_setCell_other _ ⟨g, 3, none⟩ _ _ h, heap_setCell_other _ ⟨g, 2, none⟩ _ _ h, heap_setCell_other _ ⟨g, 1, none⟩ _ _ h, heap_setCell_other _ ⟨g, 0, none⟩ _ _ h]

theorem below_set13 {n : Nat} {w W : World} (h : Below n w W) {g : Nat} (hg : n ≤ g) (x0 x1 x2 x3 x4 x5 x6 x7 x8 x9 x10 x11 x12 : Value) : Below n w (((((((((((((W.setCell ⟨g, 0, none⟩ x0).setCell ⟨g, 1, none⟩ x1).setCell ⟨g, 2, none⟩ x2).setCell ⟨g, 3, none⟩ x3).setCell ⟨g, 4, none⟩ x4).setCell ⟨g, 5, none⟩ x5).setCell ⟨g, 6, none⟩ x6).setCell ⟨g, 7, none⟩ x7).setCell ⟨g, 8, none⟩ x8).setCell ⟨g, 9, none⟩ x9).setCell ⟨g, 10, none⟩ x10).setCell ⟨g, 11, none⟩ x11).setCell ⟨g, 12, none⟩ x12) :=
  below_set (below_set (below_set (below_set (below_set (below_set (below_set (below_set (below_set (below_set (below_set (below_set (below_set h hg _) hg _) hg _) hg _) hg _) hg _) hg _) hg _) hg _) hg _) hg _) hg _) hg _

theorem cell_set13 {W : World} {g : Nat} {x0 x1 x2 x3 x4 x5 x6 x7 x8 x9 x10 x11 x12 : Value} {a : Addr} (h : a.block ≠ g) : (((((((((((((W.setCell ⟨g, 0, none⟩ x0).setCell ⟨g, 1, none⟩ x1).setCell ⟨g, 2, none⟩ x2).setCell ⟨g, 3, none⟩ x3).setCell ⟨g, 4, none⟩ x4).setCell ⟨g, 5, none⟩ x5).setCell ⟨g, 6, none⟩ x6).setCell ⟨g, 7, none⟩ x7).setCell ⟨g, 8, none⟩ x8).setCell ⟨g, 9, none⟩ x9).setCell ⟨g, 10, none⟩ x10).setCell ⟨g, 11, none⟩ x11).setCell ⟨g, 12, none⟩ x12).cell? a = W.cell? a :=
  World.cell?_of_block (set13_other _ _ _ _ _ _ _ _ _ _ _ _ _ h)

theorem infoDeed : (Tryz.prog.info? 100).map (·.size) = some 13 := by kernel_rfl

/-- Values in a block of values. -/
def VT (w : World) (q : Option Addr) (l : List Vl) : Prop := Vals w q l ∧ ∀ ad, q = some ad → ∃ cs, w.heap[ad.block]? = some (.cells cs 27 (0, 0))

theorem VT.none (w : World) : VT w none [] := ⟨fun j v hj => by simp at hj, fun ad e => by cases e⟩

theorem VT.below {q : Option Addr} {l : List Vl} (h : VT w q l) {w' : World} (hB : Below w.heap.size w w') : VT w' q l :=
  ⟨h.1.below hB, fun ad e => by obtain ⟨cs, hc⟩ := h.2 ad e; exact ⟨cs, (hB.block _ (Array.getElem?_eq_some_iff.1 hc).1).trans hc⟩⟩

theorem Vals.kept_at {q : Option Addr} {l : List Vl} {W W' : World} (h : Vals W q l) (hk : ∀ ad, q = some ad → W'.heap[ad.block]? = W.heap[ad.block]?) : Vals W' q l := by
  intro j v hj
  obtain ⟨b0, off, e, h1, h2⟩ := h j v hj
  have hb := hk _ e
  have key : ∀ i, W'.cell? ⟨b0, i, none⟩ = W.cell? ⟨b0, i, none⟩ := fun i => World.cell?_of_block (a := ⟨b0, i, none⟩) hb
  exact ⟨b0, off, e, (key _).trans h1, (key _).trans h2⟩

/-- What a function that works an operation out comes to: its lists lie in blocks of values. -/
def DeedR (w : World) (d : Dd) (e : Ending) (w' : World) : Prop :=
  ∃ q c q2, e = .returned (.agg #[.string d.t, .int .i64 d.n, .int .u8 d.v.k, .int .i64 d.v.n, .int .u8 d.o.k, .string d.o.s, .slice q d.o.l.length c, .int .i64 d.o.room, .int .i64 d.o.fn, .int .i64 d.of_, .int .i64 d.at_, .slice q2 d.l2.length d.l2.length, .int .i64 d.r2]) ∧ (VT w' q d.o.l ∧ (q = none → c = 0)) ∧ VT w' q2 d.l2 ∧ Below w.heap.size w w'

set_option maxHeartbeats 1000000 in
theorem deed_fin {W : World} {r : Nat} {a0 a1 a2 a3 a4 a5 a6 a7 a8 a9 a10 a11 a12 : Value} (hr : W.heap[r]? = some (.cells #[a0, a1, a2, a3, a4, a5, a6, a7, a8, a9, a10, a11, a12] 100 (0, 0))) (hge : w.heap.size ≤ r) (d : Dd) {q : Option Addr} {c : Nat} {q2 : Option Addr} (h1 : VT W q d.o.l ∧ (q = none → c = 0)) (h2 : VT W q2 d.l2) (hB : Below w.heap.size w W) :
    DeedR w d (.returned (.agg #[.string d.t, .int .i64 d.n, .int .u8 d.v.k, .int .i64 d.v.n, .int .u8 d.o.k, .string d.o.s, .slice q d.o.l.length c, .int .i64 d.o.room, .int .i64 d.o.fn, .int .i64 d.of_, .int .i64 d.at_, .slice q2 d.l2.length d.l2.length, .int .i64 d.r2])) (((((((((((((W.setCell ⟨r, 0, none⟩ (.string d.t)).setCell ⟨r, 1, none⟩ (.int .i64 d.n)).setCell ⟨r, 2, none⟩ (.int .u8 d.v.k)).setCell ⟨r, 3, none⟩ (.int .i64 d.v.n)).setCell ⟨r, 4, none⟩ (.int .u8 d.o.k)).setCell ⟨r, 5, none⟩ (.string d.o.s)).setCell ⟨r, 6, none⟩ (.slice q d.o.l.length c)).setCell ⟨r, 7, none⟩ (.int .i64 d.o.room)).setCell ⟨r, 8, none⟩ (.int .i64 d.o.fn)).setCell ⟨r, 9, none⟩ (.int .i64 d.of_)).setCell ⟨r, 10, none⟩ (.int .i64 d.at_)).setCell ⟨r, 11, none⟩ (.slice q2 d.l2.length d.l2.length)).setCell ⟨r, 12, none⟩ (.int .i64 d.r2)) := by
  have ho : ∀ k, k ≠ r → (((((((((((((W.setCell ⟨r, 0, none⟩ (.string d.t)).setCell ⟨r, 1, none⟩ (.int .i64 d.n)).setCell ⟨r, 2, none⟩ (.int .u8 d.v.k)).setCell ⟨r, 3, none⟩ (.int .i64 d.v.n)).setCell ⟨r, 4, none⟩ (.int .u8 d.o.k)).setCell ⟨r, 5, none⟩ (.string d.o.s)).setCell ⟨r, 6, none⟩ (.slice q d.o.l.length c)).setCell ⟨r, 7, none⟩ (.int .i64 d.o.room)).setCell ⟨r, 8, none⟩ (.int .i64 d.o.fn)).setCell ⟨r, 9, none⟩ (.int .i64 d.of_)).setCell ⟨r, 10, none⟩ (.int .i64 d.at_)).setCell ⟨r, 11, none⟩ (.slice q2 d.l2.length d.l2.length)).setCell ⟨r, 12, none⟩ (.int .i64 d.r2)).heap[k]? = W.heap[k]? := fun k hk => set13_other _ _ _ _ _ _ _ _ _ _ _ _ _ hk
  have hBB : Below w.heap.size w (((((((((((((W.setCell ⟨r, 0, none⟩ (.string d.t)).setCell ⟨r, 1, none⟩ (.int .i64 d.n)).setCell ⟨r, 2, none⟩ (.int .u8 d.v.k)).setCell ⟨r, 3, none⟩ (.int .i64 d.v.n)).setCell ⟨r, 4, none⟩ (.int .u8 d.o.k)).setCell ⟨r, 5, none⟩ (.string d.o.s)).setCell ⟨r, 6, none⟩ (.slice q d.o.l.length c)).setCell ⟨r, 7, none⟩ (.int .i64 d.o.room)).setCell ⟨r, 8, none⟩ (.int .i64 d.o.fn)).setCell ⟨r, 9, none⟩ (.int .i64 d.of_)).setCell ⟨r, 10, none⟩ (.int .i64 d.at_)).setCell ⟨r, 11, none⟩ (.slice q2 d.l2.length d.l2.length)).setCell ⟨r, 12, none⟩ (.int .i64 d.r2)) := below_set13 hB hge _ _ _ _ _ _ _ _ _ _ _ _ _
  generalize ((((((((((((W.setCell ⟨r, 0, none⟩ (.string d.t)).setCell ⟨r, 1, none⟩ (.int .i64 d.n)).setCell ⟨r, 2, none⟩ (.int .u8 d.v.k)).setCell ⟨r, 3, none⟩ (.int .i64 d.v.n)).setCell ⟨r, 4, none⟩ (.int .u8 d.o.k)).setCell ⟨r, 5, none⟩ (.string d.o.s)).setCell ⟨r, 6, none⟩ (.slice q d.o.l.length c)).setCell ⟨r, 7, none⟩ (.int .i64 d.o.room)).setCell ⟨r, 8, none⟩ (.int .i64 d.o.fn)).setCell ⟨r, 9, none⟩ (.int .i64 d.of_)).setCell ⟨r, 10, none⟩ (.int .i64 d.at_)).setCell ⟨r, 11, none⟩ (.slice q2 d.l2.length d.l2.length)).setCell ⟨r, 12, none⟩ (.int .i64 d.r2) = W' at ho hBB ⊢
  have key : ∀ {q : Option Addr} {l : List Vl}, VT W q l → VT W' q l := fun {q l} hv => by
    have hne : ∀ ad, q = some ad → ad.block ≠ r := fun ad e hx => by
      obtain ⟨cs, hc⟩ := hv.2 ad e
      rw [hx, hr] at hc; cases hc
    exact ⟨hv.1.kept_at (fun ad e => ho _ (hne ad e)), fun ad e => by rw [ho _ (hne ad e)]; exact hv.2 ad e⟩
  exact ⟨q, c, q2, rfl, ⟨key h1.1, h1.2⟩, key h2, hBB⟩

theorem DeedR.from {w0 : World} {d : Dd} {e : Ending} {w' : World} (h : DeedR w d e w') (hB : Below w0.heap.size w0 w) : DeedR w0 d e w' := by
  obtain ⟨q, c, q2, he, h1, h2, hb⟩ := h
  exact ⟨q, c, q2, he, h1, h2, hB.trans (hb.mono hB.size)⟩

/-- What is thrown. -/
def tKind : ByteArray := ⟨#[107, 105, 110, 100]⟩

def tZero : ByteArray := ⟨#[122, 101, 114, 111]⟩

def tGreat : ByteArray := ⟨#[103, 114, 101, 97, 116]⟩

def tItems : ByteArray := ⟨#[105, 116, 101, 109, 115]⟩

def tBounds : ByteArray := ⟨#[98, 111, 117, 110, 100, 115]⟩

set_option maxRecDepth 20000 in
set_option maxHeartbeats 1000000 in
theorem Throws_in (t : ByteArray) (w : World) : Calls Tryz.prog 154 #[.string t] w (DeedR w { t := t }) := by
  go_enter Tryz.func154, Tryz.ntmps154
  go_wp2
  refine bodyPost_ret (results_cell_row (by rfl) _ _ w.heap.size 100 _ _ _ (by rfl) (heap_alloc_new w _) Tryz.underlying100 (by rfl) infoDeed) (by rfl) ?_
  exact ⟨none, 0, none, rfl, ⟨VT.none _, fun _ => rfl⟩, VT.none _, below1 _ _⟩

set_option maxRecDepth 20000 in
set_option maxHeartbeats 1000000 in
theorem deedTo_in (v : Vl) (w : World) : Calls Tryz.prog 232 #[.agg #[.int .u8 v.k, .int .i64 v.n]] w (DeedR w { v := v }) := by
  go_enter Tryz.func232, Tryz.ntmps232
  go_wp2
  refine bodyPost_ret (results_cell_row (by rfl) _ _ (w.heap.size + 1) 100 _ _ _ (by rfl) (heap_two w _ _) Tryz.underlying100 (by rfl) infoDeed) (by rfl) ?_
  exact ⟨none, 0, none, rfl, ⟨VT.none _, fun _ => rfl⟩, VT.none _, below2' _ _ _⟩

end Go.Proofs.YtgokofomoachaaaGreatDoor
