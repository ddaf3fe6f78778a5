/- What an operation came to: comesTo, throws, whole, truth. -/
import Derived.Test.YtlghciglofbkaaaPmCopyOf
namespace Go.Proofs.Ytlghciglofbkaaa
set_option linter.unusedVariables false
set_option linter.unusedSimpArgs false
open Go.RowKit

variable {w : World}

/-- What an operation came to: a store of its own memory, a value, what is thrown, words. -/
def DidR (w : World) (S : List Om) (v : Vl) (t : ByteArray) (n : Int) (e : Ending) (w' : World) : Prop :=
  ∃ p c, e = .returned (.agg #[.slice p S.length c, .int .u8 v.k, .int .i64 v.n, .string t, .int .i64 n]) ∧ (∃ ts, ts.map Po.o = S ∧ OwnSt w.heap.size (.slice p S.length c) ts w') ∧ Below w.heap.size w w'

theorem OwnSt.keptT {base : Nat} {v : Value} {ts : List Po} (h : OwnSt base v ts w) {w' : World} (hk : ∀ (k : Nat) (cur : Array Value) (T : TypeId), w.heap[k]? = some (.cells cur T (0, 0)) → (T = 55 ∨ T = 26) → w'.heap[k]? = w.heap[k]?) : OwnSt base v ts w' :=
  ⟨row_kept h.row (fun k e => by obtain ⟨cur, hc⟩ := row_obj h.row e; exact hk k cur _ hc (.inl rfl)), fun x hx => row_kept (h.lst x hx) (fun k e => by obtain ⟨cur, hc⟩ := row_obj (h.lst x hx) e; exact hk k cur _ hc (.inr rfl)), h.one⟩

theorem did_fin {W : World} {r : Nat} {a0 a1 a2 a3 a4 : Value} (hr : W.heap[r]? = some (.cells #[a0, a1, a2, a3, a4] 28 (0, 0))) (hge : w.heap.size ≤ r) {S : List Om} {p : Option Addr} {c : Nat} (hts : ∃ ts, ts.map Po.o = S ∧ OwnSt w.heap.size (.slice p S.length c) ts W) (hB : Below w.heap.size w W) (v : Vl) (t : ByteArray) (n : Int) :
    DidR w S v t n (.returned (.agg #[.slice p S.length c, .int .u8 v.k, .int .i64 v.n, .string t, .int .i64 n])) (((((W.setCell ⟨r, 0, none⟩ (.slice p S.length c)).setCell ⟨r, 1, none⟩ (.int .u8 v.k)).setCell ⟨r, 2, none⟩ (.int .i64 v.n)).setCell ⟨r, 3, none⟩ (.string t)).setCell ⟨r, 4, none⟩ (.int .i64 n)) := by
  obtain ⟨ts, hm, ho⟩ := hts
  refine ⟨p, c, rfl, ⟨ts, hm, ho.keptT (fun k cur T hk hT => ?_)⟩, below_set5 hB hge _ _ _ _ _⟩
  have hne : k ≠ r := fun e => by
    subst e
    rw [hr] at hk
    cases hk
    rcases hT with h | h <;> cases h
  exact set5_other (j := 0) _ _ _ _ _ hne

theorem DidR.from {w0 : World} {S : List Om} {v : Vl} {t : ByteArray} {n : Int} {e : Ending} {w' : World} (h : DidR w S v t n e w') (hB : Below w0.heap.size w0 w) : DidR w0 S v t n e w' := by
  obtain ⟨p, c, he, ⟨ts, hm, ho⟩, hb⟩ := h
  exact ⟨p, c, he, ⟨ts, hm, ho.mono hB.size⟩, hB.trans (hb.mono hB.size)⟩

theorem infoDid : (Try.prog.info? 28).map (·.size) = some 5 := by kernel_rfl

theorem infoVal2 : (Try.prog.info? 26).map (·.size) = some 2 := by kernel_rfl

/-- A store that operations are asked of. -/
structure Ask (w : World) (p : Option Addr) (S : List Om) : Prop where
  st : IsSt w p S
  len : S.length ≤ 1048576
  vals : ∀ o ∈ S, o.l.length ≤ 100000
  str : ∀ o ∈ S, o.s.size ≤ 1048576
  fit : ∀ o ∈ S, o.fits

theorem Ask.below {p : Option Addr} {S : List Om} (h : Ask w p S) {w' : World} (hB : Below w.heap.size w w') : Ask w' p S := ⟨h.st.below hB, h.len, h.vals, h.str, h.fit⟩

theorem Ask.copyOf {p : Option Addr} {S : List Om} (h : Ask w p S) (c : Nat) : Calls Try.prog 45 #[.slice p S.length c] w fun e w' => ∃ v, e = .returned v ∧ (∃ ts, ts.map Po.o = S ∧ OwnSt w.heap.size v ts w') ∧ Below w.heap.size w w' :=
  copyOf_in c h.st h.len (fun o ho => Nat.le_trans (h.vals o ho) (by decide)) h.str

theorem own_len {base : Nat} {v : Value} {ts : List Po} {S : List Om} (h : OwnSt base v ts w) (hm : ts.map Po.o = S) : ∃ p c, v = .slice p S.length c := by
  obtain ⟨p, c, hv, -⟩ := own_slice h.row
  exact ⟨p, c, by rw [hv, ← hm]; simp⟩

set_option maxRecDepth 20000 in
set_option maxHeartbeats 1000000 in
theorem throws_in {p : Option Addr} {S : List Om} (h : Ask w p S) (c : Nat) (t : ByteArray) :
    Calls Try.prog 14 #[.slice p S.length c, .string t] w (DidR w S ⟨0, 0⟩ t 0) := by
  have H1 := (h.below (below1 w (.cells #[.slice none 0 0, .int .u8 0, .int .i64 0, .string ⟨#[]⟩, .int .i64 0] 28))).copyOf c
  have hb := heap_alloc_new w (.cells #[.slice none 0 0, .int .u8 0, .int .i64 0, .string ⟨#[]⟩, .int .i64 0] 28)
  have hB0 := below1 w (.cells #[.slice none 0 0, .int .u8 0, .int .i64 0, .string ⟨#[]⟩, .int .i64 0] 28)
  go_enter Try.func14, Try.ntmps14
  go_wp2_with (first
    | (go_at_call 45; (with_reducible refine H1.mono ?_); clear H1; rintro e w1 ⟨v1, rfl, ⟨ts, hm, ho⟩, hB1⟩; obtain ⟨p1, c1, rfl⟩ := own_len ho hm; have hr := (hB1.block w.heap.size (by simp)).trans hb; obtain ⟨⟨z0, z1, z2, z3, z4⟩, y0, y1, y2, y3, y4⟩ := cell_row5 hr))
  refine bodyPost_ret (results_cell_row (by rfl) _ _ w.heap.size 28 _ _ _ (by rfl) (set5_row hr) Try.underlying28 (by rfl) infoDid) (by rfl) ?_
  exact did_fin hr (Nat.le_refl _) ⟨ts, hm, ho.mono (by simp)⟩ (hB0.trans (hB1.mono hB0.size)) ⟨0, 0⟩ t 0

set_option maxRecDepth 20000 in
set_option maxHeartbeats 1000000 in
theorem comesTo_in {p : Option Addr} {S : List Om} (h : Ask w p S) (c : Nat) (v : Vl) :
    Calls Try.prog 22 #[.slice p S.length c, .agg #[.int .u8 v.k, .int .i64 v.n]] w (DidR w S v ⟨#[]⟩ 0) := by
  have hB0 := below2' w (.cells #[.int .u8 v.k, .int .i64 v.n] 26) (.cells #[.slice none 0 0, .int .u8 0, .int .i64 0, .string ⟨#[]⟩, .int .i64 0] 28)
  have hb := heap_two w (.cells #[.int .u8 v.k, .int .i64 v.n] 26) (.cells #[.slice none 0 0, .int .u8 0, .int .i64 0, .string ⟨#[]⟩, .int .i64 0] 28)
  have hb0 := (Below.heap_alloc _ (.cells #[.slice none 0 0, .int .u8 0, .int .i64 0, .string ⟨#[]⟩, .int .i64 0] 28) w.heap.size (by simp)).trans (heap_alloc_new w (.cells #[.int .u8 v.k, .int .i64 v.n] 26))
  go_enter Try.func22, Try.ntmps22
  go_wp2_with fail
  generalize hW : (w.alloc (.cells #[.int .u8 v.k, .int .i64 v.n] 26)).alloc (.cells #[.slice none 0 0, .int .u8 0, .int .i64 0, .string ⟨#[]⟩, .int .i64 0] 28) = W at *
  clear hW
  have hBd : Below w.heap.size w W.drew := below_drew hB0
  have hbd : W.drew.heap[w.heap.size + 1]? = _ := hb
  have hb0d : W.drew.heap[w.heap.size]? = _ := hb0
  have H1 := (h.below hBd).copyOf c
  obtain ⟨x0, x1⟩ := cell_row2 hb0
  obtain ⟨⟨z0, z1, z2, z3, z4⟩, y0, y1, y2, y3, y4⟩ := cell_row5 hb
  go_region_law (first
    | (go_simp; go_at_call 45; (with_reducible refine H1.mono ?_); rintro e w1 ⟨v1, rfl, ⟨ts, hm, ho⟩, hB1⟩; obtain ⟨p1, c1, rfl⟩ := own_len ho hm; have hr := (hB1.block _ (Array.getElem?_eq_some_iff.1 hbd).1).trans hbd; have hr0 := (hB1.block _ (Array.getElem?_eq_some_iff.1 hb0d).1).trans hb0d; obtain ⟨⟨z0, z1, z2, z3, z4⟩, y0, y1, y2, y3, y4⟩ := cell_row5 hr; obtain ⟨x0, x1⟩ := cell_row2 hr0; (try dsimp only [Oper.upon])))
  all_goals
    go_wp2
    refine bodyPost_ret (results_cell_row (by rfl) _ _ (w.heap.size + 1) 28 _ _ _ (by rfl) (set5_row hr) Try.underlying28 (by rfl) infoDid) (by rfl) ?_
    exact did_fin hr (by omega) ⟨ts, hm, ho.mono hBd.size⟩ (hBd.trans (hB1.mono hBd.size)) v ⟨#[]⟩ 0

set_option maxHeartbeats 1000000 in
theorem pwhole_in (n : Int) (w : World) : Calls Try.prog 23 #[.int .i64 n] w fun e w' => e = .returned (.agg #[.int .u8 2, .int .i64 n]) ∧ Below w.heap.size w w' := by
  go_enter Try.func23, Try.ntmps23
  go_wp2
  refine bodyPost_ret (results_cell_row (by rfl) _ _ w.heap.size 26 _ _ _ (by rfl) (heap_alloc_new w _) Try.underlying26 (by rfl) infoVal2) (by rfl) ?_
  exact ⟨rfl, below1 _ _⟩

/-- A truth value. -/
def tru (b : Bool) : Vl := ⟨1, if b then 1 else 0⟩

set_option maxHeartbeats 1000000 in
theorem truth_in (b : Bool) (w : World) : Calls Try.prog 37 #[.bool b] w fun e w' => e = .returned (.agg #[.int .u8 (tru b).k, .int .i64 (tru b).n]) ∧ Below w.heap.size w w' := by
  cases b
  all_goals
    go_enter Try.func37, Try.ntmps37
    go_wp2
    refine bodyPost_ret (results_cell_row (by rfl) _ _ w.heap.size 26 _ _ _ (by rfl) (heap_alloc_new w _) Try.underlying26 (by rfl) infoVal2) (by rfl) ?_
    exact ⟨rfl, below1 _ _⟩

end Go.Proofs.Ytlghciglofbkaaa
