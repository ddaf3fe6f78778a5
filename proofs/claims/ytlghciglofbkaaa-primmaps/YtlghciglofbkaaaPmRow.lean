/- prim: getItem, getByte, Text, putItem, putPair. -/
import Derived.Test.YtlghciglofbkaaaPmAdds
namespace Go.Proofs.Ytlghciglofbkaaa
set_option linter.unusedVariables false
set_option linter.unusedSimpArgs false
open Go.RowKit

variable {w : World}

/-- What is thrown. -/
def tKind : ByteArray := ⟨#[107, 105, 110, 100]⟩

def tZero : ByteArray := ⟨#[122, 101, 114, 111]⟩

def tGreat : ByteArray := ⟨#[103, 114, 101, 97, 116]⟩

def tItems : ByteArray := ⟨#[105, 116, 101, 109, 115]⟩

def tBounds : ByteArray := ⟨#[98, 111, 117, 110, 100, 115]⟩

def noD : Obj := .cells #[.slice none 0 0, .int .u8 0, .int .i64 0, .string ⟨#[]⟩, .int .i64 0] 28 (0, 0)

/-- A store that a function made may be handed on, from an earlier world. -/
theorem hts_mono {base base' : Nat} {W : World} {S : List Om} {v : Value} (h : ∃ ts, ts.map Po.o = S ∧ OwnSt base v ts W) (hb : base' ≤ base) : ∃ ts, ts.map Po.o = S ∧ OwnSt base' v ts W := by
  obtain ⟨ts, hm, ho⟩ := h
  exact ⟨ts, hm, ho.mono hb⟩

theorem did_finN {W : World} {r : Nat} {a0 a1 a2 a3 a4 : Value} (hr : W.heap[r]? = some (.cells #[a0, a1, a2, a3, a4] 28 (0, 0))) (hge : w.heap.size ≤ r) {S : List Om} {n : Nat} (hn : S.length = n) {p : Option Addr} {c : Nat} (hts : ∃ ts, ts.map Po.o = S ∧ OwnSt w.heap.size (.slice p S.length c) ts W) (hB : Below w.heap.size w W) (v : Vl) (t : ByteArray) (m : Int) :
    DidR w S v t m (.returned (.agg #[.slice p n c, .int .u8 v.k, .int .i64 v.n, .string t, .int .i64 m])) (((((W.setCell ⟨r, 0, none⟩ (.slice p n c)).setCell ⟨r, 1, none⟩ (.int .u8 v.k)).setCell ⟨r, 2, none⟩ (.int .i64 v.n)).setCell ⟨r, 3, none⟩ (.string t)).setCell ⟨r, 4, none⟩ (.int .i64 m)) := by
  subst hn
  exact did_fin hr hge hts hB v t m

set_option maxRecDepth 20000 in
set_option maxHeartbeats 1000000 in
theorem getItem_bad {p : Option Addr} {S : List Om} (h : Ask w p S) (c : Nat) {q : Option Addr} {l : List Vl} (cq : Nat) (n : Int) (hn : n < 0 ∨ (l.length : Int) ≤ n) :
    Calls Try.prog 26 #[.slice p S.length c, .slice q l.length cq, .int .i64 n] w (DidR w S ⟨0, 0⟩ tBounds 0) := by
  have hB := below1 w noD
  have hb := heap_alloc_new w noD
  have H1 := throws_in (h.below hB) c tBounds
  unfold noD at hB hb H1
  unfold tBounds at H1 ⊢
  by_cases h0 : n < 0
  · clear hn
    go_enter Try.func26, Try.ntmps26
    go_wp2_with (first
      | (go_at_call 14; (with_reducible refine H1.mono ?_); clear H1; rintro e w1 ⟨p1, c1, rfl, hts, hB1⟩; have hr := (hB1.block _ (Array.getElem?_eq_some_iff.1 hb).1).trans hb; obtain ⟨⟨z0, z1, z2, z3, z4⟩, y0, y1, y2, y3, y4⟩ := cell_row5 hr))
    refine bodyPost_ret (results_cell_row (by rfl) _ _ w.heap.size 28 _ _ _ (by rfl) (set5_row hr) Try.underlying28 (by rfl) infoDid) (by rfl) ?_
    exact did_fin hr (Nat.le_refl _) (hts_mono hts hB.size) (hB.trans (hB1.mono hB.size)) ⟨0, 0⟩ _ 0
  · have h1 : (l.length : Int) ≤ n := by omega
    clear hn
    go_enter Try.func26, Try.ntmps26
    go_wp2_with (first
      | (go_at_call 14; (with_reducible refine H1.mono ?_); clear H1; rintro e w1 ⟨p1, c1, rfl, hts, hB1⟩; have hr := (hB1.block _ (Array.getElem?_eq_some_iff.1 hb).1).trans hb; obtain ⟨⟨z0, z1, z2, z3, z4⟩, y0, y1, y2, y3, y4⟩ := cell_row5 hr))
    refine bodyPost_ret (results_cell_row (by rfl) _ _ w.heap.size 28 _ _ _ (by rfl) (set5_row hr) Try.underlying28 (by rfl) infoDid) (by rfl) ?_
    exact did_fin hr (Nat.le_refl _) (hts_mono hts hB.size) (hB.trans (hB1.mono hB.size)) ⟨0, 0⟩ _ 0

set_option maxRecDepth 20000 in
set_option maxHeartbeats 1000000 in
theorem getItem_ok {p : Option Addr} {S : List Om} (h : Ask w p S) (c : Nat) {q : Option Addr} {l : List Vl} (cq : Nat) (hv : Vals w q l) (hl : l.length ≤ 1000000) {j : Nat} {x : Vl} (hj : l[j]? = some x) :
    Calls Try.prog 26 #[.slice p S.length c, .slice q l.length cq, .int .i64 j] w (DidR w S x ⟨#[]⟩ 0) := by
  have hB := below1 w noD
  have hb := heap_alloc_new w noD
  have H1 := comesTo_in (h.below hB) c x
  obtain ⟨b0, off, rfl, c0, c1⟩ := (hv.below hB) j x hj
  have hjl := (List.getElem?_eq_some_iff.1 hj).1
  have hjl' : (j : Int) < (l.length : Int) := by omega
  clear hj
  unfold noD at hB hb H1 c0 c1
  go_enter Try.func26, Try.ntmps26
  go_wp2_with (first
    | (go_at_call 22; (with_reducible refine H1.mono ?_); clear H1; rintro e w1 ⟨p1, c1, rfl, hts, hB1⟩; have hr := (hB1.block _ (Array.getElem?_eq_some_iff.1 hb).1).trans hb; obtain ⟨⟨z0, z1, z2, z3, z4⟩, y0, y1, y2, y3, y4⟩ := cell_row5 hr))
  refine bodyPost_ret (results_cell_row (by rfl) _ _ w.heap.size 28 _ _ _ (by rfl) (set5_row hr) Try.underlying28 (by rfl) infoDid) (by rfl) ?_
  exact did_fin hr (Nat.le_refl _) (hts_mono hts hB.size) (hB.trans (hB1.mono hB.size)) x _ 0

/-- A text as an object. -/
def txtO (t : ByteArray) : Om := ⟨3, t, [], 0, 0⟩

set_option maxRecDepth 20000 in
set_option maxHeartbeats 1000000 in
theorem ptext_long {p : Option Addr} {S : List Om} (h : Ask w p S) (c : Nat) (t : ByteArray) (ht : 4096 < t.size) :
    Calls Try.prog 30 #[.slice p S.length c, .string t] w (DidR w S ⟨0, 0⟩ tGreat 0) := by
  have hB := below1 w noD
  have hb := heap_alloc_new w noD
  have H1 := throws_in (h.below hB) c tGreat
  unfold noD at hB hb H1
  unfold tGreat at H1 ⊢
  have ht' : (4096 : Int) < (t.size : Int) := by omega
  go_enter Try.func30, Try.ntmps30
  go_wp2_with (first
    | (go_at_call 14; (with_reducible refine H1.mono ?_); clear H1; rintro e w1 ⟨p1, c1, rfl, hts, hB1⟩; have hr := (hB1.block _ (Array.getElem?_eq_some_iff.1 hb).1).trans hb; obtain ⟨⟨z0, z1, z2, z3, z4⟩, y0, y1, y2, y3, y4⟩ := cell_row5 hr))
  refine bodyPost_ret (results_cell_row (by rfl) _ _ w.heap.size 28 _ _ _ (by rfl) (set5_row hr) Try.underlying28 (by rfl) infoDid) (by rfl) ?_
  exact did_fin hr (Nat.le_refl _) (hts_mono hts hB.size) (hB.trans (hB1.mono hB.size)) ⟨0, 0⟩ _ 0

set_option maxRecDepth 20000 in
set_option maxHeartbeats 1000000 in
theorem ptext_ok {p : Option Addr} {S : List Om} (h : Ask w p S) (c : Nat) (t : ByteArray) (ht : t.size ≤ 4096) :
    Calls Try.prog 30 #[.slice p S.length c, .string t] w (DidR w (S ++ [txtO t]) ⟨3, (S.length : Int) + 1⟩ ⟨#[]⟩ (wordsO (txtO t) : Nat)) := by
  have hB := below1 w noD
  have hb := heap_alloc_new w noD
  have H1 := makes_in (h.below hB) c (txtO t) (q := none) 0 (fun j v hj => by simp [txtO] at hj) (fun _ => rfl) (by simp [txtO]) (by show t.size ≤ 1048576; omega) (by simp [txtO]) (by simp [txtO]) (by simp [txtO])
  have hkk : (txtO t).k = 3 := rfl
  unfold objV at H1
  rw [hkk] at H1
  simp only [show (txtO t).s = t from rfl, show (txtO t).l = [] from rfl, show (txtO t).room = 0 from rfl, show (txtO t).fn = 0 from rfl, List.length_nil, show ((3 : Nat) : Int) = 3 from rfl] at H1
  unfold noD at hB hb H1
  have ht' : ¬ ((4096 : Int) < (t.size : Int)) := by omega
  go_enter Try.func30, Try.ntmps30
  go_wp2_with (first
    | (go_at_call 18; (with_reducible refine H1.mono ?_); clear H1; rintro e w1 ⟨p1, c1, rfl, hts, hB1⟩; have hr := (hB1.block _ (Array.getElem?_eq_some_iff.1 hb).1).trans hb; obtain ⟨⟨z0, z1, z2, z3, z4⟩, y0, y1, y2, y3, y4⟩ := cell_row5 hr))
  refine bodyPost_ret (results_cell_row (by rfl) _ _ w.heap.size 28 _ _ _ (by rfl) (set5_row hr) Try.underlying28 (by rfl) infoDid) (by rfl) ?_
  exact did_finN hr (Nat.le_refl _) (n := S.length + 1) (by simp) (hts_mono hts hB.size) (hB.trans (hB1.mono hB.size)) ⟨3, (S.length : Int) + 1⟩ ⟨#[]⟩ (wordsO (txtO t) : Nat)

end Go.Proofs.Ytlghciglofbkaaa
