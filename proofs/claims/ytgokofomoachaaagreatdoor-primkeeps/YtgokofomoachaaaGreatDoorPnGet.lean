/- plain: getItem, getByte, Get. -/
import Derived.Test.YtgokofomoachaaaGreatDoorPnDid2
namespace Go.Proofs.YtgokofomoachaaaGreatDoor
set_option linter.unusedVariables false
set_option linter.unusedSimpArgs false
open Go.RowKit

variable {w : World}

set_option maxRecDepth 20000 in
set_option maxHeartbeats 1000000 in
theorem getItem_bad {q : Option Addr} {l : List Vl} (cq : Nat) (n : Int) (w : World) (hn : n < 0 ∨ (l.length : Int) ≤ n) {d : Dd} (hd : d = thrD tBounds) : Calls Tryz.prog 234 #[.slice q l.length cq, .int .i64 n] w (DeedR w d) := by
  have hB := below1 w (.cells #[.string ⟨#[]⟩, .int .i64 0, .int .u8 0, .int .i64 0, .int .u8 0, .string ⟨#[]⟩, .slice none 0 0, .int .i64 0, .int .i64 0, .int .i64 0, .int .i64 0, .slice none 0 0, .int .i64 0] 100)
  have hb := heap_alloc_new w (.cells #[.string ⟨#[]⟩, .int .i64 0, .int .u8 0, .int .i64 0, .int .u8 0, .string ⟨#[]⟩, .slice none 0 0, .int .i64 0, .int .i64 0, .int .i64 0, .int .i64 0, .slice none 0 0, .int .i64 0] 100)
  have H1 := throwsD hd (w.alloc (.cells #[.string ⟨#[]⟩, .int .i64 0, .int .u8 0, .int .i64 0, .int .u8 0, .string ⟨#[]⟩, .slice none 0 0, .int .i64 0, .int .i64 0, .int .i64 0, .int .i64 0, .slice none 0 0, .int .i64 0] 100))
  unfold tBounds at H1
  clear hd
  by_cases h0 : n < 0
  · clear hn
    go_enter Tryz.func234, Tryz.ntmps234
    go_wp2_with (first
      | (go_at_call 154; (with_reducible refine H1.mono ?_); clear H1; rintro e w1 ⟨q, c_, q2, rfl, h1, h2, hB1⟩; have hr := (hB1.block _ (Array.getElem?_eq_some_iff.1 hb).1).trans hb; obtain ⟨⟨z0, z1, z2, z3, z4, z5, z6, z7, z8, z9, z10, z11, z12⟩, y0, y1, y2, y3, y4, y5, y6, y7, y8, y9, y10, y11, y12⟩ := cell_row13 hr))
    refine bodyPost_ret (results_cell_row (by rfl) _ _ (w.heap.size) 100 _ _ _ (by rfl) (set13_row hr) Tryz.underlying100 (by rfl) infoDeed) (by rfl) ?_
    exact deed_fin hr (by omega) d h1 h2 (hB.trans (hB1.mono hB.size))
  · have h1' : (l.length : Int) ≤ n := by omega
    clear hn
    go_enter Tryz.func234, Tryz.ntmps234
    go_wp2_with (first
      | (go_at_call 154; (with_reducible refine H1.mono ?_); clear H1; rintro e w1 ⟨q, c_, q2, rfl, h1, h2, hB1⟩; have hr := (hB1.block _ (Array.getElem?_eq_some_iff.1 hb).1).trans hb; obtain ⟨⟨z0, z1, z2, z3, z4, z5, z6, z7, z8, z9, z10, z11, z12⟩, y0, y1, y2, y3, y4, y5, y6, y7, y8, y9, y10, y11, y12⟩ := cell_row13 hr))
    refine bodyPost_ret (results_cell_row (by rfl) _ _ (w.heap.size) 100 _ _ _ (by rfl) (set13_row hr) Tryz.underlying100 (by rfl) infoDeed) (by rfl) ?_
    exact deed_fin hr (by omega) d h1 h2 (hB.trans (hB1.mono hB.size))

set_option maxRecDepth 20000 in
set_option maxHeartbeats 1000000 in
theorem getByte_bad (t : ByteArray) (n : Int) (w : World) (hn : n < 0 ∨ (t.size : Int) ≤ n) {d : Dd} (hd : d = thrD tBounds) : Calls Tryz.prog 235 #[.string t, .int .i64 n] w (DeedR w d) := by
  have hB := below1 w (.cells #[.string ⟨#[]⟩, .int .i64 0, .int .u8 0, .int .i64 0, .int .u8 0, .string ⟨#[]⟩, .slice none 0 0, .int .i64 0, .int .i64 0, .int .i64 0, .int .i64 0, .slice none 0 0, .int .i64 0] 100)
  have hb := heap_alloc_new w (.cells #[.string ⟨#[]⟩, .int .i64 0, .int .u8 0, .int .i64 0, .int .u8 0, .string ⟨#[]⟩, .slice none 0 0, .int .i64 0, .int .i64 0, .int .i64 0, .int .i64 0, .slice none 0 0, .int .i64 0] 100)
  have H1 := throwsD hd (w.alloc (.cells #[.string ⟨#[]⟩, .int .i64 0, .int .u8 0, .int .i64 0, .int .u8 0, .string ⟨#[]⟩, .slice none 0 0, .int .i64 0, .int .i64 0, .int .i64 0, .int .i64 0, .slice none 0 0, .int .i64 0] 100))
  unfold tBounds at H1
  clear hd
  by_cases h0 : n < 0
  · clear hn
    go_enter Tryz.func235, Tryz.ntmps235
    go_wp2_with (first
      | (go_at_call 154; (with_reducible refine H1.mono ?_); clear H1; rintro e w1 ⟨q, c_, q2, rfl, h1, h2, hB1⟩; have hr := (hB1.block _ (Array.getElem?_eq_some_iff.1 hb).1).trans hb; obtain ⟨⟨z0, z1, z2, z3, z4, z5, z6, z7, z8, z9, z10, z11, z12⟩, y0, y1, y2, y3, y4, y5, y6, y7, y8, y9, y10, y11, y12⟩ := cell_row13 hr))
    refine bodyPost_ret (results_cell_row (by rfl) _ _ (w.heap.size) 100 _ _ _ (by rfl) (set13_row hr) Tryz.underlying100 (by rfl) infoDeed) (by rfl) ?_
    exact deed_fin hr (by omega) d h1 h2 (hB.trans (hB1.mono hB.size))
  · have h1' : (t.size : Int) ≤ n := by omega
    clear hn
    go_enter Tryz.func235, Tryz.ntmps235
    go_wp2_with (first
      | (go_at_call 154; (with_reducible refine H1.mono ?_); clear H1; rintro e w1 ⟨q, c_, q2, rfl, h1, h2, hB1⟩; have hr := (hB1.block _ (Array.getElem?_eq_some_iff.1 hb).1).trans hb; obtain ⟨⟨z0, z1, z2, z3, z4, z5, z6, z7, z8, z9, z10, z11, z12⟩, y0, y1, y2, y3, y4, y5, y6, y7, y8, y9, y10, y11, y12⟩ := cell_row13 hr))
    refine bodyPost_ret (results_cell_row (by rfl) _ _ (w.heap.size) 100 _ _ _ (by rfl) (set13_row hr) Tryz.underlying100 (by rfl) infoDeed) (by rfl) ?_
    exact deed_fin hr (by omega) d h1 h2 (hB.trans (hB1.mono hB.size))

set_option maxRecDepth 20000 in
set_option maxHeartbeats 1000000 in
theorem getItem_ok {q : Option Addr} {l : List Vl} (cq : Nat) (hv : Vals w q l) (hl : l.length ≤ 1000000) {j : Nat} {x : Vl} (hj : l[j]? = some x) {d : Dd} (hd : d = { v := x }) : Calls Tryz.prog 234 #[.slice q l.length cq, .int .i64 j] w (DeedR w d) := by
  have hB := below1 w (.cells #[.string ⟨#[]⟩, .int .i64 0, .int .u8 0, .int .i64 0, .int .u8 0, .string ⟨#[]⟩, .slice none 0 0, .int .i64 0, .int .i64 0, .int .i64 0, .int .i64 0, .slice none 0 0, .int .i64 0] 100)
  have hb := heap_alloc_new w (.cells #[.string ⟨#[]⟩, .int .i64 0, .int .u8 0, .int .i64 0, .int .u8 0, .string ⟨#[]⟩, .slice none 0 0, .int .i64 0, .int .i64 0, .int .i64 0, .int .i64 0, .slice none 0 0, .int .i64 0] 100)
  have H1 := comesD hd (w.alloc (.cells #[.string ⟨#[]⟩, .int .i64 0, .int .u8 0, .int .i64 0, .int .u8 0, .string ⟨#[]⟩, .slice none 0 0, .int .i64 0, .int .i64 0, .int .i64 0, .int .i64 0, .slice none 0 0, .int .i64 0] 100))
  obtain ⟨b0, off, rfl, c0, c1⟩ := (hv.below hB) j x hj
  have hjl := (List.getElem?_eq_some_iff.1 hj).1
  have hjl' : (j : Int) < (l.length : Int) := by omega
  clear hd hj
  go_enter Tryz.func234, Tryz.ntmps234
  go_wp2_with (first
    | (go_at_call 232; (with_reducible refine H1.mono ?_); clear H1; rintro e w1 ⟨q, c_, q2, rfl, h1, h2, hB1⟩; have hr := (hB1.block _ (Array.getElem?_eq_some_iff.1 hb).1).trans hb; obtain ⟨⟨z0, z1, z2, z3, z4, z5, z6, z7, z8, z9, z10, z11, z12⟩, y0, y1, y2, y3, y4, y5, y6, y7, y8, y9, y10, y11, y12⟩ := cell_row13 hr))
  refine bodyPost_ret (results_cell_row (by rfl) _ _ (w.heap.size) 100 _ _ _ (by rfl) (set13_row hr) Tryz.underlying100 (by rfl) infoDeed) (by rfl) ?_
  exact deed_fin hr (by omega) d h1 h2 (hB.trans (hB1.mono hB.size))

set_option maxRecDepth 20000 in
set_option maxHeartbeats 1000000 in
theorem getByte_ok (t : ByteArray) (ht : t.size ≤ 1048576) {j : Nat} (hj : j < t.size) (w : World) {d : Dd} (hd : d = makesD (txtO (t.extract j (j + 1)))) : Calls Tryz.prog 235 #[.string t, .int .i64 j] w (DeedR w d) := by
  have hB := below1 w (.cells #[.string ⟨#[]⟩, .int .i64 0, .int .u8 0, .int .i64 0, .int .u8 0, .string ⟨#[]⟩, .slice none 0 0, .int .i64 0, .int .i64 0, .int .i64 0, .int .i64 0, .slice none 0 0, .int .i64 0] 100)
  have hb := heap_alloc_new w (.cells #[.string ⟨#[]⟩, .int .i64 0, .int .u8 0, .int .i64 0, .int .u8 0, .string ⟨#[]⟩, .slice none 0 0, .int .i64 0, .int .i64 0, .int .i64 0, .int .i64 0, .slice none 0 0, .int .i64 0] 100)
  have hsz : (t.extract j (j + 1)).size = 1 := by rw [ByteArray.size_extract]; omega
  have HC := clone_in (t.extract j (j + 1)) (by omega) (w.alloc (.cells #[.string ⟨#[]⟩, .int .i64 0, .int .u8 0, .int .i64 0, .int .u8 0, .string ⟨#[]⟩, .slice none 0 0, .int .i64 0, .int .i64 0, .int .i64 0, .int .i64 0, .slice none 0 0, .int .i64 0] 100))
  have HT := fun (W : World) => Text_ok (t.extract j (j + 1)) W (by omega) hd
  have hj' : (j : Int) < (t.size : Int) := by omega
  have hj2 : (j : Int) + 1 ≤ (t.size : Int) := by omega
  clear hsz hd
  go_enter Tryz.func235, Tryz.ntmps235
  go_wp2_with (first
    | (go_at_call 241; (with_reducible refine HC.mono ?_); clear HC; rintro e w0 ⟨rfl, hB0⟩; have hb' := (hB0.block _ (Array.getElem?_eq_some_iff.1 hb).1).trans hb; have hB3 := hB.trans (hB0.mono hB.size); have H1 := HT w0)
    | (go_at_call 70; (with_reducible refine H1.mono ?_); clear H1; rintro e w1 ⟨q, c_, q2, rfl, h1, h2, hB1⟩; have hr := (hB1.block _ (Array.getElem?_eq_some_iff.1 hb').1).trans hb'; obtain ⟨⟨z0, z1, z2, z3, z4, z5, z6, z7, z8, z9, z10, z11, z12⟩, y0, y1, y2, y3, y4, y5, y6, y7, y8, y9, y10, y11, y12⟩ := cell_row13 hr))
  refine bodyPost_ret (results_cell_row (by rfl) _ _ (w.heap.size) 100 _ _ _ (by rfl) (set13_row hr) Tryz.underlying100 (by rfl) infoDeed) (by rfl) ?_
  exact deed_fin hr (by omega) d h1 h2 (hB3.trans (hB1.mono hB3.size))

/-- What Get works out of values that may be: the object, and where the key stands. -/
def getD (v k : Vl) (o : Om) (r : Option Nat) : Dd :=
  if v.k = 5 ∧ k.k ≠ 7 then { v := mval o.l r }
  else if v.k = 4 ∧ k.k = 2 then (if k.n < 0 ∨ (o.l.length : Int) ≤ k.n then thrD tBounds else { v := o.l.getD k.n.toNat ⟨0, 0⟩ })
  else if v.k = 3 ∧ k.k = 2 then (if k.n < 0 ∨ (o.s.size : Int) ≤ k.n then thrD tBounds else makesD (txtO (o.s.extract k.n.toNat (k.n.toNat + 1))))
  else thrD tKind

theorem may_obj {S : List Om} {l : List Vl} (hf : mayL S l) {v : Vl} (hv : v ∈ l) (h3 : 3 ≤ v.k) : ∃ o, leadO S v = some o ∧ objP S o := by
  have hc := hf v hv
  obtain ⟨o, ho⟩ := Option.ne_none_iff_exists'.1 (hc.1.2.2 h3)
  exact ⟨o, ho, hc.2 v.n o (Reach.root (by simp) (by rw [ho]; simp)) (leadO_at ho).1⟩

theorem may_text {S : List Om} {l : List Vl} (hf : mayL S l) {v : Vl} (hv : v ∈ l) : v.k = 3 → leadO S v ≠ none := fun h3 => (hf v hv).1.2.2 (by omega)

theorem obj_text {S : List Om} {o : Om} (h : objP S o) : TextOk S o.l := fun v hv h3 => (h.2.1 v hv).1.2.2 (by omega)

set_option maxRecDepth 20000 in
set_option maxHeartbeats 4000000 in
theorem Get_pl {p : Option Addr} {S : List Om} (h : Ask w p S) (c : Nat) (v k : Vl) (hf : mayL S [v, k]) (o : Om) (r : Option Nat) (hlo : 3 ≤ v.k → leadO S v = some o) (hka : v.k = 5 → KeyAt S o.l k r) {d : Dd} (hd : d = getD v k o r) :
    Calls Tryz.prog 143 #[.slice p S.length c, .agg #[.int .u8 v.k, .int .i64 v.n], .agg #[.int .u8 k.k, .int .i64 k.n]] w (DeedR w d) := by
  have hB := below3' w (.cells #[.int .u8 v.k, .int .i64 v.n] 27) (.cells #[.int .u8 k.k, .int .i64 k.n] 27) (.cells #[.string ⟨#[]⟩, .int .i64 0, .int .u8 0, .int .i64 0, .int .u8 0, .string ⟨#[]⟩, .slice none 0 0, .int .i64 0, .int .i64 0, .int .i64 0, .int .i64 0, .slice none 0 0, .int .i64 0] 100)
  have e0 := heap3_0 w (.cells #[.int .u8 v.k, .int .i64 v.n] 27) (.cells #[.int .u8 k.k, .int .i64 k.n] 27) (.cells #[.string ⟨#[]⟩, .int .i64 0, .int .u8 0, .int .i64 0, .int .u8 0, .string ⟨#[]⟩, .slice none 0 0, .int .i64 0, .int .i64 0, .int .i64 0, .int .i64 0, .slice none 0 0, .int .i64 0] 100)
  have e1 := heap3_1 w (.cells #[.int .u8 v.k, .int .i64 v.n] 27) (.cells #[.int .u8 k.k, .int .i64 k.n] 27) (.cells #[.string ⟨#[]⟩, .int .i64 0, .int .u8 0, .int .i64 0, .int .u8 0, .string ⟨#[]⟩, .slice none 0 0, .int .i64 0, .int .i64 0, .int .i64 0, .int .i64 0, .slice none 0 0, .int .i64 0] 100)
  have e2 := heap3_2 w (.cells #[.int .u8 v.k, .int .i64 v.n] 27) (.cells #[.int .u8 k.k, .int .i64 k.n] 27) (.cells #[.string ⟨#[]⟩, .int .i64 0, .int .u8 0, .int .i64 0, .int .u8 0, .string ⟨#[]⟩, .slice none 0 0, .int .i64 0, .int .i64 0, .int .i64 0, .int .i64 0, .slice none 0 0, .int .i64 0] 100)
  obtain ⟨x0, x1⟩ := cell_row2 e0
  obtain ⟨y0, y1⟩ := cell_row2 e1
  have l0 := (Array.getElem?_eq_some_iff.1 e0).1
  have l1 := (Array.getElem?_eq_some_iff.1 e1).1
  have l2 := (Array.getElem?_eq_some_iff.1 e2).1
  have hn02 : w.heap.size ≠ w.heap.size + 1 + 1 := by omega
  have hn12 : w.heap.size + 1 ≠ w.heap.size + 1 + 1 := by omega
  have HF1 := fldO1
  have HF2 := fldO2
  have kindCase : d = thrD tKind → ¬ (v.k = 5 ∧ k.k ≠ 7) → ¬ (v.k = 4 ∧ k.k = 2) → ¬ (v.k = 3 ∧ k.k = 2) → Calls Tryz.prog 143 #[.slice p S.length c, .agg #[.int .u8 v.k, .int .i64 v.n], .agg #[.int .u8 k.k, .int .i64 k.n]] w (DeedR w d) := fun hk h5 h4 h3 => by
    have H1 := throwsD hk (((w.alloc (.cells #[.int .u8 v.k, .int .i64 v.n] 27)).alloc (.cells #[.int .u8 k.k, .int .i64 k.n] 27)).alloc (.cells #[.string ⟨#[]⟩, .int .i64 0, .int .u8 0, .int .i64 0, .int .u8 0, .string ⟨#[]⟩, .slice none 0 0, .int .i64 0, .int .i64 0, .int .i64 0, .int .i64 0, .slice none 0 0, .int .i64 0] 100))
    unfold tKind at H1
    clear hk hd hlo hka hf
    have n5 : ((v.k : Int) = 5) → (k.k : Int) = 7 := fun e => by
      have e' : v.k = 5 := by omega
      have : ¬ k.k ≠ 7 := fun h => h5 ⟨e', h⟩
      omega
    have n4 : ((v.k : Int) = 4) → ¬ (k.k : Int) = 2 := fun e e2 => h4 ⟨by omega, by omega⟩
    have n3 : ((v.k : Int) = 3) → ¬ (k.k : Int) = 2 := fun e e2 => h3 ⟨by omega, by omega⟩
    clear h5 h4 h3
    by_cases g5 : v.k = 5
    · obtain ⟨vk, vn⟩ := v
      obtain ⟨kk, kn⟩ := k
      simp only at g5
      subst g5
      have hkk : kk = 7 := by have := n5 rfl; simp at this; omega
      subst hkk
      clear n5 n4 n3
      simp only [show ((5 : Nat) : Int) = 5 from rfl, show ((7 : Nat) : Int) = 7 from rfl] at *
      go_enter Tryz.func143, Tryz.ntmps143
      go_wp2_with (first
        | (go_at_call 154; (with_reducible refine H1.mono ?_); clear H1; rintro e w1 ⟨q, c_, q2, rfl, h1, h2, hB1⟩; have hr := (hB1.block _ (Array.getElem?_eq_some_iff.1 e2).1).trans e2; obtain ⟨⟨z0, z1, z2, z3, z4, z5, z6, z7, z8, z9, z10, z11, z12⟩, y0, y1, y2, y3, y4, y5, y6, y7, y8, y9, y10, y11, y12⟩ := cell_row13 hr))
      refine bodyPost_ret (results_cell_row (by rfl) _ _ (w.heap.size + 1 + 1) 100 _ _ _ (by rfl) (set13_row hr) Tryz.underlying100 (by rfl) infoDeed) (by rfl) ?_
      exact deed_fin hr (by omega) d h1 h2 (hB.trans (hB1.mono hB.size))
    · have g5' : ¬ ((v.k : Int) = 5) := by omega
      clear n5
      by_cases g4 : v.k = 4
      · obtain ⟨vk, vn⟩ := v
        simp only at g4
        subst g4
        have hkk := n4 rfl
        clear n4 n3 g5 g5'
        simp only [show ((4 : Nat) : Int) = 4 from rfl] at *
        go_enter Tryz.func143, Tryz.ntmps143
        go_wp2_with (first
          | (go_at_call 154; (with_reducible refine H1.mono ?_); clear H1; rintro e w1 ⟨q, c_, q2, rfl, h1, h2, hB1⟩; have hr := (hB1.block _ (Array.getElem?_eq_some_iff.1 e2).1).trans e2; obtain ⟨⟨z0, z1, z2, z3, z4, z5, z6, z7, z8, z9, z10, z11, z12⟩, y0, y1, y2, y3, y4, y5, y6, y7, y8, y9, y10, y11, y12⟩ := cell_row13 hr))
        refine bodyPost_ret (results_cell_row (by rfl) _ _ (w.heap.size + 1 + 1) 100 _ _ _ (by rfl) (set13_row hr) Tryz.underlying100 (by rfl) infoDeed) (by rfl) ?_
        exact deed_fin hr (by omega) d h1 h2 (hB.trans (hB1.mono hB.size))
      · have g4' : ¬ ((v.k : Int) = 4) := by omega
        clear n4
        by_cases g3 : v.k = 3
        · obtain ⟨vk, vn⟩ := v
          simp only at g3
          subst g3
          have hkk := n3 rfl
          clear n3 g5 g5' g4 g4'
          simp only [show ((3 : Nat) : Int) = 3 from rfl] at *
          go_enter Tryz.func143, Tryz.ntmps143
          go_wp2_with (first
            | (go_at_call 154; (with_reducible refine H1.mono ?_); clear H1; rintro e w1 ⟨q, c_, q2, rfl, h1, h2, hB1⟩; have hr := (hB1.block _ (Array.getElem?_eq_some_iff.1 e2).1).trans e2; obtain ⟨⟨z0, z1, z2, z3, z4, z5, z6, z7, z8, z9, z10, z11, z12⟩, y0, y1, y2, y3, y4, y5, y6, y7, y8, y9, y10, y11, y12⟩ := cell_row13 hr))
          refine bodyPost_ret (results_cell_row (by rfl) _ _ (w.heap.size + 1 + 1) 100 _ _ _ (by rfl) (set13_row hr) Tryz.underlying100 (by rfl) infoDeed) (by rfl) ?_
          exact deed_fin hr (by omega) d h1 h2 (hB.trans (hB1.mono hB.size))
        · have g3' : ¬ ((v.k : Int) = 3) := by omega
          clear n3
          go_enter Tryz.func143, Tryz.ntmps143
          go_wp2_with (first
            | (go_at_call 154; (with_reducible refine H1.mono ?_); clear H1; rintro e w1 ⟨q, c_, q2, rfl, h1, h2, hB1⟩; have hr := (hB1.block _ (Array.getElem?_eq_some_iff.1 e2).1).trans e2; obtain ⟨⟨z0, z1, z2, z3, z4, z5, z6, z7, z8, z9, z10, z11, z12⟩, y0, y1, y2, y3, y4, y5, y6, y7, y8, y9, y10, y11, y12⟩ := cell_row13 hr))
          refine bodyPost_ret (results_cell_row (by rfl) _ _ (w.heap.size + 1 + 1) 100 _ _ _ (by rfl) (set13_row hr) Tryz.underlying100 (by rfl) infoDeed) (by rfl) ?_
          exact deed_fin hr (by omega) d h1 h2 (hB.trans (hB1.mono hB.size))
  by_cases h5 : v.k = 5 ∧ k.k ≠ 7
  · have hdx : d = { v := mval o.l r } := by rw [hd]; unfold getD; rw [if_pos h5]
    clear hd kindCase
    obtain ⟨vk, vn⟩ := v
    simp only at h5
    obtain ⟨h5a, h57⟩ := h5
    subst h5a
    have hle : leadO S ⟨5, vn⟩ = some o := hlo (by simp)
    obtain ⟨o', ho', hobj⟩ := may_obj hf (v := ⟨5, vn⟩) (by simp) (by simp)
    rw [hle] at ho'; cases ho'
    have hok : o.k = 5 := (leadO_some hle).2.2.1
    have hform := hobj.1.2.2.1 hok
    have hl2 : o.l.length % 2 = 0 := by have := hform.1; omega
    have hlen : o.l.length ≤ 1000000 := by have := hform.2.1; omega
    have HO := fun (W : World) (hb : Below w.heap.size w W) => object_in (h.below hb) c ⟨5, vn⟩ hle
    have HV := fun (W' : World) (q : Option Addr) (co : Nat) (hb : Below w.heap.size w W') (hq : Vals W' q o.l) => valueOf_in (h.below hb) c co hq hlen hl2 (obj_text hobj) k (may_text hf (by simp)) r (hka rfl) _ rfl
    generalize mval o.l r = xx at HV hdx
    have HC := fun (W' : World) => comesD hdx W'
    have h57' : ¬ ((k.k : Int) = 7) := by omega
    simp only [show ((5 : Nat) : Int) = 5 from rfl] at x0 HO e0 e1 e2 hB l0 l1 l2 x1 y0 y1 ⊢
    clear hf hle hobj hlo hka hform hok hl2 hdx
    go_enter Tryz.func143, Tryz.ntmps143
    go_wp2_with fail
    generalize hW : ((w.alloc (.cells #[.int .u8 5, .int .i64 vn] 27)).alloc (.cells #[.int .u8 k.k, .int .i64 k.n] 27)).alloc (.cells #[.string ⟨#[]⟩, .int .i64 0, .int .u8 0, .int .i64 0, .int .u8 0, .string ⟨#[]⟩, .slice none 0 0, .int .i64 0, .int .i64 0, .int .i64 0, .int .i64 0, .slice none 0 0, .int .i64 0] 100) = W at *
    clear hW
    have hD := below_drew (Below.refl W.heap.size W)
    have hBW := hB
    have hBd := hBW.trans (hD.mono hBW.size)
    have FCS : ∀ W', Below W.heap.size W W' → (W'.cell? ⟨w.heap.size, 0, none⟩ = some (.int .u8 5) ∧ W'.cell? ⟨w.heap.size, 1, none⟩ = some (.int .i64 vn)) ∧ W'.cell? ⟨w.heap.size + 1, 0, none⟩ = some (.int .u8 k.k) ∧ W'.cell? ⟨w.heap.size + 1, 1, none⟩ = some (.int .i64 k.n) := fun W' hb => ⟨cell_row2 ((hb.block _ l0).trans e0), cell_row2 ((hb.block _ l1).trans e1)⟩
    have S0 := FCS _ hD
    have SW := FCS _ (Below.refl _ _)
    have HOd := HO W.drew hBd
    go_region_held3 (fun W => (W.cell? ⟨w.heap.size, 0, none⟩ = some (.int .u8 5) ∧ W.cell? ⟨w.heap.size, 1, none⟩ = some (.int .i64 vn)) ∧ W.cell? ⟨w.heap.size + 1, 0, none⟩ = some (.int .u8 k.k) ∧ W.cell? ⟨w.heap.size + 1, 1, none⟩ = some (.int .i64 k.n)) (first | with_reducible exact S0 | with_reducible exact SW | with_reducible exact S2 | with_reducible exact S3 | with_reducible exact ⟨⟨s0, s1⟩, s2, s3⟩ | with_reducible exact ⟨⟨(cell_set13 hn02).trans s0, (cell_set13 hn02).trans s1⟩, (cell_set13 hn12).trans s2, (cell_set13 hn12).trans s3⟩ | go_keep)
      (first
        | (go_at_call 175; (with_reducible refine HOd.mono ?_); clear HOd; rintro e w2 ⟨q, co, rfl, hvq, -, hB2⟩; have hD2 := hD.trans (hB2.mono hD.size); have S2 := FCS _ hD2; have hBw2 := hBW.trans (hD2.mono hBW.size); have HV2 := HV w2 q co hBw2 (hvq.below hB2))
        | (go_at_call 233; (with_reducible refine HV2.mono ?_); clear HV2; rintro e w3 ⟨rfl, hB3⟩; have hD3 := hD2.trans (hB3.mono hD2.size); have S3 := FCS _ hD3; have HC3 := HC w3)
        | (go_at_call 232; (with_reducible refine HC3.mono ?_); clear HC3; rintro e w4 ⟨q_, c_, q2, rfl, h1, h2, hBz⟩; have hDZ := hD3.trans (hBz.mono hD3.size); obtain ⟨⟨s0, s1⟩, s2, s3⟩ := FCS _ hDZ; have hr := (hDZ.block _ l2).trans e2; obtain ⟨⟨z0, z1, z2, z3, z4, z5, z6, z7, z8, z9, z10, z11, z12⟩, t0, t1, t2, t3, t4, t5, t6, t7, t8, t9, t10, t11, t12⟩ := cell_row13 hr))
    all_goals
      go_wp2
      refine bodyPost_ret (results_cell_row (by rfl) _ _ (w.heap.size + 1 + 1) 100 _ _ _ (by rfl) (set13_row hr) Tryz.underlying100 (by rfl) infoDeed) (by rfl) ?_
      exact deed_fin hr (by omega) d h1 h2 (hBW.trans (hDZ.mono hBW.size))
  by_cases h4 : v.k = 4 ∧ k.k = 2
  · have hdx : d = (if k.n < 0 ∨ (o.l.length : Int) ≤ k.n then thrD tBounds else { v := o.l.getD k.n.toNat ⟨0, 0⟩ }) := by rw [hd]; unfold getD; rw [if_neg h5, if_pos h4]
    clear hd kindCase h5 
    obtain ⟨vk, vn⟩ := v
    obtain ⟨kk, kn⟩ := k
    simp only at h4 hdx
    obtain ⟨hva, hka'⟩ := h4
    subst hva hka'
    have hle : leadO S ⟨4, vn⟩ = some o := hlo (by simp)
    obtain ⟨o', ho', hobj⟩ := may_obj hf (v := ⟨4, vn⟩) (by simp) (by simp)
    rw [hle] at ho'; cases ho'
    have hlen := h.vals o (leadO_mem hle)
    have hstr := h.str o (leadO_mem hle)
    have HO := fun (W : World) (hb : Below w.heap.size w W) => object_in (h.below hb) c ⟨4, vn⟩ hle
    have HG : ∀ (W : World) (q : Option Addr) (co : Nat), Vals W q o.l → Calls Tryz.prog 234 #[.slice q o.l.length co, .int .i64 kn] W (DeedR W d) := fun W q co hq => by
      by_cases hb : kn < 0 ∨ (o.l.length : Int) ≤ kn
      · rw [if_pos hb] at hdx
        exact getItem_bad co kn W hb hdx
      · rw [if_neg hb] at hdx
        obtain ⟨j, rfl⟩ : ∃ j : Nat, kn = j := ⟨kn.toNat, by omega⟩
        rw [Int.toNat_natCast] at hdx
        have hj : j < o.l.length := by omega
        exact getItem_ok co hq (by omega) (j := j) (x := o.l.getD j ⟨0, 0⟩) (by simp [List.getD, hj]) hdx
    simp only [show ((4 : Nat) : Int) = 4 from rfl, show ((2 : Nat) : Int) = 2 from rfl] at x0 HO e0 e1 e2 hB l0 l1 l2 x1 y0 y1 ⊢
    clear hf hle hobj hlo hka hdx
    go_enter Tryz.func143, Tryz.ntmps143
    go_wp2_with fail
    generalize hW : ((w.alloc (.cells #[.int .u8 4, .int .i64 vn] 27)).alloc (.cells #[.int .u8 2, .int .i64 kn] 27)).alloc (.cells #[.string ⟨#[]⟩, .int .i64 0, .int .u8 0, .int .i64 0, .int .u8 0, .string ⟨#[]⟩, .slice none 0 0, .int .i64 0, .int .i64 0, .int .i64 0, .int .i64 0, .slice none 0 0, .int .i64 0] 100) = W at *
    clear hW
    have hD := below_drew (Below.refl W.heap.size W)
    have hBW := hB
    have hBd := hBW.trans (hD.mono hBW.size)
    have FCS : ∀ W', Below W.heap.size W W' → (W'.cell? ⟨w.heap.size, 0, none⟩ = some (.int .u8 4) ∧ W'.cell? ⟨w.heap.size, 1, none⟩ = some (.int .i64 vn)) ∧ W'.cell? ⟨w.heap.size + 1, 0, none⟩ = some (.int .u8 2) ∧ W'.cell? ⟨w.heap.size + 1, 1, none⟩ = some (.int .i64 kn) := fun W' hb => ⟨cell_row2 ((hb.block _ l0).trans e0), cell_row2 ((hb.block _ l1).trans e1)⟩
    have S0 := FCS _ hD
    have SW := FCS _ (Below.refl _ _)
    have HOd := HO W.drew hBd
    go_region_held3 (fun W => (W.cell? ⟨w.heap.size, 0, none⟩ = some (.int .u8 4) ∧ W.cell? ⟨w.heap.size, 1, none⟩ = some (.int .i64 vn)) ∧ W.cell? ⟨w.heap.size + 1, 0, none⟩ = some (.int .u8 2) ∧ W.cell? ⟨w.heap.size + 1, 1, none⟩ = some (.int .i64 kn)) (first | with_reducible exact S0 | with_reducible exact SW | with_reducible exact S2 | with_reducible exact S3 | with_reducible exact ⟨⟨s0, s1⟩, s2, s3⟩ | with_reducible exact ⟨⟨(cell_set13 hn02).trans s0, (cell_set13 hn02).trans s1⟩, (cell_set13 hn12).trans s2, (cell_set13 hn12).trans s3⟩ | go_keep)
      (first
        | (go_at_call 175; (with_reducible refine HOd.mono ?_); clear HOd; rintro e w2 ⟨q, co, rfl, hvq, -, hB2⟩; have hD2 := hD.trans (hB2.mono hD.size); have S2 := FCS _ hD2; have hBw2 := hBW.trans (hD2.mono hBW.size); have HG2 := HG w2 q co (hvq.below hB2))
        | (go_at_call 234; (with_reducible refine HG2.mono ?_); clear HG2; rintro e w4 ⟨q_, c_, q2, rfl, h1, h2, hBz⟩; have hDZ := hD2.trans (hBz.mono hD2.size); obtain ⟨⟨s0, s1⟩, s2, s3⟩ := FCS _ hDZ; have hr := (hDZ.block _ l2).trans e2; obtain ⟨⟨z0, z1, z2, z3, z4, z5, z6, z7, z8, z9, z10, z11, z12⟩, t0, t1, t2, t3, t4, t5, t6, t7, t8, t9, t10, t11, t12⟩ := cell_row13 hr))
    all_goals
      go_wp2
      refine bodyPost_ret (results_cell_row (by rfl) _ _ (w.heap.size + 1 + 1) 100 _ _ _ (by rfl) (set13_row hr) Tryz.underlying100 (by rfl) infoDeed) (by rfl) ?_
      exact deed_fin hr (by omega) d h1 h2 (hBW.trans (hDZ.mono hBW.size))
  by_cases h3 : v.k = 3 ∧ k.k = 2
  · have hdx : d = (if k.n < 0 ∨ (o.s.size : Int) ≤ k.n then thrD tBounds else makesD (txtO (o.s.extract k.n.toNat (k.n.toNat + 1)))) := by rw [hd]; unfold getD; rw [if_neg h5, if_neg h4, if_pos h3]
    clear hd kindCase h5 h4
    obtain ⟨vk, vn⟩ := v
    obtain ⟨kk, kn⟩ := k
    simp only at h3 hdx
    obtain ⟨hva, hka'⟩ := h3
    subst hva hka'
    have hle : leadO S ⟨3, vn⟩ = some o := hlo (by simp)
    obtain ⟨o', ho', hobj⟩ := may_obj hf (v := ⟨3, vn⟩) (by simp) (by simp)
    rw [hle] at ho'; cases ho'
    have hlen := h.vals o (leadO_mem hle)
    have hstr := h.str o (leadO_mem hle)
    have HO := fun (W : World) (hb : Below w.heap.size w W) => object_in (h.below hb) c ⟨3, vn⟩ hle
    have HG : ∀ (W : World) (q : Option Addr) (co : Nat), Vals W q o.l → Calls Tryz.prog 235 #[.string o.s, .int .i64 kn] W (DeedR W d) := fun W q co hq => by
      by_cases hb : kn < 0 ∨ (o.s.size : Int) ≤ kn
      · rw [if_pos hb] at hdx
        exact getByte_bad o.s kn W hb hdx
      · rw [if_neg hb] at hdx
        obtain ⟨j, rfl⟩ : ∃ j : Nat, kn = j := ⟨kn.toNat, by omega⟩
        rw [Int.toNat_natCast] at hdx
        exact getByte_ok o.s hstr (by omega) W hdx
    simp only [show ((3 : Nat) : Int) = 3 from rfl, show ((2 : Nat) : Int) = 2 from rfl] at x0 HO e0 e1 e2 hB l0 l1 l2 x1 y0 y1 ⊢
    clear hf hle hobj hlo hka hdx
    go_enter Tryz.func143, Tryz.ntmps143
    go_wp2_with fail
    generalize hW : ((w.alloc (.cells #[.int .u8 3, .int .i64 vn] 27)).alloc (.cells #[.int .u8 2, .int .i64 kn] 27)).alloc (.cells #[.string ⟨#[]⟩, .int .i64 0, .int .u8 0, .int .i64 0, .int .u8 0, .string ⟨#[]⟩, .slice none 0 0, .int .i64 0, .int .i64 0, .int .i64 0, .int .i64 0, .slice none 0 0, .int .i64 0] 100) = W at *
    clear hW
    have hD := below_drew (Below.refl W.heap.size W)
    have hBW := hB
    have hBd := hBW.trans (hD.mono hBW.size)
    have FCS : ∀ W', Below W.heap.size W W' → (W'.cell? ⟨w.heap.size, 0, none⟩ = some (.int .u8 3) ∧ W'.cell? ⟨w.heap.size, 1, none⟩ = some (.int .i64 vn)) ∧ W'.cell? ⟨w.heap.size + 1, 0, none⟩ = some (.int .u8 2) ∧ W'.cell? ⟨w.heap.size + 1, 1, none⟩ = some (.int .i64 kn) := fun W' hb => ⟨cell_row2 ((hb.block _ l0).trans e0), cell_row2 ((hb.block _ l1).trans e1)⟩
    have S0 := FCS _ hD
    have SW := FCS _ (Below.refl _ _)
    have HOd := HO W.drew hBd
    go_region_held3 (fun W => (W.cell? ⟨w.heap.size, 0, none⟩ = some (.int .u8 3) ∧ W.cell? ⟨w.heap.size, 1, none⟩ = some (.int .i64 vn)) ∧ W.cell? ⟨w.heap.size + 1, 0, none⟩ = some (.int .u8 2) ∧ W.cell? ⟨w.heap.size + 1, 1, none⟩ = some (.int .i64 kn)) (first | with_reducible exact S0 | with_reducible exact SW | with_reducible exact S2 | with_reducible exact S3 | with_reducible exact ⟨⟨s0, s1⟩, s2, s3⟩ | with_reducible exact ⟨⟨(cell_set13 hn02).trans s0, (cell_set13 hn02).trans s1⟩, (cell_set13 hn12).trans s2, (cell_set13 hn12).trans s3⟩ | go_keep)
      (first
        | (go_at_call 175; (with_reducible refine HOd.mono ?_); clear HOd; rintro e w2 ⟨q, co, rfl, hvq, -, hB2⟩; have hD2 := hD.trans (hB2.mono hD.size); have S2 := FCS _ hD2; have hBw2 := hBW.trans (hD2.mono hBW.size); have HG2 := HG w2 q co (hvq.below hB2))
        | (go_at_call 235; (with_reducible refine HG2.mono ?_); clear HG2; rintro e w4 ⟨q_, c_, q2, rfl, h1, h2, hBz⟩; have hDZ := hD2.trans (hBz.mono hD2.size); obtain ⟨⟨s0, s1⟩, s2, s3⟩ := FCS _ hDZ; have hr := (hDZ.block _ l2).trans e2; obtain ⟨⟨z0, z1, z2, z3, z4, z5, z6, z7, z8, z9, z10, z11, z12⟩, t0, t1, t2, t3, t4, t5, t6, t7, t8, t9, t10, t11, t12⟩ := cell_row13 hr))
    all_goals
      go_wp2
      refine bodyPost_ret (results_cell_row (by rfl) _ _ (w.heap.size + 1 + 1) 100 _ _ _ (by rfl) (set13_row hr) Tryz.underlying100 (by rfl) infoDeed) (by rfl) ?_
      exact deed_fin hr (by omega) d h1 h2 (hBW.trans (hDZ.mono hBW.size))
  exact kindCase (by rw [hd]; unfold getD; rw [if_neg h5, if_neg h4, if_neg h3]) h5 h4 h3


end Go.Proofs.YtgokofomoachaaaGreatDoor
