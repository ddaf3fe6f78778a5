/- The signs' functions on texts and on any two values. -/
import Derived.Test.YtgokofomoachaaaGreatDoorPbTexts
namespace Go.Proofs.YtgokofomoachaaaGreatDoor
set_option linter.unusedVariables false
set_option linter.unusedSimpArgs false
open Go.RowKit

variable {w : World}

set_option maxRecDepth 20000 in
set_option maxHeartbeats 1000000 in
theorem sAddT_ok (a b : ByteArray) (hm : ¬ (9223372036854775807 < a.size + b.size)) (hg : ¬ 4096 < (a ++ b).size) (w : World) {d : Dd} (hd : d = makesD (txtO (a ++ b))) : Calls Tryz.prog 160 #[.string a, .string b] w (DeedR w d) := by
  have hB := below1 w (.cells #[.string ⟨#[]⟩, .int .i64 0, .int .u8 0, .int .i64 0, .int .u8 0, .string ⟨#[]⟩, .slice none 0 0, .int .i64 0, .int .i64 0, .int .i64 0, .int .i64 0, .slice none 0 0, .int .i64 0] 100)
  have hb := heap_alloc_new w (.cells #[.string ⟨#[]⟩, .int .i64 0, .int .u8 0, .int .i64 0, .int .u8 0, .string ⟨#[]⟩, .slice none 0 0, .int .i64 0, .int .i64 0, .int .i64 0, .int .i64 0, .slice none 0 0, .int .i64 0] 100)
  have H1 := Text_ok (a ++ b) (w.alloc (.cells #[.string ⟨#[]⟩, .int .i64 0, .int .u8 0, .int .i64 0, .int .u8 0, .string ⟨#[]⟩, .slice none 0 0, .int .i64 0, .int .i64 0, .int .i64 0, .int .i64 0, .slice none 0 0, .int .i64 0] 100)) (by omega) hd
  clear hd hg
  go_enter Tryz.func160, Tryz.ntmps160
  go_wp2_with (first
    | (go_at_call 70; (with_reducible refine H1.mono ?_); clear H1; rintro e w1 ⟨q, c_, q2, rfl, h1, h2, hB1⟩; have hr := (hB1.block _ (Array.getElem?_eq_some_iff.1 hb).1).trans hb; obtain ⟨⟨z0, z1, z2, z3, z4, z5, z6, z7, z8, z9, z10, z11, z12⟩, y0, y1, y2, y3, y4, y5, y6, y7, y8, y9, y10, y11, y12⟩ := cell_row13 hr))
  refine bodyPost_ret (results_cell_row (by rfl) _ _ (w.heap.size) 100 _ _ _ (by rfl) (set13_row hr) Tryz.underlying100 (by rfl) infoDeed) (by rfl) ?_
  exact deed_fin hr (by omega) d h1 h2 (hB.trans (hB1.mono hB.size))

set_option maxRecDepth 20000 in
set_option maxHeartbeats 1000000 in
theorem sAddT_far (a b : ByteArray) (hm : ¬ (9223372036854775807 < a.size + b.size)) (hg : 4096 < (a ++ b).size) (w : World) {d : Dd} (hd : d = thrD tGreat) : Calls Tryz.prog 160 #[.string a, .string b] w (DeedR w d) := by
  have hB := below1 w (.cells #[.string ⟨#[]⟩, .int .i64 0, .int .u8 0, .int .i64 0, .int .u8 0, .string ⟨#[]⟩, .slice none 0 0, .int .i64 0, .int .i64 0, .int .i64 0, .int .i64 0, .slice none 0 0, .int .i64 0] 100)
  have hb := heap_alloc_new w (.cells #[.string ⟨#[]⟩, .int .i64 0, .int .u8 0, .int .i64 0, .int .u8 0, .string ⟨#[]⟩, .slice none 0 0, .int .i64 0, .int .i64 0, .int .i64 0, .int .i64 0, .slice none 0 0, .int .i64 0] 100)
  have H1 := Text_far (a ++ b) (w.alloc (.cells #[.string ⟨#[]⟩, .int .i64 0, .int .u8 0, .int .i64 0, .int .u8 0, .string ⟨#[]⟩, .slice none 0 0, .int .i64 0, .int .i64 0, .int .i64 0, .int .i64 0, .slice none 0 0, .int .i64 0] 100)) hg hd
  clear hd hg
  go_enter Tryz.func160, Tryz.ntmps160
  go_wp2_with (first
    | (go_at_call 70; (with_reducible refine H1.mono ?_); clear H1; rintro e w1 ⟨q, c_, q2, rfl, h1, h2, hB1⟩; have hr := (hB1.block _ (Array.getElem?_eq_some_iff.1 hb).1).trans hb; obtain ⟨⟨z0, z1, z2, z3, z4, z5, z6, z7, z8, z9, z10, z11, z12⟩, y0, y1, y2, y3, y4, y5, y6, y7, y8, y9, y10, y11, y12⟩ := cell_row13 hr))
  refine bodyPost_ret (results_cell_row (by rfl) _ _ (w.heap.size) 100 _ _ _ (by rfl) (set13_row hr) Tryz.underlying100 (by rfl) infoDeed) (by rfl) ?_
  exact deed_fin hr (by omega) d h1 h2 (hB.trans (hB1.mono hB.size))

set_option maxRecDepth 20000 in
set_option maxHeartbeats 1000000 in
theorem sLessT_in (a b : ByteArray) (w : World) {d : Dd} (hd : d = truthD (Op.bytesLess a.toList b.toList)) : Calls Tryz.prog 168 #[.string a, .string b] w (DeedR w d) := by
  have hB := below1 w (.cells #[.string ⟨#[]⟩, .int .i64 0, .int .u8 0, .int .i64 0, .int .u8 0, .string ⟨#[]⟩, .slice none 0 0, .int .i64 0, .int .i64 0, .int .i64 0, .int .i64 0, .slice none 0 0, .int .i64 0] 100)
  have hb := heap_alloc_new w (.cells #[.string ⟨#[]⟩, .int .i64 0, .int .u8 0, .int .i64 0, .int .u8 0, .string ⟨#[]⟩, .slice none 0 0, .int .i64 0, .int .i64 0, .int .i64 0, .int .i64 0, .slice none 0 0, .int .i64 0] 100)
  have H1 := truthD_in _ (w.alloc (.cells #[.string ⟨#[]⟩, .int .i64 0, .int .u8 0, .int .i64 0, .int .u8 0, .string ⟨#[]⟩, .slice none 0 0, .int .i64 0, .int .i64 0, .int .i64 0, .int .i64 0, .slice none 0 0, .int .i64 0] 100)) hd
  clear hd
  go_enter Tryz.func168, Tryz.ntmps168
  go_wp2_with (first
    | (go_at_call 167; (with_reducible refine H1.mono ?_); clear H1; rintro e w1 ⟨q, c_, q2, rfl, h1, h2, hB1⟩; have hr := (hB1.block _ (Array.getElem?_eq_some_iff.1 hb).1).trans hb; obtain ⟨⟨z0, z1, z2, z3, z4, z5, z6, z7, z8, z9, z10, z11, z12⟩, y0, y1, y2, y3, y4, y5, y6, y7, y8, y9, y10, y11, y12⟩ := cell_row13 hr))
  refine bodyPost_ret (results_cell_row (by rfl) _ _ (w.heap.size) 100 _ _ _ (by rfl) (set13_row hr) Tryz.underlying100 (by rfl) infoDeed) (by rfl) ?_
  exact deed_fin hr (by omega) d h1 h2 (hB.trans (hB1.mono hB.size))

set_option maxRecDepth 20000 in
set_option maxHeartbeats 1000000 in
theorem sMostT_in (a b : ByteArray) (w : World) {d : Dd} (hd : d = truthD (Op.bytesLess a.toList b.toList || a.toList == b.toList)) : Calls Tryz.prog 170 #[.string a, .string b] w (DeedR w d) := by
  have hB := below1 w (.cells #[.string ⟨#[]⟩, .int .i64 0, .int .u8 0, .int .i64 0, .int .u8 0, .string ⟨#[]⟩, .slice none 0 0, .int .i64 0, .int .i64 0, .int .i64 0, .int .i64 0, .slice none 0 0, .int .i64 0] 100)
  have hb := heap_alloc_new w (.cells #[.string ⟨#[]⟩, .int .i64 0, .int .u8 0, .int .i64 0, .int .u8 0, .string ⟨#[]⟩, .slice none 0 0, .int .i64 0, .int .i64 0, .int .i64 0, .int .i64 0, .slice none 0 0, .int .i64 0] 100)
  have H1 := truthD_in _ (w.alloc (.cells #[.string ⟨#[]⟩, .int .i64 0, .int .u8 0, .int .i64 0, .int .u8 0, .string ⟨#[]⟩, .slice none 0 0, .int .i64 0, .int .i64 0, .int .i64 0, .int .i64 0, .slice none 0 0, .int .i64 0] 100)) hd
  have HLE := leqS
  clear hd
  go_enter Tryz.func170, Tryz.ntmps170
  go_wp2_with (first
    | (go_at_call 167; (with_reducible refine H1.mono ?_); clear H1; rintro e w1 ⟨q, c_, q2, rfl, h1, h2, hB1⟩; have hr := (hB1.block _ (Array.getElem?_eq_some_iff.1 hb).1).trans hb; obtain ⟨⟨z0, z1, z2, z3, z4, z5, z6, z7, z8, z9, z10, z11, z12⟩, y0, y1, y2, y3, y4, y5, y6, y7, y8, y9, y10, y11, y12⟩ := cell_row13 hr))
  refine bodyPost_ret (results_cell_row (by rfl) _ _ (w.heap.size) 100 _ _ _ (by rfl) (set13_row hr) Tryz.underlying100 (by rfl) infoDeed) (by rfl) ?_
  exact deed_fin hr (by omega) d h1 h2 (hB.trans (hB1.mono hB.size))

set_option maxRecDepth 20000 in
set_option maxHeartbeats 2000000 in
theorem sSame_in {p : Option Addr} {S : List Om} (h : Ask w p S) (c : Nat) (a b : Vl) (ha : a.k = 3 → leadO S a ≠ none) (hb : b.k = 3 → leadO S b ≠ none) (r : Bool) (hr0 : r = true ↔ essP S a = essP S b) {d : Dd} (hd : d = truthD (r)) : Calls Tryz.prog 171 #[.slice p S.length c, .agg #[.int .u8 a.k, .int .i64 a.n], .agg #[.int .u8 b.k, .int .i64 b.n]] w (DeedR w d) := by
  have hB := below3' w (.cells #[.int .u8 a.k, .int .i64 a.n] 27) (.cells #[.int .u8 b.k, .int .i64 b.n] 27) (.cells #[.string ⟨#[]⟩, .int .i64 0, .int .u8 0, .int .i64 0, .int .u8 0, .string ⟨#[]⟩, .slice none 0 0, .int .i64 0, .int .i64 0, .int .i64 0, .int .i64 0, .slice none 0 0, .int .i64 0] 100)
  have e0 := heap3_0 w (.cells #[.int .u8 a.k, .int .i64 a.n] 27) (.cells #[.int .u8 b.k, .int .i64 b.n] 27) (.cells #[.string ⟨#[]⟩, .int .i64 0, .int .u8 0, .int .i64 0, .int .u8 0, .string ⟨#[]⟩, .slice none 0 0, .int .i64 0, .int .i64 0, .int .i64 0, .int .i64 0, .slice none 0 0, .int .i64 0] 100)
  have e1 := heap3_1 w (.cells #[.int .u8 a.k, .int .i64 a.n] 27) (.cells #[.int .u8 b.k, .int .i64 b.n] 27) (.cells #[.string ⟨#[]⟩, .int .i64 0, .int .u8 0, .int .i64 0, .int .u8 0, .string ⟨#[]⟩, .slice none 0 0, .int .i64 0, .int .i64 0, .int .i64 0, .int .i64 0, .slice none 0 0, .int .i64 0] 100)
  have e2 := heap3_2 w (.cells #[.int .u8 a.k, .int .i64 a.n] 27) (.cells #[.int .u8 b.k, .int .i64 b.n] 27) (.cells #[.string ⟨#[]⟩, .int .i64 0, .int .u8 0, .int .i64 0, .int .u8 0, .string ⟨#[]⟩, .slice none 0 0, .int .i64 0, .int .i64 0, .int .i64 0, .int .i64 0, .slice none 0 0, .int .i64 0] 100)
  obtain ⟨x0, x1⟩ := cell_row2 e0
  obtain ⟨u0, u1⟩ := cell_row2 e1
  have HS := psame_in (h.below hB) c a b ha hb r hr0
  have HT := fun (W : World) => truthD_in (r) W hd
  clear ha hb hr0 hd
  go_enter Tryz.func171, Tryz.ntmps171
  go_wp2_with (first
    | (go_at_call 172; (with_reducible refine HS.mono ?_); clear HS; rintro e w0 ⟨rfl, hB0⟩; have f2 := (hB0.block _ (Array.getElem?_eq_some_iff.1 e2).1).trans e2; have hBw := hB.trans (hB0.mono hB.size); have H1 := HT w0; clear HT)
    | (go_at_call 167; (with_reducible refine H1.mono ?_); clear H1; rintro e w1 ⟨q, c_, q2, rfl, h1, h2, hB1⟩; have hr := (hB1.block _ (Array.getElem?_eq_some_iff.1 f2).1).trans f2; obtain ⟨⟨z0, z1, z2, z3, z4, z5, z6, z7, z8, z9, z10, z11, z12⟩, y0, y1, y2, y3, y4, y5, y6, y7, y8, y9, y10, y11, y12⟩ := cell_row13 hr))
  refine bodyPost_ret (results_cell_row (by rfl) _ _ (w.heap.size + 1 + 1) 100 _ _ _ (by rfl) (set13_row hr) Tryz.underlying100 (by rfl) infoDeed) (by rfl) ?_
  exact deed_fin hr (by omega) d h1 h2 (hBw.trans (hB1.mono hBw.size))

set_option maxRecDepth 20000 in
set_option maxHeartbeats 2000000 in
theorem sUnlike_in {p : Option Addr} {S : List Om} (h : Ask w p S) (c : Nat) (a b : Vl) (ha : a.k = 3 → leadO S a ≠ none) (hb : b.k = 3 → leadO S b ≠ none) (r : Bool) (hr0 : r = true ↔ essP S a = essP S b) {d : Dd} (hd : d = truthD (!r)) : Calls Tryz.prog 173 #[.slice p S.length c, .agg #[.int .u8 a.k, .int .i64 a.n], .agg #[.int .u8 b.k, .int .i64 b.n]] w (DeedR w d) := by
  have hB := below3' w (.cells #[.int .u8 a.k, .int .i64 a.n] 27) (.cells #[.int .u8 b.k, .int .i64 b.n] 27) (.cells #[.string ⟨#[]⟩, .int .i64 0, .int .u8 0, .int .i64 0, .int .u8 0, .string ⟨#[]⟩, .slice none 0 0, .int .i64 0, .int .i64 0, .int .i64 0, .int .i64 0, .slice none 0 0, .int .i64 0] 100)
  have e0 := heap3_0 w (.cells #[.int .u8 a.k, .int .i64 a.n] 27) (.cells #[.int .u8 b.k, .int .i64 b.n] 27) (.cells #[.string ⟨#[]⟩, .int .i64 0, .int .u8 0, .int .i64 0, .int .u8 0, .string ⟨#[]⟩, .slice none 0 0, .int .i64 0, .int .i64 0, .int .i64 0, .int .i64 0, .slice none 0 0, .int .i64 0] 100)
  have e1 := heap3_1 w (.cells #[.int .u8 a.k, .int .i64 a.n] 27) (.cells #[.int .u8 b.k, .int .i64 b.n] 27) (.cells #[.string ⟨#[]⟩, .int .i64 0, .int .u8 0, .int .i64 0, .int .u8 0, .string ⟨#[]⟩, .slice none 0 0, .int .i64 0, .int .i64 0, .int .i64 0, .int .i64 0, .slice none 0 0, .int .i64 0] 100)
  have e2 := heap3_2 w (.cells #[.int .u8 a.k, .int .i64 a.n] 27) (.cells #[.int .u8 b.k, .int .i64 b.n] 27) (.cells #[.string ⟨#[]⟩, .int .i64 0, .int .u8 0, .int .i64 0, .int .u8 0, .string ⟨#[]⟩, .slice none 0 0, .int .i64 0, .int .i64 0, .int .i64 0, .int .i64 0, .slice none 0 0, .int .i64 0] 100)
  obtain ⟨x0, x1⟩ := cell_row2 e0
  obtain ⟨u0, u1⟩ := cell_row2 e1
  have HS := psame_in (h.below hB) c a b ha hb r hr0
  have HT := fun (W : World) => truthD_in (!r) W hd
  clear ha hb hr0 hd
  go_enter Tryz.func173, Tryz.ntmps173
  go_wp2_with (first
    | (go_at_call 172; (with_reducible refine HS.mono ?_); clear HS; rintro e w0 ⟨rfl, hB0⟩; have f2 := (hB0.block _ (Array.getElem?_eq_some_iff.1 e2).1).trans e2; have hBw := hB.trans (hB0.mono hB.size); have H1 := HT w0; clear HT)
    | (go_at_call 167; (with_reducible refine H1.mono ?_); clear H1; rintro e w1 ⟨q, c_, q2, rfl, h1, h2, hB1⟩; have hr := (hB1.block _ (Array.getElem?_eq_some_iff.1 f2).1).trans f2; obtain ⟨⟨z0, z1, z2, z3, z4, z5, z6, z7, z8, z9, z10, z11, z12⟩, y0, y1, y2, y3, y4, y5, y6, y7, y8, y9, y10, y11, y12⟩ := cell_row13 hr))
  refine bodyPost_ret (results_cell_row (by rfl) _ _ (w.heap.size + 1 + 1) 100 _ _ _ (by rfl) (set13_row hr) Tryz.underlying100 (by rfl) infoDeed) (by rfl) ?_
  exact deed_fin hr (by omega) d h1 h2 (hBw.trans (hB1.mono hBw.size))


end Go.Proofs.YtgokofomoachaaaGreatDoor
