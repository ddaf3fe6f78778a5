/- plain: whole, truth, Not, Neg, Len; wordsOf, makes, Text. -/
import Derived.Test.YtgokofomoachaaaPnDeed
import Derived.Test.YtgokofomoachaaaPmMay
import Derived.Test.YtgokofomoachaaaShEachW
namespace Go.Proofs.Ytgokofomoachaaa
set_option linter.unusedVariables false
set_option linter.unusedSimpArgs false
open Go.RowKit

variable {w : World}

/-- A whole number; a truth value. -/
def wholeD (n : Int) : Dd := { v := ⟨2, n⟩ }

def truthD (b : Bool) : Dd := { v := tru b }

def thrD (t : ByteArray) : Dd := { t := t }

theorem comesD {v : Vl} {d : Dd} (h : d = { v := v }) (w : World) : Calls Try.prog 50 #[.agg #[.int .u8 v.k, .int .i64 v.n]] w (DeedR w d) := by
  subst h; exact deedTo_in v w

theorem throwsD {t : ByteArray} {d : Dd} (h : d = thrD t) (w : World) : Calls Try.prog 16 #[.string t] w (DeedR w d) := by
  subst h; exact Throws_in t w

theorem leadO_mem {S : List Om} {v : Vl} {o : Om} (h : leadO S v = some o) : o ∈ S := by
  obtain ⟨-, -, -, i, -, -, hS⟩ := leadO_some h
  exact List.mem_of_getElem? hS

set_option maxRecDepth 20000 in
set_option maxHeartbeats 1000000 in
theorem wholeD_in (n : Int) (w : World) {d : Dd} (hd : d = wholeD n) : Calls Try.prog 21 #[.int .i64 n] w (DeedR w d) := by
  have hB := below1 w (.cells #[.string ⟨#[]⟩, .int .i64 0, .int .u8 0, .int .i64 0, .int .u8 0, .string ⟨#[]⟩, .slice none 0 0, .int .i64 0, .int .i64 0, .int .i64 0, .int .i64 0, .slice none 0 0, .int .i64 0] 43)
  have hb := heap_alloc_new w (.cells #[.string ⟨#[]⟩, .int .i64 0, .int .u8 0, .int .i64 0, .int .u8 0, .string ⟨#[]⟩, .slice none 0 0, .int .i64 0, .int .i64 0, .int .i64 0, .int .i64 0, .slice none 0 0, .int .i64 0] 43)
  have H1 := comesD (v := ⟨2, n⟩) hd (w.alloc (.cells #[.string ⟨#[]⟩, .int .i64 0, .int .u8 0, .int .i64 0, .int .u8 0, .string ⟨#[]⟩, .slice none 0 0, .int .i64 0, .int .i64 0, .int .i64 0, .int .i64 0, .slice none 0 0, .int .i64 0] 43))
  simp only [show ((2 : Nat) : Int) = 2 from rfl] at H1
  clear hd
  go_enter Try.func21, Try.ntmps21
  go_wp2_with (first
    | (go_at_call 50; (with_reducible refine H1.mono ?_); clear H1; rintro e w1 ⟨q, c_, q2, rfl, h1, h2, hB1⟩; have hr := (hB1.block _ (Array.getElem?_eq_some_iff.1 hb).1).trans hb; obtain ⟨⟨z0, z1, z2, z3, z4, z5, z6, z7, z8, z9, z10, z11, z12⟩, y0, y1, y2, y3, y4, y5, y6, y7, y8, y9, y10, y11, y12⟩ := cell_row13 hr))
  refine bodyPost_ret (results_cell_row (by rfl) _ _ (w.heap.size) 43 _ _ _ (by rfl) (set13_row hr) Try.underlying43 (by rfl) infoDeed) (by rfl) ?_
  exact deed_fin hr (by omega) d h1 h2 (hB.trans (hB1.mono hB.size))

set_option maxRecDepth 20000 in
set_option maxHeartbeats 1000000 in
theorem truthD_in (b : Bool) (w : World) {d : Dd} (hd : d = truthD b) : Calls Try.prog 30 #[.bool b] w (DeedR w d) := by
  have hB := below1 w (.cells #[.string ⟨#[]⟩, .int .i64 0, .int .u8 0, .int .i64 0, .int .u8 0, .string ⟨#[]⟩, .slice none 0 0, .int .i64 0, .int .i64 0, .int .i64 0, .int .i64 0, .slice none 0 0, .int .i64 0] 43)
  have hb := heap_alloc_new w (.cells #[.string ⟨#[]⟩, .int .i64 0, .int .u8 0, .int .i64 0, .int .u8 0, .string ⟨#[]⟩, .slice none 0 0, .int .i64 0, .int .i64 0, .int .i64 0, .int .i64 0, .slice none 0 0, .int .i64 0] 43)
  have H1 := comesD (v := tru b) hd (w.alloc (.cells #[.string ⟨#[]⟩, .int .i64 0, .int .u8 0, .int .i64 0, .int .u8 0, .string ⟨#[]⟩, .slice none 0 0, .int .i64 0, .int .i64 0, .int .i64 0, .int .i64 0, .slice none 0 0, .int .i64 0] 43))
  clear hd
  cases b
  all_goals
    simp only [tru, show ((1 : Nat) : Int) = 1 from rfl, Bool.false_eq_true, if_false, if_true] at H1
    go_enter Try.func30, Try.ntmps30
    go_wp2_with (first
      | (go_at_call 50; (with_reducible refine H1.mono ?_); clear H1; rintro e w1 ⟨q, c_, q2, rfl, h1, h2, hB1⟩; have hr := (hB1.block _ (Array.getElem?_eq_some_iff.1 hb).1).trans hb; obtain ⟨⟨z0, z1, z2, z3, z4, z5, z6, z7, z8, z9, z10, z11, z12⟩, y0, y1, y2, y3, y4, y5, y6, y7, y8, y9, y10, y11, y12⟩ := cell_row13 hr))
    refine bodyPost_ret (results_cell_row (by rfl) _ _ (w.heap.size) 43 _ _ _ (by rfl) (set13_row hr) Try.underlying43 (by rfl) infoDeed) (by rfl) ?_
    exact deed_fin hr (by omega) d h1 h2 (hB.trans (hB1.mono hB.size))

end Go.Proofs.Ytgokofomoachaaa
