/- ShowLong: the walk. -/
import Derived.Test.YtppjahnahomkeaaDoorShAlive2
namespace Go.Proofs.YtppjahnahomkeaaDoor
set_option linter.unusedVariables false
set_option linter.unusedSimpArgs false
open Go.RowKit

set_option maxRecDepth 20000 in
set_option maxHeartbeats 4000000 in
theorem showLong_walk (p : Option Addr) (S : List Om) (c : Nat) (v : Vl) (w : World) (hs : IsSt w p S) (hb : Came S) (hfit : ∀ o ∈ S, o.fits) (hfv : v.fits) (htab : Tab w) :
    Calls Tryd.prog 5 #[.slice p S.length c, .agg #[.int .u8 v.k, .int .i64 v.n]] w fun e w' => e = .returned (.bool true) ∧ Below w.heap.size w w' := by
  have hv0 := heap_alloc_new w (.cells #[.int .u8 v.k, .int .i64 v.n] 26)
  have hA := below1 w (.cells #[.int .u8 v.k, .int .i64 v.n] 26)
  have HA := fun (W : World) (h : Below w.heap.size w W) => alive_in W (htab.below h)
  have H1 := fun (W : World) (h : Below w.heap.size w W) => great_in c (hs.below h) hb
  go_enter Tryd.func5, Tryd.ntmps5
  go_wp2_with (first
    | (go_at_call 12; refine (HA _ (below1 _ _)).mono ?_; rintro e w1 ⟨rfl, hB1⟩; have hB1' : Below w.heap.size w w1 := hA.trans (hB1.mono hA.size))
    | (go_at_call 7; refine (H1 _ hB1').mono ?_; clear H1; rintro e w2 ⟨b, rfl, hsm0, hB2⟩; refine halt_here ?_))
  unfold Halted
  have hB2' : Below w.heap.size w w2 := hB1'.trans (hB2.mono hB1'.size)
  cases b with
  | true =>
    clear hsm0
    go_wp2_with (first
      | (go_at_call 12; refine (HA _ hB2').mono ?_; rintro e w3 ⟨rfl, hB3⟩))
    go_ret
    exact ⟨rfl, hB2'.trans (hB3.mono hB2'.size)⟩
  | false =>
    obtain ⟨hsm, -⟩ := hsm0 rfl
    clear hsm0 HA
    have hv1 := (hB1.block w.heap.size (by simp)).trans hv0
    have hv2 := (hB2.block w.heap.size (Array.getElem?_eq_some_iff.1 hv1).1).trans hv1
    obtain ⟨x0, x1⟩ := cell_rowV hv2
    have G : Given w2 p S := ⟨hs.below hB2', Nat.le_trans hsm.len (by unfold maxLen; decide), hsm.str, hfit, htab.below hB2'⟩
    have hll : ∀ o ∈ S, o.l.length ≤ 1048576 := fun o ho => by have := hsm.vals o ho; omega
    by_cases hl : (textB S v).length ≤ 4096
    · have H := Text_fits c G hll v hfv hl
      have ht : ((⟨(textB S v).toArray⟩ : ByteArray).size : Int) ≤ 4096 := by show ((textB S v).toArray.size : Int) ≤ 4096; simp; omega
      generalize (⟨(textB S v).toArray⟩ : ByteArray) = tx at H ht
      clear G hll hl hsm hs hb hfit
      go_wp2_with (first
        | (go_at_call 9; refine H.mono ?_; clear H; rintro e w3 ⟨rfl, hB3⟩))
      go_ret
      exact ⟨rfl, hB2'.trans (hB3.mono hB2'.size)⟩
    · have H := Text_long c G hll v hfv (by omega)
      clear G hll hl hsm hs hb hfit
      go_wp2_with (first
        | (go_at_call 9; refine H.mono ?_; clear H; rintro e w3 ⟨rfl, hB3⟩))
      go_ret
      exact ⟨rfl, hB2'.trans (hB3.mono hB2'.size)⟩

end Go.Proofs.YtppjahnahomkeaaDoor
