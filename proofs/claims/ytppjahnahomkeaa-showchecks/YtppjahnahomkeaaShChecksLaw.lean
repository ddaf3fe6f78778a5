/- ShowChecks: the walk. -/
import Derived.Test.YtppjahnahomkeaaShCheck
import Derived.Test.YtppjahnahomkeaaShRefCheck
import Derived.Test.YtppjahnahomkeaaShTwinO
namespace Go.Proofs.Ytppjahnahomkeaa
set_option linter.unusedVariables false
set_option linter.unusedSimpArgs false
open Go.RowKit

variable {w : World}

theorem twin_length {ts : List Ot} {S : List Om} (h : ts.map Ot.o = S) : ts.length = S.length := by rw [← h]; simp

set_option maxRecDepth 20000 in
set_option maxHeartbeats 4000000 in
theorem showChecks_walk (p : Option Addr) (S : List Om) (c : Nat) (v : Vl) (w : World) (hs : IsSt w p S) (hb : Came S) (hfit : ∀ o ∈ S, ∀ v ∈ o.l, v.fits) :
    Calls Try.prog 3 #[.slice p S.length c, .agg #[.int .u8 v.k, .int .i64 v.n]] w fun e w' => e = .returned (.bool true) ∧ Below w.heap.size w w' := by
  have hv0 := heap_alloc_new w (.cells #[.int .u8 v.k, .int .i64 v.n] 26)
  have hA := below1 w (.cells #[.int .u8 v.k, .int .i64 v.n] 26)
  have H1 := great_in c (hs.below hA) hb
  go_enter Try.func3, Try.ntmps3
  go_wp2_with (first
    | (go_at_call 5; refine H1.mono ?_; clear H1; rintro e w1 ⟨b, rfl, hsm0, hB0⟩; refine halt_here ?_))
  unfold Halted
  have hB1 : Below w.heap.size w w1 := hA.trans (hB0.mono hA.size)
  cases b with
  | true =>
    clear hsm0
    go_wp2
    go_ret
    exact ⟨rfl, hB1⟩
  | false =>
    obtain ⟨hsm, -⟩ := hsm0 rfl
    clear hsm0
    have hsl := hsm.len
    have hls : ∀ o ∈ S, o.l.length ≤ 1000000 := fun o ho => by have := hsm.vals o ho; omega
    have hv1 := (hB0.block w.heap.size (by simp)).trans hv0
    have hvl := (Array.getElem?_eq_some_iff.1 hv1).1
    obtain ⟨bc, hbc⟩ := b_of (checkP S v)
    have H2 := twinStore_in c (hs.below hB1) hsl hls
    have H4 := fun (W : World) (G C : Nat) (ts : List Ot) (base : Nat) (hm : ts.map Ot.o = S) (h1 : TwinSt base G C ts W) => Check_in (w := W) (S := S) C (hm ▸ h1.isSt) hsm hfit v bc hbc
    have H5 := fun (W : World) (h : Below w.heap.size w W) => rCheck_in c (hs.below h) hsm v bc hbc
    have H6 := fun (W : World) (G C : Nat) (ts : List Ot) (base : Nat) (hm : ts.map Ot.o = S) (h1 : TwinSt base G C ts W) (h : Below w.heap.size w W) => leftStore_in (p := p) c h1 (by rw [hm]; exact hs.below h) (by rw [twin_length hm]; exact hsl) (fun x hx => hls x.o (by rw [← hm]; exact List.mem_map_of_mem hx))
    clear hls hs hb hbc hfit
    go_wp2_with (first
      | (go_at_call 6; refine H2.mono ?_; clear H2; rintro e w2 ⟨G, C, rfl, ts, hm, htw, hB2⟩))
    have hB2' := hB1.trans (hB2.mono hB1.size)
    have hv2 := (hB2.block w.heap.size hvl).trans hv1
    have hv2l := (Array.getElem?_eq_some_iff.1 hv2).1
    obtain ⟨x0, x1⟩ := cell_row2 hv2
    have htd : TwinSt w1.heap.size G C ts w2.drew := htw.below (below_drew (Below.refl _ _))
    go_region_held3 (fun W => W.cell? ⟨w.heap.size, 0, none⟩ = some (.int .u8 v.k) ∧ W.cell? ⟨w.heap.size, 1, none⟩ = some (.int .i64 v.n)) (first | with_reducible exact ⟨x0, x1⟩ | with_reducible exact ⟨y0, y1⟩ | with_reducible exact ⟨z0, z1⟩ | with_reducible exact ⟨u0, u1⟩ | go_keep)
      ((first
        | (go_at_call 7; (with_reducible refine (H4 _ _ _ _ _ hm htd).mono ?_); rintro e w4 ⟨rfl, hB4⟩; have hB4' := (below_drew hB2').trans (hB4.mono hB2'.size); have htw4 := htd.below hB4; have hv4 := (hB4.block w.heap.size hv2l).trans hv2; obtain ⟨y0, y1⟩ := cell_row2 hv4)
        | (go_at_call 8; (with_reducible refine (H5 _ hB4').mono ?_); rintro e w5 ⟨rfl, hB5⟩; have hB5' := hB4'.trans (hB5.mono hB4'.size); have htw5 := htw4.below hB5; have H6' := H6 _ _ _ _ _ hm htw5 hB5'; rw [twin_length hm] at H6'; have hv5 := (hB5.block w.heap.size (Array.getElem?_eq_some_iff.1 hv4).1).trans hv4; obtain ⟨z0, z1⟩ := cell_row2 hv5)
        | (go_at_call 9; refine H6'.mono ?_; rintro e w6 ⟨rfl, hB6⟩; obtain ⟨u0, u1⟩ := cell_row2 ((hB6.block w.heap.size (Array.getElem?_eq_some_iff.1 hv5).1).trans hv5))))
    all_goals
      go_wp2
      go_ret
      exact ⟨rfl, hB5'.trans (hB6.mono hB5'.size)⟩

end Go.Proofs.Ytppjahnahomkeaa
