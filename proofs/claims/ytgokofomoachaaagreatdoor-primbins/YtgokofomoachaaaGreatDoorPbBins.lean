/- PrimBins: the walk. -/
import Derived.Test.YtgokofomoachaaaGreatDoorPbBin
import Derived.Test.YtgokofomoachaaaGreatDoorPmLives2
import Derived.Test.YtgokofomoachaaaGreatDoorPoTwin
namespace Go.Proofs.YtgokofomoachaaaGreatDoor
set_option linter.unusedVariables false
set_option linter.unusedSimpArgs false
open Go.RowKit

variable {w : World}

theorem bin_fair {S : List Om} {op : Nat} {a b : Vl} {D : Dv} (h : BinR S op a b D) (hS : ∀ o ∈ S, o.l.length ≤ 50000) : FairD S D := by
  have hS0 : ∀ y ∈ S, y.l.length ≤ 50002 := fun y hy => by have := hS y hy; omega
  have href : FairD S (refD S) := ⟨.inr rfl, by simp [refD], hS0⟩
  rcases h with ⟨-, rfl⟩ | ⟨-, x, y, r, -, -, -, rfl⟩
  · exact href
  · unfold binP
    split
    · exact ⟨.inl rfl, by simp, hS0⟩
    split
    · exact ⟨.inl rfl, by simp, hS0⟩
    split
    · refine ⟨?_, by simp, hS0⟩
      unfold intsR
      repeat' split
      all_goals first | exact .inl rfl | exact .inr rfl
    split
    · split
      · split
        · exact ⟨.inr rfl, by simp, hS0⟩
        · refine ⟨.inl rfl, by simp, ?_⟩
          intro z hz
          simp only [List.mem_append, List.mem_singleton] at hz
          rcases hz with hz | rfl
          · exact hS0 z hz
          · simp [txtO]
      split
      · exact ⟨.inl rfl, by simp, hS0⟩
      split
      · exact ⟨.inl rfl, by simp, hS0⟩
      exact href
    exact href

theorem cell_row4 {W : World} {g : Nat} {a b c d : Value} {t : TypeId} (h : W.heap[g]? = some (.cells #[a, b, c, d] t (0, 0))) : W.cell? ⟨g, 0, none⟩ = some a ∧ W.cell? ⟨g, 1, none⟩ = some b ∧ W.cell? ⟨g, 2, none⟩ = some c ∧ W.cell? ⟨g, 3, none⟩ = some d := (cell_row4D h).1

set_option maxRecDepth 20000 in
set_option maxHeartbeats 8000000 in
theorem primBins_walk (p : Option Addr) (S : List Om) (c : Nat) (op : Nat) (a b : Vl) (w : World) (hs : IsSt w p S) (hb : Came S) (hfit : ∀ o ∈ S, o.fits) (hop : op < 256) (htab : Tab w) :
    Calls Tryz.prog 3 #[.slice p S.length c, .int .u8 op, .agg #[.int .u8 a.k, .int .i64 a.n, .int .u8 b.k, .int .i64 b.n]] w fun e w' => e = .returned (.bool true) ∧ Below w.heap.size w w' := by
  have hv0 := heap_alloc_new w (.cells #[.int .u8 a.k, .int .i64 a.n, .int .u8 b.k, .int .i64 b.n] 28)
  have hA := below1 w (.cells #[.int .u8 a.k, .int .i64 a.n, .int .u8 b.k, .int .i64 b.n] 28)
  have HL := fun (W : World) => lives_in W
  have H1 := beyond11_in c (hs.below hA) hb
  go_enter Tryz.func3, Tryz.ntmps3
  go_wp2_with (first
    | (go_at_call 8; (with_reducible refine H1.mono ?_); clear H1; rintro e w1 ⟨b9, rfl, hsm0, hB0⟩; refine halt_here ?_))
  unfold Halted
  have hB1 : Below w.heap.size w w1 := hA.trans (hB0.mono hA.size)
  cases b9 with
  | true =>
    clear hsm0
    go_wp2_with (first
      | (go_at_call 9; (with_reducible refine (HL _).mono ?_); rintro e w2 ⟨rfl, hB2⟩))
    go_ret
    exact ⟨rfl, hB1.trans (hB2.mono hB1.size)⟩
  | false =>
    obtain ⟨hsum, hsm⟩ := hsm0 rfl
    clear hsm0
    have hl : S.length ≤ 1048576 := by omega
    have hl5 : S.length ≤ 50000 := by omega
    have hw5 : ∀ o ∈ S, o.l.length ≤ 50000 := fun o ho => (hsm o ho).2
    have hw : ∀ o ∈ S, o.l.length ≤ 1000000 := fun o ho => by have := hsm o ho; omega
    have mkA : ∀ (W : World) (q : Option Addr), IsSt W q S → Ask W q S := fun W q h => ⟨h, hl, fun o ho => by have := hsm o ho; omega, fun o ho => by have := hsm o ho; omega, hfit⟩
    have hv1 := (hB0.block w.heap.size (by simp)).trans hv0
    have lv1 := (Array.getElem?_eq_some_iff.1 hv1).1
    have H2 := twinStore1_in c (hs.below hB1) hl hw
    have H3 := fun (W : World) (h : Below w.heap.size w W) => heap_in c (hs.below h) hl hw
    go_wp2_with (first
      | (go_at_call 10; (with_reducible refine H2.mono ?_); clear H2; rintro e w2 ⟨G, C, rfl, ts, hm, htw, hog, hB2⟩; refine halt_here ?_))
    unfold Halted
    have hB2' := hB1.trans (hB2.mono hB1.size)
    obtain ⟨D, hD⟩ := bin_ex S op a b
    have hF := bin_fair hD hw5
    have hv2 := (hB2.block _ lv1).trans hv1
    have lv2 := (Array.getElem?_eq_some_iff.1 hv2).1
    obtain ⟨x0, x1, x2, x3⟩ := cell_row4 hv2
    have tst : ∀ W, Below w2.heap.size w2 W → IsSt W (some ⟨G, 0, none⟩) S := fun W hb => by rw [← hm]; exact htw.isSt.below hb
    have HP := BinP_in (mkA _ _ (tst _ (Below.refl _ _))) C op hop a b D hD
    go_wp2_with (first
      | (go_at_call 11; (with_reducible refine HP.mono ?_); clear HP; rintro e w3 ⟨px, cx, rfl, ⟨tx, hmx, hox⟩, hB3⟩; refine halt_here ?_))
    unfold Halted
    clear x0 x1 x2 x3
    have hBX := below1 w3 (.cells #[.slice px D.S.length cx, .int .u8 D.v.k, .int .i64 D.v.n, .string D.t, .int .i64 D.n] 33)
    have hdX := heap_alloc_new w3 (.cells #[.slice px D.S.length cx, .int .u8 D.v.k, .int .i64 D.v.n, .string D.t, .int .i64 D.n] 33)
    have hB24 := hB3.trans (hBX.mono hB3.size)
    have hox4 := hox.below hBX
    have hv4 := (hB24.block _ lv2).trans hv2
    have H4 := H3 (w3.alloc (.cells #[.slice px D.S.length cx, .int .u8 D.v.k, .int .i64 D.v.n, .string D.t, .int .i64 D.n] 33)) (hB2'.trans (hB24.mono hB2'.size))
    clear H3 hBX hox hB3
    go_wp2_with (first
      | (go_at_call 12; (with_reducible refine H4.mono ?_); clear H4; rintro e w5 ⟨H, ph, ch, th, rfl, hR, hB5⟩; refine halt_here ?_))
    unfold Halted
    generalize w3.alloc (.cells #[.slice px D.S.length cx, .int .u8 D.v.k, .int .i64 D.v.n, .string D.t, .int .i64 D.n] 33) = w4 at *
    generalize w3.heap.size = dX at *
    have lX := (Array.getElem?_eq_some_iff.1 hdX).1
    have lv4 := (Array.getElem?_eq_some_iff.1 hv4).1
    have hv5 := (hB5.block _ lv4).trans hv4
    obtain ⟨x0, x1, x2, x3⟩ := cell_row4 hv5
    have HRb := rBin_in hR hB5.size (mkA w5 _ hR.isSt) op a b hD
    go_wp2_with (first
      | (go_at_call 13; (with_reducible refine HRb.mono ?_); clear HRb; rintro e w6 ⟨rfl, hR6, hB6⟩; refine halt_here ?_))
    unfold Halted
    obtain ⟨p6, c6, t6, hR6⟩ := hR6
    clear x0 x1 x2 x3 hR
    have hB46 : Below w4.heap.size w4 w6 := hB5.trans hB6
    have hBD := below1 w6 (.cells #[.int .u8 D.v.k, .int .i64 D.v.n, .string D.t, .int .i64 D.n] 38)
    have hdB := heap_alloc_new w6 (.cells #[.int .u8 D.v.k, .int .i64 D.v.n, .string D.t, .int .i64 D.n] 38)
    have hB47 := hB46.trans (hBD.mono hB46.size)
    have hR7 := hR6.below hBD
    have hX7 := (hB47.block _ lX).trans hdX
    have hox7 := hox4.below hB47
    have hB27 := hB24.trans (hB47.mono hB24.size)
    obtain ⟨⟨y0, y1, y2, y3, y4⟩, -⟩ := cell_row5 hX7
    obtain ⟨⟨z0, z1, z2, z3⟩, -⟩ := cell_row4D hdB
    have hstX : IsSt (w6.alloc (.cells #[.int .u8 D.v.k, .int .i64 D.v.n, .string D.t, .int .i64 D.n] 38)) px D.S := by
      obtain ⟨pz, cz, hvz, hst, -⟩ := hox7.isSt
      rw [hmx] at hst hvz
      cases hvz
      exact hst
    have HS : Calls Tryz.prog 14 #[.agg #[.slice px D.S.length cx, .int .u8 D.v.k, .int .i64 D.v.n, .string D.t, .int .i64 D.n], .pointer (some ⟨H, 0, none⟩), .agg #[.int .u8 D.v.k, .int .i64 D.v.n, .string D.t, .int .i64 D.n], .slice (some ⟨G, 0, none⟩) S.length C, .slice p S.length c] (w6.alloc (.cells #[.int .u8 D.v.k, .int .i64 D.v.n, .string D.t, .int .i64 D.n] 38)) fun e w' => e = .returned (.bool true) ∧ Below (w6.alloc (.cells #[.int .u8 D.v.k, .int .i64 D.v.n, .string D.t, .int .i64 D.n] 38)).heap.size (w6.alloc (.cells #[.int .u8 D.v.k, .int .i64 D.v.n, .string D.t, .int .i64 D.n] 38)) w' := same11_in ⟨D.v, D.t, D.n⟩ D.n hF.asks hstX hR7.at_ hR7.isSt (by have := hF.2.1; omega) (fun o ho => by have := hF.2.2 o ho; omega) (htw.below hB27) hm (hs.below (hB2'.trans (hB27.mono hB2'.size))) hl hw
    have hlx : tx.length = D.S.length := by rw [← hmx]; simp
    have htl : ts.length = S.length := by rw [← hm]; simp
    have s12 : w1.heap.size ≤ w2.heap.size := hB2.size
    have s27 := hB27.size
    have s24 := hB24.size
    have HAP : ∀ W, Below (w6.alloc (.cells #[.int .u8 D.v.k, .int .i64 D.v.n, .string D.t, .int .i64 D.n] 38)).heap.size (w6.alloc (.cells #[.int .u8 D.v.k, .int .i64 D.v.n, .string D.t, .int .i64 D.n] 38)) W → Calls Tryz.prog 15 #[.slice (some ⟨G, 0, none⟩) S.length C, .slice px D.S.length cx] W fun e w' => e = .returned (.bool true) ∧ Below w1.heap.size W w' ∧ Bk.KeepT W w' := fun W hb =>
      apart11_in ((htw.own hog hm).below (hB27.trans (hb.mono hB27.size))) ((hox7.below hb).mono (by omega)) (Ap.of_base (htw.own hog hm) (hox7.below hb) (Nat.le_refl _)) (by simp; omega) (by have := hF.2.1; omega)
        (fun y hy => by
          obtain ⟨z, hz, rfl⟩ := List.mem_map.1 hy
          have := hw5 z.o (by rw [← hm]; exact List.mem_map_of_mem hz)
          show z.o.l.length ≤ _
          omega)
        (fun y hy => by have := hF.2.2 y.o (by rw [← hmx]; exact List.mem_map_of_mem hy); omega)
        (fun W' hb' => htab.below (hB1.trans (((hB2.trans ((hB27.trans (hb.mono hB27.size)).mono hB2.size)).trans hb').mono hB1.size)))
        (by have := hb.size; omega)
    have HB : Hid _ := And.intro hB1 (And.intro hB2 hB27)
    have FX : ∀ W, Below (w6.alloc (.cells #[.int .u8 D.v.k, .int .i64 D.v.n, .string D.t, .int .i64 D.n] 38)).heap.size (w6.alloc (.cells #[.int .u8 D.v.k, .int .i64 D.v.n, .string D.t, .int .i64 D.n] 38)) W → W.cell? ⟨dX, 0, none⟩ = some (.slice px D.S.length cx) := fun W hb => (cell_row5 ((hb.block _ (Array.getElem?_eq_some_iff.1 hX7).1).trans hX7)).1.1
    clear hs hb hfit htab mkA tst htw hm hog hR6 hR7 hox4 hox7 hmx hw hw5 hsm hsum hF hD hstX hv0 hv1 hv2 hv4 hv5 hdX hX7 hdB hlx htl hB46 hB47 hBD hB5 hB6 hB24 s27 s24
    go_wp2_with (first
      | (go_at_call 14; (with_reducible refine HS.mono ?_); clear HS; rintro e y7 ⟨rfl, hY1⟩; have fx := FX _ hY1; have hap := HAP _ hY1; clear HAP FX)
      | (go_at_call 15; (with_reducible refine hap.mono ?_); clear hap; rintro e y8 ⟨rfl, hY2, -⟩)
      | (go_at_call 9; (with_reducible refine (HL _).mono ?_); rintro e y9 ⟨rfl, hY3⟩))
    go_ret
    obtain ⟨hB1, hB2, hB27⟩ := HB.out
    have e1 : Below w1.heap.size w1 y7 := hB2.trans ((hB27.trans (hY1.mono hB27.size)).mono hB2.size)
    have e2 := e1.trans hY2
    exact ⟨rfl, hB1.trans ((e2.trans (hY3.mono e2.size)).mono hB1.size)⟩


end Go.Proofs.YtgokofomoachaaaGreatDoor
