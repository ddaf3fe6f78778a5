/- PrimKeys: the walk. -/
import Derived.Test.YtgokofomoachaaaGreatDoorPkFacts
import Derived.Test.YtgokofomoachaaaGreatDoorPmLives2
import Derived.Test.YtgokofomoachaaaGreatDoorPoTwin
namespace Go.Proofs.YtgokofomoachaaaGreatDoor
set_option linter.unusedVariables false
set_option linter.unusedSimpArgs false
open Go.RowKit

variable {w : World}

set_option maxRecDepth 20000 in
set_option maxHeartbeats 8000000 in
theorem primKeys_walk (p : Option Addr) (S : List Om) (c : Nat) (v k x : Vl) (w : World) (hs : IsSt w p S) (hb : Came S) (hfit : ∀ o ∈ S, o.fits) (htab : Tab w) :
    Calls Tryz.prog 6 #[.slice p S.length c, .agg #[.int .u8 v.k, .int .i64 v.n, .int .u8 k.k, .int .i64 k.n, .int .u8 x.k, .int .i64 x.n]] w fun e w' => e = .returned (.bool true) ∧ Below w.heap.size w w' := by
  have hv0 := heap_alloc_new w (.cells #[.int .u8 v.k, .int .i64 v.n, .int .u8 k.k, .int .i64 k.n, .int .u8 x.k, .int .i64 x.n] 81)
  have hA := below1 w (.cells #[.int .u8 v.k, .int .i64 v.n, .int .u8 k.k, .int .i64 k.n, .int .u8 x.k, .int .i64 x.n] 81)
  have HL := fun (W : World) => lives_in W
  have H1 := beyond11_in c (hs.below hA) hb
  go_enter Tryz.func6, Tryz.ntmps6
  go_wp2_with (first
    | (go_at_call 8; (with_reducible refine H1.mono ?_); clear H1; rintro e w1 ⟨b, rfl, hsm0, hB0⟩; refine halt_here ?_))
  unfold Halted
  have hB1 : Below w.heap.size w w1 := hA.trans (hB0.mono hA.size)
  cases b with
  | true =>
    clear hsm0
    go_wp2_with (first
      | (go_at_call 9; (with_reducible refine (HL _).mono ?_); rintro e w2 ⟨rfl, hB2⟩))
    go_ret
    exact ⟨rfl, hB1.trans (hB2.mono hB1.size)⟩
  | false =>
    obtain ⟨hsum, hsm⟩ := hsm0 rfl
    clear hsm0
    have hl : S.length ≤ 1048576 := by omega
    have hl5 : S.length ≤ 50000 := by omega
    have hw5 : ∀ o ∈ S, o.l.length ≤ 50000 := fun o ho => (hsm o ho).2
    have hw : ∀ o ∈ S, o.l.length ≤ 1000000 := fun o ho => by have := hsm o ho; omega
    have mkA : ∀ (W : World) (q : Option Addr), IsSt W q S → Ask W q S := fun W q h => ⟨h, hl, fun o ho => by have := hsm o ho; omega, fun o ho => by have := hsm o ho; omega, hfit⟩
    have hv1 := (hB0.block w.heap.size (by simp)).trans hv0
    have H2 := twinStore1_in c (hs.below hB1) hl hw
    have H3 := fun (W : World) (h : Below w.heap.size w W) => heap_in c (hs.below h) hl hw
    go_wp2_with (first
      | (go_at_call 10; (with_reducible refine H2.mono ?_); clear H2; rintro e w2 ⟨G, C, rfl, ts, hm, htw, hog, hB2⟩; have hB2' := hB1.trans (hB2.mono hB1.size); have H3' := H3 w2 hB2')
      | (go_at_call 12; (with_reducible refine H3'.mono ?_); clear H3'; rintro e w3 ⟨Ha, pha, cha, tha, rfl, hRa, hB3⟩; refine halt_here ?_))
    unfold Halted
    obtain ⟨Da, hDa⟩ := get_ex S v k
    obtain ⟨Db, hDb⟩ := put_ex S v k x
    have hFa := get_fair hDa hw5
    have hFb := put_fair hDb hw5
    have lv1 := (Array.getElem?_eq_some_iff.1 hv1).1
    have hv2 := (hB2.block _ lv1).trans hv1
    have lv2 := (Array.getElem?_eq_some_iff.1 hv2).1
    have hv3 := (hB3.block _ lv2).trans hv2
    obtain ⟨x0, x1, x2, x3, x4, x5⟩ := cell_row6 hv3
    have HG := rGet_in hRa hB3.size (mkA w3 _ hRa.isSt) v k hDa
    go_wp2_with (first
      | (go_at_call 39; (with_reducible refine HG.mono ?_); clear HG; rintro e w4 ⟨rfl, hRa4, hB4⟩; refine halt_here ?_))
    unfold Halted
    obtain ⟨pa4, ca4, ta4, hRa4⟩ := hRa4
    clear x0 x1 x2 x3 x4 x5 hRa
    have hB24 : Below w2.heap.size w2 w4 := hB3.trans hB4
    have hBD := below1 w4 (.cells #[.int .u8 Da.v.k, .int .i64 Da.v.n, .string Da.t, .int .i64 Da.n] 38)
    have hdA := heap_alloc_new w4 (.cells #[.int .u8 Da.v.k, .int .i64 Da.v.n, .string Da.t, .int .i64 Da.n] 38)
    have hB25 := hB24.trans (hBD.mono hB24.size)
    have hRa5 := hRa4.below hBD
    have hv5 := (hB25.block _ lv2).trans hv2
    have H6 := H3 (w4.alloc (.cells #[.int .u8 Da.v.k, .int .i64 Da.v.n, .string Da.t, .int .i64 Da.n] 38)) (hB2'.trans (hB25.mono hB2'.size))
    clear H3 hBD hRa4
    go_wp2_with (first
      | (go_at_call 12; (with_reducible refine H6.mono ?_); clear H6; rintro e w6 ⟨Hb, phb, chb, thb, rfl, hRb, hB6⟩; refine halt_here ?_))
    unfold Halted
    generalize w4.alloc (.cells #[.int .u8 Da.v.k, .int .i64 Da.v.n, .string Da.t, .int .i64 Da.n] 38) = w5 at *
    generalize w4.heap.size = dA at *
    have lA := (Array.getElem?_eq_some_iff.1 hdA).1
    have lv5 := (Array.getElem?_eq_some_iff.1 hv5).1
    have hv6 := (hB6.block _ lv5).trans hv5
    obtain ⟨x0, x1, x2, x3, x4, x5⟩ := cell_row6 hv6
    have HP := rPut_in hRb hB6.size (mkA w6 _ hRb.isSt) v k x hDb
    go_wp2_with (first
      | (go_at_call 40; (with_reducible refine HP.mono ?_); clear HP; rintro e w7 ⟨rfl, hRb7, hB7⟩; refine halt_here ?_))
    unfold Halted
    obtain ⟨pb7, cb7, tb7, hRb7⟩ := hRb7
    clear x0 x1 x2 x3 x4 x5 hRb
    have hB57 : Below w5.heap.size w5 w7 := hB6.trans hB7
    have hBE := below1 w7 (.cells #[.int .u8 Db.v.k, .int .i64 Db.v.n, .string Db.t, .int .i64 Db.n] 38)
    have hdB := heap_alloc_new w7 (.cells #[.int .u8 Db.v.k, .int .i64 Db.v.n, .string Db.t, .int .i64 Db.n] 38)
    have hB58 := hB57.trans (hBE.mono hB57.size)
    have hRb8 := hRb7.below hBE
    have hRa8 := hRa5.below hB58
    have hv8 := (hB58.block _ lv5).trans hv5
    have hA8 := (hB58.block _ lA).trans hdA
    have hB28 := hB25.trans (hB58.mono hB25.size)
    obtain ⟨x0, x1, x2, x3, x4, x5⟩ := cell_row6 hv8
    have tst : ∀ W, Below w2.heap.size w2 W → IsSt W (some ⟨G, 0, none⟩) S := fun W hb => by rw [← hm]; exact htw.isSt.below hb
    have HPP := Put_in (mkA _ _ (tst _ hB28)) C v k x Db hDb
    clear hBE hRb7 hRa5
    go_wp2_with (first
      | (go_at_call 41; (with_reducible refine HPP.mono ?_); clear HPP; rintro e w9 ⟨px, cx, rfl, ⟨tx, hmx, hox⟩, hB9⟩; refine halt_here ?_))
    unfold Halted
    generalize w7.alloc (.cells #[.int .u8 Db.v.k, .int .i64 Db.v.n, .string Db.t, .int .i64 Db.n] 38) = w8 at *
    generalize w7.heap.size = dB at *
    clear x0 x1 x2 x3 x4 x5
    have lB := (Array.getElem?_eq_some_iff.1 hdB).1
    have lA8 := (Array.getElem?_eq_some_iff.1 hA8).1
    have lv8 := (Array.getElem?_eq_some_iff.1 hv8).1
    have hBX := below1 w9 (.cells #[.slice px Db.S.length cx, .int .u8 Db.v.k, .int .i64 Db.v.n, .string Db.t, .int .i64 Db.n] 33)
    have hdX := heap_alloc_new w9 (.cells #[.slice px Db.S.length cx, .int .u8 Db.v.k, .int .i64 Db.v.n, .string Db.t, .int .i64 Db.n] 33)
    have hB8X := hB9.trans (hBX.mono hB9.size)
    have hox10 := hox.below hBX
    go_wp2_with fail
    generalize w9.alloc (.cells #[.slice px Db.S.length cx, .int .u8 Db.v.k, .int .i64 Db.v.n, .string Db.t, .int .i64 Db.n] 33) = wX at *
    generalize w9.heap.size = dX at *
    clear hox hBX hB9
    have hvX := (hB8X.block _ lv8).trans hv8
    have hAX := (hB8X.block _ lA8).trans hA8
    have hBXx := (hB8X.block _ lB).trans hdB
    have hRaX := hRa8.below hB8X
    have hRbX := hRb8.below hB8X
    have hB2X := hB28.trans (hB8X.mono hB28.size)
    have FC : ∀ W' : World, W'.heap[w.heap.size]? = wX.heap[w.heap.size]? → W'.heap[dA]? = wX.heap[dA]? → W'.heap[dB]? = wX.heap[dB]? → W'.heap[dX]? = wX.heap[dX]? → (W'.cell? ⟨w.heap.size, 0, none⟩ = some (.int .u8 v.k) ∧ W'.cell? ⟨w.heap.size, 1, none⟩ = some (.int .i64 v.n) ∧ W'.cell? ⟨w.heap.size, 2, none⟩ = some (.int .u8 k.k) ∧ W'.cell? ⟨w.heap.size, 3, none⟩ = some (.int .i64 k.n) ∧ W'.cell? ⟨w.heap.size, 4, none⟩ = some (.int .u8 x.k) ∧ W'.cell? ⟨w.heap.size, 5, none⟩ = some (.int .i64 x.n)) ∧ (W'.cell? ⟨dA, 0, none⟩ = some (.int .u8 Da.v.k) ∧ W'.cell? ⟨dA, 1, none⟩ = some (.int .i64 Da.v.n) ∧ W'.cell? ⟨dA, 2, none⟩ = some (.string Da.t) ∧ W'.cell? ⟨dA, 3, none⟩ = some (.int .i64 Da.n)) ∧ (W'.cell? ⟨dB, 0, none⟩ = some (.int .u8 Db.v.k) ∧ W'.cell? ⟨dB, 1, none⟩ = some (.int .i64 Db.v.n) ∧ W'.cell? ⟨dB, 2, none⟩ = some (.string Db.t) ∧ W'.cell? ⟨dB, 3, none⟩ = some (.int .i64 Db.n)) ∧ (W'.cell? ⟨dX, 0, none⟩ = some (.slice px Db.S.length cx) ∧ W'.cell? ⟨dX, 1, none⟩ = some (.int .u8 Db.v.k) ∧ W'.cell? ⟨dX, 2, none⟩ = some (.int .i64 Db.v.n) ∧ W'.cell? ⟨dX, 3, none⟩ = some (.string Db.t) ∧ W'.cell? ⟨dX, 4, none⟩ = some (.int .i64 Db.n)) := fun W' h0 h1 h2 h3 => ⟨cell_row6 (h0.trans hvX), (cell_row4D (h1.trans hAX)).1, (cell_row4D (h2.trans hBXx)).1, (cell_row5 (h3.trans hdX)).1⟩
    have lvX := (Array.getElem?_eq_some_iff.1 hvX).1
    have lAX := (Array.getElem?_eq_some_iff.1 hAX).1
    have lBX := (Array.getElem?_eq_some_iff.1 hBXx).1
    have lXX := (Array.getElem?_eq_some_iff.1 hdX).1
    have FCS : ∀ W', Below wX.heap.size wX W' → (W'.cell? ⟨w.heap.size, 0, none⟩ = some (.int .u8 v.k) ∧ W'.cell? ⟨w.heap.size, 1, none⟩ = some (.int .i64 v.n) ∧ W'.cell? ⟨w.heap.size, 2, none⟩ = some (.int .u8 k.k) ∧ W'.cell? ⟨w.heap.size, 3, none⟩ = some (.int .i64 k.n) ∧ W'.cell? ⟨w.heap.size, 4, none⟩ = some (.int .u8 x.k) ∧ W'.cell? ⟨w.heap.size, 5, none⟩ = some (.int .i64 x.n)) ∧ (W'.cell? ⟨dA, 0, none⟩ = some (.int .u8 Da.v.k) ∧ W'.cell? ⟨dA, 1, none⟩ = some (.int .i64 Da.v.n) ∧ W'.cell? ⟨dA, 2, none⟩ = some (.string Da.t) ∧ W'.cell? ⟨dA, 3, none⟩ = some (.int .i64 Da.n)) ∧ (W'.cell? ⟨dB, 0, none⟩ = some (.int .u8 Db.v.k) ∧ W'.cell? ⟨dB, 1, none⟩ = some (.int .i64 Db.v.n) ∧ W'.cell? ⟨dB, 2, none⟩ = some (.string Db.t) ∧ W'.cell? ⟨dB, 3, none⟩ = some (.int .i64 Db.n)) ∧ (W'.cell? ⟨dX, 0, none⟩ = some (.slice px Db.S.length cx) ∧ W'.cell? ⟨dX, 1, none⟩ = some (.int .u8 Db.v.k) ∧ W'.cell? ⟨dX, 2, none⟩ = some (.int .i64 Db.v.n) ∧ W'.cell? ⟨dX, 3, none⟩ = some (.string Db.t) ∧ W'.cell? ⟨dX, 4, none⟩ = some (.int .i64 Db.n)) := fun W' hb => FC W' (hb.block _ lvX) (hb.block _ lAX) (hb.block _ lBX) (hb.block _ lXX)
    have hD := below_drew (Below.refl wX.heap.size wX)
    have S0 := FCS _ hD
    have SW := FCS _ (Below.refl _ _)
    have HGG : ∀ W, Below wX.heap.size wX W → Calls Tryz.prog 42 #[.slice (some ⟨G, 0, none⟩) S.length C, .agg #[.int .u8 v.k, .int .i64 v.n], .agg #[.int .u8 k.k, .int .i64 k.n]] W (DidR W Da.S Da.v Da.t Da.n) := fun W hb => Get_in (mkA W _ (tst W (hB2X.trans (hb.mono hB2X.size)))) C v k Da hDa
    have HSA : ∀ (W : World) (pa : Option Addr) (ca : Nat), Below wX.heap.size wX W → IsSt W pa Da.S → Calls Tryz.prog 14 #[.agg #[.slice pa Da.S.length ca, .int .u8 Da.v.k, .int .i64 Da.v.n, .string Da.t, .int .i64 Da.n], .pointer (some ⟨Ha, 0, none⟩), .agg #[.int .u8 Da.v.k, .int .i64 Da.v.n, .string Da.t, .int .i64 Da.n], .slice (some ⟨G, 0, none⟩) S.length C, .slice p S.length c] W fun e w' => e = .returned (.bool true) ∧ Below W.heap.size W w' := fun W pa ca hb hst => same11_in ⟨Da.v, Da.t, Da.n⟩ Da.n hFa.asks hst (hRaX.below hb).at_ (hRaX.below hb).isSt (by have := hFa.2.1; omega) (fun o ho => by have := hFa.2.2 o ho; omega) (htw.below (hB2X.trans (hb.mono hB2X.size))) hm (hs.below (hB2'.trans ((hB2X.trans (hb.mono hB2X.size)).mono hB2'.size))) hl hw
    have HSB : ∀ (W : World) (pa : Option Addr) (ca : Nat), Below wX.heap.size wX W → IsSt W pa Db.S → Calls Tryz.prog 14 #[.agg #[.slice pa Db.S.length ca, .int .u8 Db.v.k, .int .i64 Db.v.n, .string Db.t, .int .i64 Db.n], .pointer (some ⟨Hb, 0, none⟩), .agg #[.int .u8 Db.v.k, .int .i64 Db.v.n, .string Db.t, .int .i64 Db.n], .slice (some ⟨G, 0, none⟩) S.length C, .slice p S.length c] W fun e w' => e = .returned (.bool true) ∧ Below W.heap.size W w' := fun W pa ca hb hst => same11_in ⟨Db.v, Db.t, Db.n⟩ Db.n hFb.asks hst (hRbX.below hb).at_ (hRbX.below hb).isSt (by have := hFb.2.1; omega) (fun o ho => by have := hFb.2.2 o ho; omega) (htw.below (hB2X.trans (hb.mono hB2X.size))) hm (hs.below (hB2'.trans ((hB2X.trans (hb.mono hB2X.size)).mono hB2'.size))) hl hw
    have hstX : IsSt wX px Db.S := by
      obtain ⟨pz, cz, hvz, hst, -⟩ := hox10.isSt
      rw [hmx] at hst hvz
      cases hvz
      exact hst
    have hlx : tx.length = Db.S.length := by rw [← hmx]; simp
    have htl : ts.length = S.length := by rw [← hm]; simp
    have s12 : w1.heap.size ≤ w2.heap.size := hB2.size
    have s28 : w2.heap.size ≤ w8.heap.size := hB28.size
    have s8X : w8.heap.size ≤ wX.heap.size := hB8X.size
    have HAP : ∀ W, Below wX.heap.size wX W → Calls Tryz.prog 15 #[.slice (some ⟨G, 0, none⟩) S.length C, .slice px Db.S.length cx] W fun e w' => e = .returned (.bool true) ∧ Below w1.heap.size W w' ∧ Bk.KeepT W w' := fun W hb =>
      apart11_in ((htw.own hog hm).below (hB2X.trans (hb.mono hB2X.size))) ((hox10.below hb).mono (by omega)) (Ap.of_base (htw.own hog hm) (hox10.below hb) s28) (by simp; omega) (by have := hFb.2.1; omega)
        (fun y hy => by
          obtain ⟨z, hz, rfl⟩ := List.mem_map.1 hy
          have := hw5 z.o (by rw [← hm]; exact List.mem_map_of_mem hz)
          show z.o.l.length ≤ _
          omega)
        (fun y hy => by have := hFb.2.2 y.o (by rw [← hmx]; exact List.mem_map_of_mem hy); omega)
        (fun W' hb' => htab.below (hB1.trans (((hB2.trans ((hB2X.trans (hb.mono hB2X.size)).mono hB2.size)).trans hb').mono hB1.size)))
        (by have := hb.size; omega)
    have KT : ∀ (y z : World), Below wX.heap.size wX y → Below w1.heap.size y z → Bk.KeepT y z → (z.cell? ⟨w.heap.size, 0, none⟩ = some (.int .u8 v.k) ∧ z.cell? ⟨w.heap.size, 1, none⟩ = some (.int .i64 v.n) ∧ z.cell? ⟨w.heap.size, 2, none⟩ = some (.int .u8 k.k) ∧ z.cell? ⟨w.heap.size, 3, none⟩ = some (.int .i64 k.n) ∧ z.cell? ⟨w.heap.size, 4, none⟩ = some (.int .u8 x.k) ∧ z.cell? ⟨w.heap.size, 5, none⟩ = some (.int .i64 x.n)) ∧ (z.cell? ⟨dA, 0, none⟩ = some (.int .u8 Da.v.k) ∧ z.cell? ⟨dA, 1, none⟩ = some (.int .i64 Da.v.n) ∧ z.cell? ⟨dA, 2, none⟩ = some (.string Da.t) ∧ z.cell? ⟨dA, 3, none⟩ = some (.int .i64 Da.n)) ∧ (z.cell? ⟨dB, 0, none⟩ = some (.int .u8 Db.v.k) ∧ z.cell? ⟨dB, 1, none⟩ = some (.int .i64 Db.v.n) ∧ z.cell? ⟨dB, 2, none⟩ = some (.string Db.t) ∧ z.cell? ⟨dB, 3, none⟩ = some (.int .i64 Db.n)) ∧ (z.cell? ⟨dX, 0, none⟩ = some (.slice px Db.S.length cx) ∧ z.cell? ⟨dX, 1, none⟩ = some (.int .u8 Db.v.k) ∧ z.cell? ⟨dX, 2, none⟩ = some (.int .i64 Db.v.n) ∧ z.cell? ⟨dX, 3, none⟩ = some (.string Db.t) ∧ z.cell? ⟨dX, 4, none⟩ = some (.int .i64 Db.n)) := fun y z hy hz hk => FC z ((hz.block _ lv1).trans (hy.block _ lvX)) ((hk dA _ _ (by have := hy.size; omega) ((hy.block _ lAX).trans hAX) (by unfold Bk.Oth; decide)).trans (hy.block _ lAX)) ((hk dB _ _ (by have := hy.size; omega) ((hy.block _ lBX).trans hBXx) (by unfold Bk.Oth; decide)).trans (hy.block _ lBX)) ((hk dX _ _ (by have := hy.size; omega) ((hy.block _ lXX).trans hdX) (by unfold Bk.Oth; decide)).trans (hy.block _ lXX))
    have HB : Hid _ := And.intro hB1 (And.intro hB2 hB2X)
    have HGd := HGG _ hD
    clear hs hb hfit htab mkA tst htw hm hog hRaX hRbX hRa8 hRb8 hox10 hmx hw hw5 hsm hsum hFa hFb hDa hDb HGG hB28 hB25 hB24 hB57 hB58 hB8X hB2' hB3 hB4 hB6 hB7 hv0 hv1 hv2 hv3 hv5 hv6 hv8 hvX hdA hA8 hAX hdB hBXx hdX hlx htl
    go_region_held3 (fun W => (W.cell? ⟨w.heap.size, 0, none⟩ = some (.int .u8 v.k) ∧ W.cell? ⟨w.heap.size, 1, none⟩ = some (.int .i64 v.n) ∧ W.cell? ⟨w.heap.size, 2, none⟩ = some (.int .u8 k.k) ∧ W.cell? ⟨w.heap.size, 3, none⟩ = some (.int .i64 k.n) ∧ W.cell? ⟨w.heap.size, 4, none⟩ = some (.int .u8 x.k) ∧ W.cell? ⟨w.heap.size, 5, none⟩ = some (.int .i64 x.n)) ∧ (W.cell? ⟨dA, 0, none⟩ = some (.int .u8 Da.v.k) ∧ W.cell? ⟨dA, 1, none⟩ = some (.int .i64 Da.v.n) ∧ W.cell? ⟨dA, 2, none⟩ = some (.string Da.t) ∧ W.cell? ⟨dA, 3, none⟩ = some (.int .i64 Da.n)) ∧ (W.cell? ⟨dB, 0, none⟩ = some (.int .u8 Db.v.k) ∧ W.cell? ⟨dB, 1, none⟩ = some (.int .i64 Db.v.n) ∧ W.cell? ⟨dB, 2, none⟩ = some (.string Db.t) ∧ W.cell? ⟨dB, 3, none⟩ = some (.int .i64 Db.n)) ∧ (W.cell? ⟨dX, 0, none⟩ = some (.slice px Db.S.length cx) ∧ W.cell? ⟨dX, 1, none⟩ = some (.int .u8 Db.v.k) ∧ W.cell? ⟨dX, 2, none⟩ = some (.int .i64 Db.v.n) ∧ W.cell? ⟨dX, 3, none⟩ = some (.string Db.t) ∧ W.cell? ⟨dX, 4, none⟩ = some (.int .i64 Db.n))) (first | with_reducible exact S0 | with_reducible exact SW | with_reducible exact T1 | with_reducible exact T2 | with_reducible exact T3 | with_reducible exact T4 | with_reducible exact T5 | go_keep)
      (first
        | (go_at_call 42; (with_reducible refine HGd.mono ?_); clear HGd; rintro e y1 ⟨pg, cg, rfl, ⟨tg, hmg, hgg⟩, hY1⟩; obtain ⟨pz, cz, hvz, hstg, -⟩ := hgg.isSt; rw [hmg] at hstg hvz; cases hvz; clear hgg hmg; have hC1 := hD.trans (hY1.mono hD.size); have T1 := FCS _ hC1; have hsA := HSA y1 pg cg hC1 hstg)
        | (go_at_call 14; (with_reducible refine hsB.mono ?_); clear hsB; rintro e y3 ⟨rfl, hY3⟩; have hC3 := hC2.trans (hY3.mono hC2.size); have T3 := FCS _ hC3; have hap := HAP y3 hC3)
        | (go_at_call 14; (with_reducible refine hsA.mono ?_); clear hsA; rintro e y2 ⟨rfl, hY2⟩; have hC2 := hC1.trans (hY2.mono hC1.size); have T2 := FCS _ hC2; have hsB := HSB y2 px cx hC2 (hstX.below hC2))
        | (go_at_call 15; (with_reducible refine hap.mono ?_); clear hap; rintro e y4 ⟨rfl, hY4, hK4⟩; have HY4 : Hid _ := hY4; have T4 := KT y3 y4 hC3 hY4 hK4; have HL4 := HL y4)
        | (go_at_call 9; (with_reducible refine HL4.mono ?_); clear HL4; rintro e y5 ⟨rfl, hY5⟩; have T5 := KT y3 y5 hC3 (hY4.trans (hY5.mono (Nat.le_trans (by have := hC3.size; omega) hY4.size))) (hK4.trans hY4.size (Bk.KeepT.of_below hY5))))
    all_goals
      go_wp2
      go_ret
      obtain ⟨hB1, hB2, hB2X⟩ := HB.out
      have e1 : Below w1.heap.size w1 y3 := hB2.trans ((hB2X.trans (hC3.mono hB2X.size)).mono hB2.size)
      have e2 := e1.trans hY4
      exact ⟨rfl, hB1.trans ((e2.trans (hY5.mono e2.size)).mono hB1.size)⟩


end Go.Proofs.YtgokofomoachaaaGreatDoor
