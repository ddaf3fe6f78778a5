/- show's page.pairs and page.row, given how a value is. -/
import Derived.Test.YtppjahnahomkeaaDoorShItems
namespace Go.Proofs.YtppjahnahomkeaaDoor
set_option linter.unusedVariables false
set_option linter.unusedSimpArgs false
open Go.RowKit

variable {w : World}

theorem take_snoc {α : Type} {l : List α} {i : Nat} {a : α} (h : l[i]? = some a) : l.take (i + 1) = l.take i ++ [a] := by rw [List.take_add_one, h]; rfl

section
variable {w0 : World} {bp c : Nat} {p : Option Addr} {S : List Om} {d : Int} {g : Vl → List UInt8}

set_option maxRecDepth 20000 in
set_option maxHeartbeats 8000000 in
theorem pairs_of (HV : ValueC w0 bp c p S d g) (w : World) (l : List UInt8) (vs : List Vl) (qo : Option Addr) (co : Nat) (hv : Vals w0 qo vs) (hf : ∀ v ∈ vs, v.fits) (hB : Below w0.heap.size w0 w) (hp : IsPg w0.heap.size bp (.slice p S.length c) l w) (hl : l.length ≤ 4096) (hvl : vs.length ≤ 1048576) :
    Calls Tryd.prog 53 #[.pointer (some ⟨bp, 0, none⟩), .slice qo vs.length co, .int .i64 d] w fun e w' => Puts w0.heap.size bp (.slice p S.length c) l (pairsT g (pairsOf vs)) w e w' := by
  have hsz := hB.size
  go_enter Tryd.func53, Tryd.ntmps53
  go_wp2
  go_loopw [7] (fun k wr => ∃ (i I : Nat), k = .int .i64 (I : Int) ∧ Hid (I = 2 * i) ∧ I ≤ vs.length + 1 ∧ Hid (l.length + (pairsT g ((pairsOf vs).take i)).length ≤ 4096) ∧ Hid (IsPg w0.heap.size bp (.slice p S.length c) (l ++ pairsT g ((pairsOf vs).take i)) wr) ∧ Hid (PStep w0.heap.size bp w wr)) (fun k _ => vs.length + 1 - (intOf k).toNat)
  case atStart => exact ⟨0, 0, rfl, rfl, by omega, hid (by simpa [pairsT] using hl), hid (by simpa [pairsT] using hp), PStep.refl _ _ _⟩
  case round =>
    obtain ⟨i, I, rfl, HI, hI, HL, HP, HS⟩ := hrel
    have hBr : Below w0.heap.size w0 wr := hB.trans HS.out.bel
    have hszr := hBr.size
    by_cases hIn : I < vs.length
    · have hIn' : (I : Int) < (vs.length : Int) := by omega
      obtain ⟨a, ha⟩ : ∃ a, vs[I]? = some a := ⟨vs[I], by simp⟩
      obtain ⟨b0, off, rfl, c0, c1⟩ := (hv.below hBr) I a ha
      have hcel : ∀ (W : World), Below w0.heap.size w0 W → W.cell? ⟨b0, off + I * 2, none⟩ = some (.int .u8 a.k) ∧ W.cell? ⟨b0, off + I * 2 + 1, none⟩ = some (.int .i64 a.n) := fun W h => by
        obtain ⟨b0', off', e', c0', c1'⟩ := (hv.below h) I a ha
        simp at e'
        obtain ⟨rfl, rfl⟩ := e'
        exact ⟨c0', c1'⟩
      have hfa := hf a (List.mem_of_getElem? ha)
      have hib : (i = 0 ↔ I = 0) := by have := HI.out; omega
      have hnx : bp ≠ wr.heap.size := by have := HP.out.lt; omega
      have HC : Hid _ := hcel
      by_cases hI1 : I + 1 < vs.length
      · have hI1' : (I : Int) + 1 < (vs.length : Int) := by omega
        obtain ⟨x, hx⟩ : ∃ x, vs[I + 1]? = some x := ⟨vs[I + 1], by simp⟩
        obtain ⟨b1, off1, e', z0, z1⟩ := (hv.below (hBr.trans ((below1 wr (.cells #[.int .u8 0, .int .i64 0] 26)).mono hszr))) (I + 1) x hx
        simp at e'
        obtain ⟨rfl, rfl⟩ := e'
        have hps : (pairsOf vs)[i]? = some (a, x) := by rw [pairsOf_get, ← HI.out, ha, hx]; rfl
        have hfx := hf x (List.mem_of_getElem? hx)
        clear hcel ha hx
        have hA := below1 wr (.cells #[.int .u8 x.k, .int .i64 x.n] 26)
        have hA1 := heap_alloc_new wr (.cells #[.int .u8 x.k, .int .i64 x.n] 26)
        have hnA : w0.heap.size ≤ (wr.alloc (.cells #[.int .u8 x.k, .int .i64 x.n] 26)).heap.size := by simp; omega
        have hBA := hBr.trans (hA.mono hszr)
        have hPA := HP.out.below hA
        have hSA : PStep w0.heap.size bp w (wr.alloc (.cells #[.int .u8 x.k, .int .i64 x.n] 26)) := HS.out.trans (PStep.of_below hA hszr)
        obtain ⟨u0, u1⟩ := HC.out _ hBA
        obtain ⟨x0, x1⟩ := cell_rowV hA1
        have hle := pairsT_append_le g ((pairsOf vs).take (i + 1)) ((pairsOf vs).drop (i + 1))
        rw [List.take_append_drop, take_snoc hps, pairsT_snoc, List.length_append, List.length_append, List.length_append, List.length_append] at hle
        have hes := pairsT_snoc g ((pairsOf vs).take i) (a, x)
        rw [← take_snoc hps] at hes
        have htl : ((pairsOf vs).take i).length = i := by rw [List.length_take]; have := (List.getElem?_eq_some_iff.1 hps).1; omega
        rw [htl] at hle hes
        simp only [colT, List.length_cons, List.length_nil] at hle
        clear hps htl
        have HT := fun (W : World) (m : List UInt8) (y : Vl) (hy : y.fits) (hW : Below w0.heap.size w0 W) (h : IsPg w0.heap.size bp (.slice p S.length c) m W) (hm : m.length + (g y).length ≤ 4096) => puts_fit (HV W m y hy hW h (by omega)) hm
        have HTL := fun (W : World) (m : List UInt8) (y : Vl) (hy : y.fits) (hW : Below w0.heap.size w0 W) (h : IsPg w0.heap.size bp (.slice p S.length c) m W) (hm : m.length ≤ 4096) (hm2 : 4096 < m.length + (g y).length) => puts_long (HV W m y hy hW h hm) hm2
        have hL0 := HL.out
        obtain ⟨T0, hT0⟩ : ∃ T0, T0 = l ++ pairsT g ((pairsOf vs).take i) := ⟨_, rfl⟩
        have hT0l : T0.length = l.length + (pairsT g ((pairsOf vs).take i)).length := by rw [hT0, List.length_append]
        rw [← hT0] at hPA
        by_cases hi0 : i = 0
        · have hI0 := hib.1 hi0
          have g0 : ¬ ((0 : Int) < (I : Int)) := by omega
          rw [if_pos hi0] at hle hes
          simp only [sepT, List.length_cons, List.length_nil] at hle hes
          by_cases hc0 : T0.length + (g a).length ≤ 4096
          · by_cases hc1 : T0.length + (g a).length + 2 ≤ 4096
            · by_cases hc2 : T0.length + (g a).length + 2 + (g x).length ≤ 4096
              · have K0 := HT _ _ a hfa hBA hPA (by omega)
                have K1 := fun (W : World) (hW : Below w0.heap.size w0 W) (h : IsPg w0.heap.size bp (.slice p S.length c) (T0 ++ g a) W) => put_fits h hW.size ⟨#[58, 32]⟩ (by show _ + 2 ≤ 4096; simp; omega)
                have K2 := fun (W : World) (hW : Below w0.heap.size w0 W) (h : IsPg w0.heap.size bp (.slice p S.length c) (T0 ++ g a ++ (⟨#[58, 32]⟩ : ByteArray).data.toList) W) => HT W _ x hfx hW h (by simp; omega)
                have HFit : Hid (l.length + (pairsT g ((pairsOf vs).take (i + 1))).length ≤ 4096) := hid (by rw [hes]; simp [colT]; omega)
                have HEs : Hid (l ++ pairsT g ((pairsOf vs).take (i + 1)) = T0 ++ g a ++ (⟨#[58, 32]⟩ : ByteArray).data.toList ++ g x) := hid (by rw [hes, hT0]; simp [colT])
                have HI0 : Hid _ := hI0
                clear hle hes HT HTL hL0 hT0 hT0l hi0 hI0 hib hc0 hc1 hc2
                go_wp2_with (first
                  | (go_at_call 19; (with_reducible refine K0.mono ?_); clear K0; rintro e w2 ⟨rfl, k0, m0⟩; have hB_0 := (m0.box _ _ _ _ hA1 (by decide) (Ne.symm hnx)).trans hA1; obtain ⟨p0, q0⟩ := cell_rowV hB_0; have hW1 := hBA.trans m0.bel; obtain ⟨r0, t0⟩ := HC.out _ hW1)
                  | (go_at_call 34; (with_reducible refine (K1 _ hW1 k0).mono ?_); clear K1; rintro e w3 ⟨rfl, k1, m1⟩; have hB_1 := (m1.box _ _ _ _ hB_0 (by decide) (Ne.symm hnx)).trans hB_0; obtain ⟨p1, q1⟩ := cell_rowV hB_1; have hW2 := hW1.trans m1.bel; obtain ⟨r1, t1⟩ := HC.out _ hW2)
                  | (go_at_call 19; (with_reducible refine (K2 _ hW2 k1).mono ?_); clear K2; rintro e w4 ⟨rfl, k2, m2⟩; have hB_2 := (m2.box _ _ _ _ hB_1 (by decide) (Ne.symm hnx)).trans hB_1; obtain ⟨p2, q2⟩ := cell_rowV hB_2; have hW3 := hW2.trans m2.bel; obtain ⟨r2, t2⟩ := HC.out _ hW3))
                go_roundw
                case rel => exact ⟨i + 1, I + 2, by simp, hid (by have := HI.out; omega), by omega, HFit, hid (by rw [HEs.out]; exact k2), hid (((hSA.trans m0).trans m1).trans m2)⟩
                case measure => simp [intOf]; omega
              · have K0 := HT _ _ a hfa hBA hPA (by omega)
                have K1 := fun (W : World) (hW : Below w0.heap.size w0 W) (h : IsPg w0.heap.size bp (.slice p S.length c) (T0 ++ g a) W) => put_fits h hW.size ⟨#[58, 32]⟩ (by show _ + 2 ≤ 4096; simp; omega)
                have K2 := fun (W : World) (hW : Below w0.heap.size w0 W) (h : IsPg w0.heap.size bp (.slice p S.length c) (T0 ++ g a ++ (⟨#[58, 32]⟩ : ByteArray).data.toList) W) => HTL W _ x hfx hW h (by simp; omega) (by simp; omega)
                have HBig : Hid (4096 < l.length + (pairsT g (pairsOf vs)).length) := hid (by omega)
                have HI0 : Hid _ := hI0
                clear hle hes HT HTL hL0 hT0 hT0l hi0 hI0 hib hc0 hc1 hc2
                go_wp2_with (first
                  | (go_at_call 19; (with_reducible refine K0.mono ?_); clear K0; rintro e w2 ⟨rfl, k0, m0⟩; have hB_0 := (m0.box _ _ _ _ hA1 (by decide) (Ne.symm hnx)).trans hA1; obtain ⟨p0, q0⟩ := cell_rowV hB_0; have hW1 := hBA.trans m0.bel; obtain ⟨r0, t0⟩ := HC.out _ hW1)
                  | (go_at_call 34; (with_reducible refine (K1 _ hW1 k0).mono ?_); clear K1; rintro e w3 ⟨rfl, k1, m1⟩; have hB_1 := (m1.box _ _ _ _ hB_0 (by decide) (Ne.symm hnx)).trans hB_0; obtain ⟨p1, q1⟩ := cell_rowV hB_1; have hW2 := hW1.trans m1.bel; obtain ⟨r1, t1⟩ := HC.out _ hW2)
                  | (go_at_call 19; (with_reducible refine (K2 _ hW2 k1).mono ?_); clear K2; rintro e w4 ⟨rfl, m2⟩))
                go_ret
                exact ⟨false, rfl, (((hSA.trans m0).trans m1).trans m2), no_fit HBig.out, (fun h => by cases h)⟩
            · have K0 := HT _ _ a hfa hBA hPA (by omega)
              have K1 := fun (W : World) (hW : Below w0.heap.size w0 W) (h : IsPg w0.heap.size bp (.slice p S.length c) (T0 ++ g a) W) => put_long h ⟨#[58, 32]⟩ (by simp; omega) (by decide) (by show 4096 < _ + 2; simp; omega)
              have HBig : Hid (4096 < l.length + (pairsT g (pairsOf vs)).length) := hid (by omega)
              have HI0 : Hid _ := hI0
              clear hle hes HT HTL hL0 hT0 hT0l hi0 hI0 hib hc0 hc1
              go_wp2_with (first
                | (go_at_call 19; (with_reducible refine K0.mono ?_); clear K0; rintro e w2 ⟨rfl, k0, m0⟩; have hB_0 := (m0.box _ _ _ _ hA1 (by decide) (Ne.symm hnx)).trans hA1; obtain ⟨p0, q0⟩ := cell_rowV hB_0; have hW1 := hBA.trans m0.bel; obtain ⟨r0, t0⟩ := HC.out _ hW1)
                | (go_at_call 34; (with_reducible refine (K1 _ hW1 k0).mono ?_); clear K1; rintro e w3 ⟨rfl, rfl⟩))
              go_ret
              exact ⟨false, rfl, (hSA.trans m0), no_fit HBig.out, (fun h => by cases h)⟩
          · have K0 := HTL _ _ a hfa hBA hPA (by omega) (by omega)
            have HBig : Hid (4096 < l.length + (pairsT g (pairsOf vs)).length) := hid (by omega)
            have HI0 : Hid _ := hI0
            clear hle hes HT HTL hL0 hT0 hT0l hi0 hI0 hib hc0
            go_wp2_with (first
              | (go_at_call 19; (with_reducible refine K0.mono ?_); clear K0; rintro e w2 ⟨rfl, m0⟩))
            go_ret
            exact ⟨false, rfl, (hSA.trans m0), no_fit HBig.out, (fun h => by cases h)⟩
        · have hI0 : ¬ I = 0 := fun h => hi0 (hib.2 h)
          have g0 : ((0 : Int) < (I : Int)) := by omega
          rw [if_neg hi0] at hle hes
          simp only [sepT, List.length_cons, List.length_nil] at hle hes
          by_cases hc0 : T0.length + 2 ≤ 4096
          · by_cases hc1 : T0.length + 2 + (g a).length ≤ 4096
            · by_cases hc2 : T0.length + 2 + (g a).length + 2 ≤ 4096
              · by_cases hc3 : T0.length + 2 + (g a).length + 2 + (g x).length ≤ 4096
                · have K0 := put_fits hPA hnA ⟨#[44, 32]⟩ (by show _ + 2 ≤ 4096; omega)
                  have K1 := fun (W : World) (hW : Below w0.heap.size w0 W) (h : IsPg w0.heap.size bp (.slice p S.length c) (T0 ++ (⟨#[44, 32]⟩ : ByteArray).data.toList) W) => HT W _ a hfa hW h (by simp; omega)
                  have K2 := fun (W : World) (hW : Below w0.heap.size w0 W) (h : IsPg w0.heap.size bp (.slice p S.length c) (T0 ++ (⟨#[44, 32]⟩ : ByteArray).data.toList ++ g a) W) => put_fits h hW.size ⟨#[58, 32]⟩ (by show _ + 2 ≤ 4096; simp; omega)
                  have K3 := fun (W : World) (hW : Below w0.heap.size w0 W) (h : IsPg w0.heap.size bp (.slice p S.length c) (T0 ++ (⟨#[44, 32]⟩ : ByteArray).data.toList ++ g a ++ (⟨#[58, 32]⟩ : ByteArray).data.toList) W) => HT W _ x hfx hW h (by simp; omega)
                  have HFit : Hid (l.length + (pairsT g ((pairsOf vs).take (i + 1))).length ≤ 4096) := hid (by rw [hes]; simp [colT]; omega)
                  have HEs : Hid (l ++ pairsT g ((pairsOf vs).take (i + 1)) = T0 ++ (⟨#[44, 32]⟩ : ByteArray).data.toList ++ g a ++ (⟨#[58, 32]⟩ : ByteArray).data.toList ++ g x) := hid (by rw [hes, hT0]; simp [colT])
                  have HI0 : Hid _ := hI0
                  clear hle hes HT HTL hL0 hT0 hT0l hi0 hI0 hib hc0 hc1 hc2 hc3
                  go_wp2_with (first
                    | (go_at_call 34; (with_reducible refine K0.mono ?_); clear K0; rintro e w2 ⟨rfl, k0, m0⟩; have hB_0 := (m0.box _ _ _ _ hA1 (by decide) (Ne.symm hnx)).trans hA1; obtain ⟨p0, q0⟩ := cell_rowV hB_0; have hW1 := hBA.trans m0.bel; obtain ⟨r0, t0⟩ := HC.out _ hW1)
                    | (go_at_call 19; (with_reducible refine (K1 _ hW1 k0).mono ?_); clear K1; rintro e w3 ⟨rfl, k1, m1⟩; have hB_1 := (m1.box _ _ _ _ hB_0 (by decide) (Ne.symm hnx)).trans hB_0; obtain ⟨p1, q1⟩ := cell_rowV hB_1; have hW2 := hW1.trans m1.bel; obtain ⟨r1, t1⟩ := HC.out _ hW2)
                    | (go_at_call 34; (with_reducible refine (K2 _ hW2 k1).mono ?_); clear K2; rintro e w4 ⟨rfl, k2, m2⟩; have hB_2 := (m2.box _ _ _ _ hB_1 (by decide) (Ne.symm hnx)).trans hB_1; obtain ⟨p2, q2⟩ := cell_rowV hB_2; have hW3 := hW2.trans m2.bel; obtain ⟨r2, t2⟩ := HC.out _ hW3)
                    | (go_at_call 19; (with_reducible refine (K3 _ hW3 k2).mono ?_); clear K3; rintro e w5 ⟨rfl, k3, m3⟩; have hB_3 := (m3.box _ _ _ _ hB_2 (by decide) (Ne.symm hnx)).trans hB_2; obtain ⟨p3, q3⟩ := cell_rowV hB_3; have hW4 := hW3.trans m3.bel; obtain ⟨r3, t3⟩ := HC.out _ hW4))
                  go_roundw
                  case rel => exact ⟨i + 1, I + 2, by simp, hid (by have := HI.out; omega), by omega, HFit, hid (by rw [HEs.out]; exact k3), hid ((((hSA.trans m0).trans m1).trans m2).trans m3)⟩
                  case measure => simp [intOf]; omega
                · have K0 := put_fits hPA hnA ⟨#[44, 32]⟩ (by show _ + 2 ≤ 4096; omega)
                  have K1 := fun (W : World) (hW : Below w0.heap.size w0 W) (h : IsPg w0.heap.size bp (.slice p S.length c) (T0 ++ (⟨#[44, 32]⟩ : ByteArray).data.toList) W) => HT W _ a hfa hW h (by simp; omega)
                  have K2 := fun (W : World) (hW : Below w0.heap.size w0 W) (h : IsPg w0.heap.size bp (.slice p S.length c) (T0 ++ (⟨#[44, 32]⟩ : ByteArray).data.toList ++ g a) W) => put_fits h hW.size ⟨#[58, 32]⟩ (by show _ + 2 ≤ 4096; simp; omega)
                  have K3 := fun (W : World) (hW : Below w0.heap.size w0 W) (h : IsPg w0.heap.size bp (.slice p S.length c) (T0 ++ (⟨#[44, 32]⟩ : ByteArray).data.toList ++ g a ++ (⟨#[58, 32]⟩ : ByteArray).data.toList) W) => HTL W _ x hfx hW h (by simp; omega) (by simp; omega)
                  have HBig : Hid (4096 < l.length + (pairsT g (pairsOf vs)).length) := hid (by omega)
                  have HI0 : Hid _ := hI0
                  clear hle hes HT HTL hL0 hT0 hT0l hi0 hI0 hib hc0 hc1 hc2 hc3
                  go_wp2_with (first
                    | (go_at_call 34; (with_reducible refine K0.mono ?_); clear K0; rintro e w2 ⟨rfl, k0, m0⟩; have hB_0 := (m0.box _ _ _ _ hA1 (by decide) (Ne.symm hnx)).trans hA1; obtain ⟨p0, q0⟩ := cell_rowV hB_0; have hW1 := hBA.trans m0.bel; obtain ⟨r0, t0⟩ := HC.out _ hW1)
                    | (go_at_call 19; (with_reducible refine (K1 _ hW1 k0).mono ?_); clear K1; rintro e w3 ⟨rfl, k1, m1⟩; have hB_1 := (m1.box _ _ _ _ hB_0 (by decide) (Ne.symm hnx)).trans hB_0; obtain ⟨p1, q1⟩ := cell_rowV hB_1; have hW2 := hW1.trans m1.bel; obtain ⟨r1, t1⟩ := HC.out _ hW2)
                    | (go_at_call 34; (with_reducible refine (K2 _ hW2 k1).mono ?_); clear K2; rintro e w4 ⟨rfl, k2, m2⟩; have hB_2 := (m2.box _ _ _ _ hB_1 (by decide) (Ne.symm hnx)).trans hB_1; obtain ⟨p2, q2⟩ := cell_rowV hB_2; have hW3 := hW2.trans m2.bel; obtain ⟨r2, t2⟩ := HC.out _ hW3)
                    | (go_at_call 19; (with_reducible refine (K3 _ hW3 k2).mono ?_); clear K3; rintro e w5 ⟨rfl, m3⟩))
                  go_ret
                  exact ⟨false, rfl, ((((hSA.trans m0).trans m1).trans m2).trans m3), no_fit HBig.out, (fun h => by cases h)⟩
              · have K0 := put_fits hPA hnA ⟨#[44, 32]⟩ (by show _ + 2 ≤ 4096; omega)
                have K1 := fun (W : World) (hW : Below w0.heap.size w0 W) (h : IsPg w0.heap.size bp (.slice p S.length c) (T0 ++ (⟨#[44, 32]⟩ : ByteArray).data.toList) W) => HT W _ a hfa hW h (by simp; omega)
                have K2 := fun (W : World) (hW : Below w0.heap.size w0 W) (h : IsPg w0.heap.size bp (.slice p S.length c) (T0 ++ (⟨#[44, 32]⟩ : ByteArray).data.toList ++ g a) W) => put_long h ⟨#[58, 32]⟩ (by simp; omega) (by decide) (by show 4096 < _ + 2; simp; omega)
                have HBig : Hid (4096 < l.length + (pairsT g (pairsOf vs)).length) := hid (by omega)
                have HI0 : Hid _ := hI0
                clear hle hes HT HTL hL0 hT0 hT0l hi0 hI0 hib hc0 hc1 hc2
                go_wp2_with (first
                  | (go_at_call 34; (with_reducible refine K0.mono ?_); clear K0; rintro e w2 ⟨rfl, k0, m0⟩; have hB_0 := (m0.box _ _ _ _ hA1 (by decide) (Ne.symm hnx)).trans hA1; obtain ⟨p0, q0⟩ := cell_rowV hB_0; have hW1 := hBA.trans m0.bel; obtain ⟨r0, t0⟩ := HC.out _ hW1)
                  | (go_at_call 19; (with_reducible refine (K1 _ hW1 k0).mono ?_); clear K1; rintro e w3 ⟨rfl, k1, m1⟩; have hB_1 := (m1.box _ _ _ _ hB_0 (by decide) (Ne.symm hnx)).trans hB_0; obtain ⟨p1, q1⟩ := cell_rowV hB_1; have hW2 := hW1.trans m1.bel; obtain ⟨r1, t1⟩ := HC.out _ hW2)
                  | (go_at_call 34; (with_reducible refine (K2 _ hW2 k1).mono ?_); clear K2; rintro e w4 ⟨rfl, rfl⟩))
                go_ret
                exact ⟨false, rfl, ((hSA.trans m0).trans m1), no_fit HBig.out, (fun h => by cases h)⟩
            · have K0 := put_fits hPA hnA ⟨#[44, 32]⟩ (by show _ + 2 ≤ 4096; omega)
              have K1 := fun (W : World) (hW : Below w0.heap.size w0 W) (h : IsPg w0.heap.size bp (.slice p S.length c) (T0 ++ (⟨#[44, 32]⟩ : ByteArray).data.toList) W) => HTL W _ a hfa hW h (by simp; omega) (by simp; omega)
              have HBig : Hid (4096 < l.length + (pairsT g (pairsOf vs)).length) := hid (by omega)
              have HI0 : Hid _ := hI0
              clear hle hes HT HTL hL0 hT0 hT0l hi0 hI0 hib hc0 hc1
              go_wp2_with (first
                | (go_at_call 34; (with_reducible refine K0.mono ?_); clear K0; rintro e w2 ⟨rfl, k0, m0⟩; have hB_0 := (m0.box _ _ _ _ hA1 (by decide) (Ne.symm hnx)).trans hA1; obtain ⟨p0, q0⟩ := cell_rowV hB_0; have hW1 := hBA.trans m0.bel; obtain ⟨r0, t0⟩ := HC.out _ hW1)
                | (go_at_call 19; (with_reducible refine (K1 _ hW1 k0).mono ?_); clear K1; rintro e w3 ⟨rfl, m1⟩))
              go_ret
              exact ⟨false, rfl, ((hSA.trans m0).trans m1), no_fit HBig.out, (fun h => by cases h)⟩
          · have K0 := put_long hPA ⟨#[44, 32]⟩ (by omega) (by decide) (by show 4096 < _ + 2; omega)
            have HBig : Hid (4096 < l.length + (pairsT g (pairsOf vs)).length) := hid (by omega)
            have HI0 : Hid _ := hI0
            clear hle hes HT HTL hL0 hT0 hT0l hi0 hI0 hib hc0
            go_wp2_with (first
              | (go_at_call 34; (with_reducible refine K0.mono ?_); clear K0; rintro e w2 ⟨rfl, rfl⟩))
            go_ret
            exact ⟨false, rfl, hSA, no_fit HBig.out, (fun h => by cases h)⟩
      · have hI1' : ¬ ((I : Int) + 1 < (vs.length : Int)) := by omega
        obtain ⟨x, hxx⟩ : ∃ x : Vl, x = ⟨0, 0⟩ := ⟨_, rfl⟩
        have hps : (pairsOf vs)[i]? = some (a, x) := by rw [pairsOf_get, ← HI.out, ha, List.getElem?_eq_none (by omega), hxx]; rfl
        have hfx : x.fits := by rw [hxx]; exact ⟨by decide, by decide, by decide⟩
        clear hcel ha
        have hA := below1 wr (.cells #[.int .u8 0, .int .i64 0] 26)
        have hA1 := heap_alloc_new wr (.cells #[.int .u8 0, .int .i64 0] 26)
        have hnA : w0.heap.size ≤ (wr.alloc (.cells #[.int .u8 0, .int .i64 0] 26)).heap.size := by simp; omega
        have hBA := hBr.trans (hA.mono hszr)
        have hPA := HP.out.below hA
        have hSA : PStep w0.heap.size bp w (wr.alloc (.cells #[.int .u8 0, .int .i64 0] 26)) := HS.out.trans (PStep.of_below hA hszr)
        obtain ⟨u0, u1⟩ := HC.out _ hBA
        obtain ⟨x0, x1⟩ := cell_rowV hA1
        have hle := pairsT_append_le g ((pairsOf vs).take (i + 1)) ((pairsOf vs).drop (i + 1))
        rw [List.take_append_drop, take_snoc hps, pairsT_snoc, List.length_append, List.length_append, List.length_append, List.length_append] at hle
        have hes := pairsT_snoc g ((pairsOf vs).take i) (a, x)
        rw [← take_snoc hps] at hes
        have htl : ((pairsOf vs).take i).length = i := by rw [List.length_take]; have := (List.getElem?_eq_some_iff.1 hps).1; omega
        rw [htl] at hle hes
        simp only [colT, List.length_cons, List.length_nil] at hle
        clear hps htl
        have HT := fun (W : World) (m : List UInt8) (y : Vl) (hy : y.fits) (hW : Below w0.heap.size w0 W) (h : IsPg w0.heap.size bp (.slice p S.length c) m W) (hm : m.length + (g y).length ≤ 4096) => puts_fit (HV W m y hy hW h (by omega)) hm
        have HTL := fun (W : World) (m : List UInt8) (y : Vl) (hy : y.fits) (hW : Below w0.heap.size w0 W) (h : IsPg w0.heap.size bp (.slice p S.length c) m W) (hm : m.length ≤ 4096) (hm2 : 4096 < m.length + (g y).length) => puts_long (HV W m y hy hW h hm) hm2
        have hL0 := HL.out
        obtain ⟨T0, hT0⟩ : ∃ T0, T0 = l ++ pairsT g ((pairsOf vs).take i) := ⟨_, rfl⟩
        have hT0l : T0.length = l.length + (pairsT g ((pairsOf vs).take i)).length := by rw [hT0, List.length_append]
        rw [← hT0] at hPA
        by_cases hi0 : i = 0
        · have hI0 := hib.1 hi0
          have g0 : ¬ ((0 : Int) < (I : Int)) := by omega
          rw [if_pos hi0] at hle hes
          simp only [sepT, List.length_cons, List.length_nil] at hle hes
          by_cases hc0 : T0.length + (g a).length ≤ 4096
          · by_cases hc1 : T0.length + (g a).length + 2 ≤ 4096
            · by_cases hc2 : T0.length + (g a).length + 2 + (g x).length ≤ 4096
              · have K0 := HT _ _ a hfa hBA hPA (by omega)
                have K1 := fun (W : World) (hW : Below w0.heap.size w0 W) (h : IsPg w0.heap.size bp (.slice p S.length c) (T0 ++ g a) W) => put_fits h hW.size ⟨#[58, 32]⟩ (by show _ + 2 ≤ 4096; simp; omega)
                have K2 := fun (W : World) (hW : Below w0.heap.size w0 W) (h : IsPg w0.heap.size bp (.slice p S.length c) (T0 ++ g a ++ (⟨#[58, 32]⟩ : ByteArray).data.toList) W) => HT W _ x hfx hW h (by simp; omega)
                have HFit : Hid (l.length + (pairsT g ((pairsOf vs).take (i + 1))).length ≤ 4096) := hid (by rw [hes]; simp [colT]; omega)
                have HEs : Hid (l ++ pairsT g ((pairsOf vs).take (i + 1)) = T0 ++ g a ++ (⟨#[58, 32]⟩ : ByteArray).data.toList ++ g x) := hid (by rw [hes, hT0]; simp [colT])
                have HI0 : Hid _ := hI0
                have HX : Hid _ := hxx
                subst hxx
                simp only [show ((0 : Nat) : Int) = 0 from rfl] at K2
                clear hle hes HT HTL hL0 hT0 hT0l hi0 hI0 hib hc0 hc1 hc2
                go_wp2_with (first
                  | (go_at_call 19; (with_reducible refine K0.mono ?_); clear K0; rintro e w2 ⟨rfl, k0, m0⟩; have hB_0 := (m0.box _ _ _ _ hA1 (by decide) (Ne.symm hnx)).trans hA1; obtain ⟨p0, q0⟩ := cell_rowV hB_0; have hW1 := hBA.trans m0.bel; obtain ⟨r0, t0⟩ := HC.out _ hW1)
                  | (go_at_call 34; (with_reducible refine (K1 _ hW1 k0).mono ?_); clear K1; rintro e w3 ⟨rfl, k1, m1⟩; have hB_1 := (m1.box _ _ _ _ hB_0 (by decide) (Ne.symm hnx)).trans hB_0; obtain ⟨p1, q1⟩ := cell_rowV hB_1; have hW2 := hW1.trans m1.bel; obtain ⟨r1, t1⟩ := HC.out _ hW2)
                  | (go_at_call 19; (with_reducible refine (K2 _ hW2 k1).mono ?_); clear K2; rintro e w4 ⟨rfl, k2, m2⟩; have hB_2 := (m2.box _ _ _ _ hB_1 (by decide) (Ne.symm hnx)).trans hB_1; obtain ⟨p2, q2⟩ := cell_rowV hB_2; have hW3 := hW2.trans m2.bel; obtain ⟨r2, t2⟩ := HC.out _ hW3))
                go_roundw
                case rel => exact ⟨i + 1, I + 2, by simp, hid (by have := HI.out; omega), by omega, HFit, hid (by rw [HEs.out]; exact k2), hid (((hSA.trans m0).trans m1).trans m2)⟩
                case measure => simp [intOf]; omega
              · have K0 := HT _ _ a hfa hBA hPA (by omega)
                have K1 := fun (W : World) (hW : Below w0.heap.size w0 W) (h : IsPg w0.heap.size bp (.slice p S.length c) (T0 ++ g a) W) => put_fits h hW.size ⟨#[58, 32]⟩ (by show _ + 2 ≤ 4096; simp; omega)
                have K2 := fun (W : World) (hW : Below w0.heap.size w0 W) (h : IsPg w0.heap.size bp (.slice p S.length c) (T0 ++ g a ++ (⟨#[58, 32]⟩ : ByteArray).data.toList) W) => HTL W _ x hfx hW h (by simp; omega) (by simp; omega)
                have HBig : Hid (4096 < l.length + (pairsT g (pairsOf vs)).length) := hid (by omega)
                have HI0 : Hid _ := hI0
                have HX : Hid _ := hxx
                subst hxx
                simp only [show ((0 : Nat) : Int) = 0 from rfl] at K2
                clear hle hes HT HTL hL0 hT0 hT0l hi0 hI0 hib hc0 hc1 hc2
                go_wp2_with (first
                  | (go_at_call 19; (with_reducible refine K0.mono ?_); clear K0; rintro e w2 ⟨rfl, k0, m0⟩; have hB_0 := (m0.box _ _ _ _ hA1 (by decide) (Ne.symm hnx)).trans hA1; obtain ⟨p0, q0⟩ := cell_rowV hB_0; have hW1 := hBA.trans m0.bel; obtain ⟨r0, t0⟩ := HC.out _ hW1)
                  | (go_at_call 34; (with_reducible refine (K1 _ hW1 k0).mono ?_); clear K1; rintro e w3 ⟨rfl, k1, m1⟩; have hB_1 := (m1.box _ _ _ _ hB_0 (by decide) (Ne.symm hnx)).trans hB_0; obtain ⟨p1, q1⟩ := cell_rowV hB_1; have hW2 := hW1.trans m1.bel; obtain ⟨r1, t1⟩ := HC.out _ hW2)
                  | (go_at_call 19; (with_reducible refine (K2 _ hW2 k1).mono ?_); clear K2; rintro e w4 ⟨rfl, m2⟩))
                go_ret
                exact ⟨false, rfl, (((hSA.trans m0).trans m1).trans m2), no_fit HBig.out, (fun h => by cases h)⟩
            · have K0 := HT _ _ a hfa hBA hPA (by omega)
              have K1 := fun (W : World) (hW : Below w0.heap.size w0 W) (h : IsPg w0.heap.size bp (.slice p S.length c) (T0 ++ g a) W) => put_long h ⟨#[58, 32]⟩ (by simp; omega) (by decide) (by show 4096 < _ + 2; simp; omega)
              have HBig : Hid (4096 < l.length + (pairsT g (pairsOf vs)).length) := hid (by omega)
              have HI0 : Hid _ := hI0
              have HX : Hid _ := hxx
              subst hxx
              clear hle hes HT HTL hL0 hT0 hT0l hi0 hI0 hib hc0 hc1
              go_wp2_with (first
                | (go_at_call 19; (with_reducible refine K0.mono ?_); clear K0; rintro e w2 ⟨rfl, k0, m0⟩; have hB_0 := (m0.box _ _ _ _ hA1 (by decide) (Ne.symm hnx)).trans hA1; obtain ⟨p0, q0⟩ := cell_rowV hB_0; have hW1 := hBA.trans m0.bel; obtain ⟨r0, t0⟩ := HC.out _ hW1)
                | (go_at_call 34; (with_reducible refine (K1 _ hW1 k0).mono ?_); clear K1; rintro e w3 ⟨rfl, rfl⟩))
              go_ret
              exact ⟨false, rfl, (hSA.trans m0), no_fit HBig.out, (fun h => by cases h)⟩
          · have K0 := HTL _ _ a hfa hBA hPA (by omega) (by omega)
            have HBig : Hid (4096 < l.length + (pairsT g (pairsOf vs)).length) := hid (by omega)
            have HI0 : Hid _ := hI0
            have HX : Hid _ := hxx
            subst hxx
            clear hle hes HT HTL hL0 hT0 hT0l hi0 hI0 hib hc0
            go_wp2_with (first
              | (go_at_call 19; (with_reducible refine K0.mono ?_); clear K0; rintro e w2 ⟨rfl, m0⟩))
            go_ret
            exact ⟨false, rfl, (hSA.trans m0), no_fit HBig.out, (fun h => by cases h)⟩
        · have hI0 : ¬ I = 0 := fun h => hi0 (hib.2 h)
          have g0 : ((0 : Int) < (I : Int)) := by omega
          rw [if_neg hi0] at hle hes
          simp only [sepT, List.length_cons, List.length_nil] at hle hes
          by_cases hc0 : T0.length + 2 ≤ 4096
          · by_cases hc1 : T0.length + 2 + (g a).length ≤ 4096
            · by_cases hc2 : T0.length + 2 + (g a).length + 2 ≤ 4096
              · by_cases hc3 : T0.length + 2 + (g a).length + 2 + (g x).length ≤ 4096
                · have K0 := put_fits hPA hnA ⟨#[44, 32]⟩ (by show _ + 2 ≤ 4096; omega)
                  have K1 := fun (W : World) (hW : Below w0.heap.size w0 W) (h : IsPg w0.heap.size bp (.slice p S.length c) (T0 ++ (⟨#[44, 32]⟩ : ByteArray).data.toList) W) => HT W _ a hfa hW h (by simp; omega)
                  have K2 := fun (W : World) (hW : Below w0.heap.size w0 W) (h : IsPg w0.heap.size bp (.slice p S.length c) (T0 ++ (⟨#[44, 32]⟩ : ByteArray).data.toList ++ g a) W) => put_fits h hW.size ⟨#[58, 32]⟩ (by show _ + 2 ≤ 4096; simp; omega)
                  have K3 := fun (W : World) (hW : Below w0.heap.size w0 W) (h : IsPg w0.heap.size bp (.slice p S.length c) (T0 ++ (⟨#[44, 32]⟩ : ByteArray).data.toList ++ g a ++ (⟨#[58, 32]⟩ : ByteArray).data.toList) W) => HT W _ x hfx hW h (by simp; omega)
                  have HFit : Hid (l.length + (pairsT g ((pairsOf vs).take (i + 1))).length ≤ 4096) := hid (by rw [hes]; simp [colT]; omega)
                  have HEs : Hid (l ++ pairsT g ((pairsOf vs).take (i + 1)) = T0 ++ (⟨#[44, 32]⟩ : ByteArray).data.toList ++ g a ++ (⟨#[58, 32]⟩ : ByteArray).data.toList ++ g x) := hid (by rw [hes, hT0]; simp [colT])
                  have HI0 : Hid _ := hI0
                  have HX : Hid _ := hxx
                  subst hxx
                  simp only [show ((0 : Nat) : Int) = 0 from rfl] at K3
                  clear hle hes HT HTL hL0 hT0 hT0l hi0 hI0 hib hc0 hc1 hc2 hc3
                  go_wp2_with (first
                    | (go_at_call 34; (with_reducible refine K0.mono ?_); clear K0; rintro e w2 ⟨rfl, k0, m0⟩; have hB_0 := (m0.box _ _ _ _ hA1 (by decide) (Ne.symm hnx)).trans hA1; obtain ⟨p0, q0⟩ := cell_rowV hB_0; have hW1 := hBA.trans m0.bel; obtain ⟨r0, t0⟩ := HC.out _ hW1)
                    | (go_at_call 19; (with_reducible refine (K1 _ hW1 k0).mono ?_); clear K1; rintro e w3 ⟨rfl, k1, m1⟩; have hB_1 := (m1.box _ _ _ _ hB_0 (by decide) (Ne.symm hnx)).trans hB_0; obtain ⟨p1, q1⟩ := cell_rowV hB_1; have hW2 := hW1.trans m1.bel; obtain ⟨r1, t1⟩ := HC.out _ hW2)
                    | (go_at_call 34; (with_reducible refine (K2 _ hW2 k1).mono ?_); clear K2; rintro e w4 ⟨rfl, k2, m2⟩; have hB_2 := (m2.box _ _ _ _ hB_1 (by decide) (Ne.symm hnx)).trans hB_1; obtain ⟨p2, q2⟩ := cell_rowV hB_2; have hW3 := hW2.trans m2.bel; obtain ⟨r2, t2⟩ := HC.out _ hW3)
                    | (go_at_call 19; (with_reducible refine (K3 _ hW3 k2).mono ?_); clear K3; rintro e w5 ⟨rfl, k3, m3⟩; have hB_3 := (m3.box _ _ _ _ hB_2 (by decide) (Ne.symm hnx)).trans hB_2; obtain ⟨p3, q3⟩ := cell_rowV hB_3; have hW4 := hW3.trans m3.bel; obtain ⟨r3, t3⟩ := HC.out _ hW4))
                  go_roundw
                  case rel => exact ⟨i + 1, I + 2, by simp, hid (by have := HI.out; omega), by omega, HFit, hid (by rw [HEs.out]; exact k3), hid ((((hSA.trans m0).trans m1).trans m2).trans m3)⟩
                  case measure => simp [intOf]; omega
                · have K0 := put_fits hPA hnA ⟨#[44, 32]⟩ (by show _ + 2 ≤ 4096; omega)
                  have K1 := fun (W : World) (hW : Below w0.heap.size w0 W) (h : IsPg w0.heap.size bp (.slice p S.length c) (T0 ++ (⟨#[44, 32]⟩ : ByteArray).data.toList) W) => HT W _ a hfa hW h (by simp; omega)
                  have K2 := fun (W : World) (hW : Below w0.heap.size w0 W) (h : IsPg w0.heap.size bp (.slice p S.length c) (T0 ++ (⟨#[44, 32]⟩ : ByteArray).data.toList ++ g a) W) => put_fits h hW.size ⟨#[58, 32]⟩ (by show _ + 2 ≤ 4096; simp; omega)
                  have K3 := fun (W : World) (hW : Below w0.heap.size w0 W) (h : IsPg w0.heap.size bp (.slice p S.length c) (T0 ++ (⟨#[44, 32]⟩ : ByteArray).data.toList ++ g a ++ (⟨#[58, 32]⟩ : ByteArray).data.toList) W) => HTL W _ x hfx hW h (by simp; omega) (by simp; omega)
                  have HBig : Hid (4096 < l.length + (pairsT g (pairsOf vs)).length) := hid (by omega)
                  have HI0 : Hid _ := hI0
                  have HX : Hid _ := hxx
                  subst hxx
                  simp only [show ((0 : Nat) : Int) = 0 from rfl] at K3
                  clear hle hes HT HTL hL0 hT0 hT0l hi0 hI0 hib hc0 hc1 hc2 hc3
                  go_wp2_with (first
                    | (go_at_call 34; (with_reducible refine K0.mono ?_); clear K0; rintro e w2 ⟨rfl, k0, m0⟩; have hB_0 := (m0.box _ _ _ _ hA1 (by decide) (Ne.symm hnx)).trans hA1; obtain ⟨p0, q0⟩ := cell_rowV hB_0; have hW1 := hBA.trans m0.bel; obtain ⟨r0, t0⟩ := HC.out _ hW1)
                    | (go_at_call 19; (with_reducible refine (K1 _ hW1 k0).mono ?_); clear K1; rintro e w3 ⟨rfl, k1, m1⟩; have hB_1 := (m1.box _ _ _ _ hB_0 (by decide) (Ne.symm hnx)).trans hB_0; obtain ⟨p1, q1⟩ := cell_rowV hB_1; have hW2 := hW1.trans m1.bel; obtain ⟨r1, t1⟩ := HC.out _ hW2)
                    | (go_at_call 34; (with_reducible refine (K2 _ hW2 k1).mono ?_); clear K2; rintro e w4 ⟨rfl, k2, m2⟩; have hB_2 := (m2.box _ _ _ _ hB_1 (by decide) (Ne.symm hnx)).trans hB_1; obtain ⟨p2, q2⟩ := cell_rowV hB_2; have hW3 := hW2.trans m2.bel; obtain ⟨r2, t2⟩ := HC.out _ hW3)
                    | (go_at_call 19; (with_reducible refine (K3 _ hW3 k2).mono ?_); clear K3; rintro e w5 ⟨rfl, m3⟩))
                  go_ret
                  exact ⟨false, rfl, ((((hSA.trans m0).trans m1).trans m2).trans m3), no_fit HBig.out, (fun h => by cases h)⟩
              · have K0 := put_fits hPA hnA ⟨#[44, 32]⟩ (by show _ + 2 ≤ 4096; omega)
                have K1 := fun (W : World) (hW : Below w0.heap.size w0 W) (h : IsPg w0.heap.size bp (.slice p S.length c) (T0 ++ (⟨#[44, 32]⟩ : ByteArray).data.toList) W) => HT W _ a hfa hW h (by simp; omega)
                have K2 := fun (W : World) (hW : Below w0.heap.size w0 W) (h : IsPg w0.heap.size bp (.slice p S.length c) (T0 ++ (⟨#[44, 32]⟩ : ByteArray).data.toList ++ g a) W) => put_long h ⟨#[58, 32]⟩ (by simp; omega) (by decide) (by show 4096 < _ + 2; simp; omega)
                have HBig : Hid (4096 < l.length + (pairsT g (pairsOf vs)).length) := hid (by omega)
                have HI0 : Hid _ := hI0
                have HX : Hid _ := hxx
                subst hxx
                clear hle hes HT HTL hL0 hT0 hT0l hi0 hI0 hib hc0 hc1 hc2
                go_wp2_with (first
                  | (go_at_call 34; (with_reducible refine K0.mono ?_); clear K0; rintro e w2 ⟨rfl, k0, m0⟩; have hB_0 := (m0.box _ _ _ _ hA1 (by decide) (Ne.symm hnx)).trans hA1; obtain ⟨p0, q0⟩ := cell_rowV hB_0; have hW1 := hBA.trans m0.bel; obtain ⟨r0, t0⟩ := HC.out _ hW1)
                  | (go_at_call 19; (with_reducible refine (K1 _ hW1 k0).mono ?_); clear K1; rintro e w3 ⟨rfl, k1, m1⟩; have hB_1 := (m1.box _ _ _ _ hB_0 (by decide) (Ne.symm hnx)).trans hB_0; obtain ⟨p1, q1⟩ := cell_rowV hB_1; have hW2 := hW1.trans m1.bel; obtain ⟨r1, t1⟩ := HC.out _ hW2)
                  | (go_at_call 34; (with_reducible refine (K2 _ hW2 k1).mono ?_); clear K2; rintro e w4 ⟨rfl, rfl⟩))
                go_ret
                exact ⟨false, rfl, ((hSA.trans m0).trans m1), no_fit HBig.out, (fun h => by cases h)⟩
            · have K0 := put_fits hPA hnA ⟨#[44, 32]⟩ (by show _ + 2 ≤ 4096; omega)
              have K1 := fun (W : World) (hW : Below w0.heap.size w0 W) (h : IsPg w0.heap.size bp (.slice p S.length c) (T0 ++ (⟨#[44, 32]⟩ : ByteArray).data.toList) W) => HTL W _ a hfa hW h (by simp; omega) (by simp; omega)
              have HBig : Hid (4096 < l.length + (pairsT g (pairsOf vs)).length) := hid (by omega)
              have HI0 : Hid _ := hI0
              have HX : Hid _ := hxx
              subst hxx
              clear hle hes HT HTL hL0 hT0 hT0l hi0 hI0 hib hc0 hc1
              go_wp2_with (first
                | (go_at_call 34; (with_reducible refine K0.mono ?_); clear K0; rintro e w2 ⟨rfl, k0, m0⟩; have hB_0 := (m0.box _ _ _ _ hA1 (by decide) (Ne.symm hnx)).trans hA1; obtain ⟨p0, q0⟩ := cell_rowV hB_0; have hW1 := hBA.trans m0.bel; obtain ⟨r0, t0⟩ := HC.out _ hW1)
                | (go_at_call 19; (with_reducible refine (K1 _ hW1 k0).mono ?_); clear K1; rintro e w3 ⟨rfl, m1⟩))
              go_ret
              exact ⟨false, rfl, ((hSA.trans m0).trans m1), no_fit HBig.out, (fun h => by cases h)⟩
          · have K0 := put_long hPA ⟨#[44, 32]⟩ (by omega) (by decide) (by show 4096 < _ + 2; omega)
            have HBig : Hid (4096 < l.length + (pairsT g (pairsOf vs)).length) := hid (by omega)
            have HI0 : Hid _ := hI0
            have HX : Hid _ := hxx
            subst hxx
            clear hle hes HT HTL hL0 hT0 hT0l hi0 hI0 hib hc0
            go_wp2_with (first
              | (go_at_call 34; (with_reducible refine K0.mono ?_); clear K0; rintro e w2 ⟨rfl, rfl⟩))
            go_ret
            exact ⟨false, rfl, hSA, no_fit HBig.out, (fun h => by cases h)⟩
    · have hIn' : ¬ ((I : Int) < (vs.length : Int)) := by omega
      have hie : (pairsOf vs).take i = pairsOf vs := List.take_of_length_le (by have := HI.out; have := pairsOf_len vs; omega)
      have hfin : Puts w0.heap.size bp (.slice p S.length c) l (pairsT g (pairsOf vs)) w (.returned (.bool true)) wr := by
        rw [← hie]
        exact ⟨true, rfl, HS.out, by simp; exact HL.out, fun _ => HP.out⟩
      have HF : Hid _ := hfin
      clear hie hfin
      go_wp2
      go_ret
      exact HF.out

end

end Go.Proofs.YtppjahnahomkeaaDoor
