/- show's page.items: a list's items are put behind, given how a value is. -/
import Derived.Test.YtgokofomoachaaaGreatDoorShValue
namespace Go.Proofs.YtgokofomoachaaaGreatDoor
set_option linter.unusedVariables false
set_option linter.unusedSimpArgs false
open Go.RowKit

variable {w : World}

theorem itemsT_append_le (g : Vl → List UInt8) (a b : List Vl) : (itemsT g a).length ≤ (itemsT g (a ++ b)).length := by
  unfold itemsT
  rw [List.zipIdx_append, List.flatMap_append, List.length_append]
  omega

theorem pairsT_append_le (g : Vl → List UInt8) (a b : List (Vl × Vl)) : (pairsT g a).length ≤ (pairsT g (a ++ b)).length := by
  unfold pairsT
  rw [List.zipIdx_append, List.flatMap_append, List.length_append]
  omega

theorem no_fit {n : Nat} (h : 4096 < n) : (false = true) ↔ n ≤ 4096 := ⟨(fun h => by cases h), fun h' => absurd h' (Nat.not_le.2 h)⟩

theorem puts_fit {n₀ bp : Nat} {vs : Value} {l x : List UInt8} {f : FuncId} {args : Array Value} {w : World} (h : Calls Tryz.prog f args w fun e w' => Puts n₀ bp vs l x w e w') (hf : l.length + x.length ≤ 4096) :
    Calls Tryz.prog f args w fun e w' => e = .returned (.bool true) ∧ IsPg n₀ bp vs (l ++ x) w' ∧ PStep n₀ bp w w' := by
  refine h.mono ?_
  rintro e w' ⟨b, rfl, h1, h2, h3⟩
  have := h2.2 hf
  subst this
  exact ⟨rfl, h3 rfl, h1⟩

theorem puts_long {n₀ bp : Nat} {vs : Value} {l x : List UInt8} {f : FuncId} {args : Array Value} {w : World} (h : Calls Tryz.prog f args w fun e w' => Puts n₀ bp vs l x w e w') (hf : 4096 < l.length + x.length) :
    Calls Tryz.prog f args w fun e w' => e = .returned (.bool false) ∧ PStep n₀ bp w w' := by
  refine h.mono ?_
  rintro e w' ⟨b, rfl, h1, h2, h3⟩
  cases b with
  | false => exact ⟨rfl, h1⟩
  | true => exact absurd (h2.1 rfl) (by omega)

section
variable {w0 : World} {bp c : Nat} {p : Option Addr} {S : List Om} {d : Int} {g : Vl → List UInt8}

set_option maxRecDepth 20000 in
set_option maxHeartbeats 2000000 in
theorem items_of (HV : ValueC w0 bp c p S d g) (w : World) (l : List UInt8) (vs : List Vl) (qo : Option Addr) (co : Nat) (hv : Vals w0 qo vs) (hf : ∀ v ∈ vs, v.fits) (hB : Below w0.heap.size w0 w) (hp : IsPg w0.heap.size bp (.slice p S.length c) l w) (hl : l.length ≤ 4096) (hvl : vs.length ≤ 1048576) :
    Calls Tryz.prog 276 #[.pointer (some ⟨bp, 0, none⟩), .slice qo vs.length co, .int .i64 d] w fun e w' => Puts w0.heap.size bp (.slice p S.length c) l (itemsT g vs) w e w' := by
  have hsz := hB.size
  go_enter Tryz.func276, Tryz.ntmps276
  go_wp2
  go_loopw [11] (fun k wr => ∃ (pre rest : List Vl), k = .int .i64 pre.length ∧ Hid (vs = pre ++ rest) ∧ Hid (l.length + (itemsT g pre).length ≤ 4096) ∧ Hid (IsPg w0.heap.size bp (.slice p S.length c) (l ++ itemsT g pre) wr) ∧ Hid (PStep w0.heap.size bp w wr)) (fun k _ => vs.length - (intOf k).toNat)
  case atStart => exact ⟨[], vs, rfl, rfl, hid (by simpa [itemsT] using hl), hid (by simpa [itemsT] using hp), PStep.refl _ _ _⟩
  case round =>
    obtain ⟨pre, rest, rfl, HR, HL, HP, HS⟩ := hrel
    have hBr : Below w0.heap.size w0 wr := hB.trans HS.out.bel
    have hszr := hBr.size
    cases rest with
    | nil =>
      have hR' : vs = pre := by simpa using HR.out
      have hq : ¬ ((pre.length : Int) < (vs.length : Int)) := by rw [hR']; omega
      have hfin : Puts w0.heap.size bp (.slice p S.length c) l (itemsT g vs) w (.returned (.bool true)) wr := by
        rw [hR']
        exact ⟨true, rfl, HS.out, by simp; exact HL.out, fun _ => HP.out⟩
      have HF : Hid _ := hfin
      clear hR' hfin
      go_wp2
      go_ret
      exact HF.out
    | cons v rest =>
      have hR := HR.out
      have hvm : v ∈ vs := by rw [hR]; simp
      have hlR : pre.length < vs.length := by rw [hR]; simp
      have hlR' : (pre.length : Int) < (vs.length : Int) := by omega
      obtain ⟨b0, off, rfl, c0, c1⟩ := (hv.below hBr) pre.length v (by rw [hR]; simp)
      have e2 : (((pre ++ [v]).length : Nat) : Int) = pre.length + 1 := by simp
      have hle := itemsT_append_le g (pre ++ [v]) rest
      rw [show pre ++ [v] ++ rest = vs by rw [hR]; simp, itemsT_snoc, List.length_append, List.length_append] at hle
      have HLe : Hid _ := hle
      clear hR hle
      have hA := below1 wr (.cells #[.int .u8 v.k, .int .i64 v.n] 27)
      have hA1 := heap_alloc_new wr (.cells #[.int .u8 v.k, .int .i64 v.n] 27)
      have hnA : w0.heap.size ≤ (wr.alloc (.cells #[.int .u8 v.k, .int .i64 v.n] 27)).heap.size := by simp; omega
      have hBA := hBr.trans (hA.mono hszr)
      have hPA := HP.out.below hA
      have hSA : PStep w0.heap.size bp w (wr.alloc (.cells #[.int .u8 v.k, .int .i64 v.n] 27)) := HS.out.trans (PStep.of_below hA hszr)
      have hbpw : bp ≠ wr.heap.size := by have := HP.out.lt; omega
      obtain ⟨x0, x1⟩ := cell_rowV hA1
      -- the value is put, behind whatever was
      have HT := fun (W : World) (m : List UInt8) (hW : Below w0.heap.size w0 W) (h : IsPg w0.heap.size bp (.slice p S.length c) m W) (hm : m.length + (g v).length ≤ 4096) => puts_fit (HV W m v (hf v hvm) hW h (by omega)) hm
      have HTL := fun (W : World) (m : List UInt8) (hW : Below w0.heap.size w0 W) (h : IsPg w0.heap.size bp (.slice p S.length c) m W) (hm : m.length ≤ 4096) (hm2 : 4096 < m.length + (g v).length) => puts_long (HV W m v (hf v hvm) hW h hm) hm2
      by_cases h0 : pre.length = 0
      · have g0 : ¬ ((0 : Int) < (pre.length : Int)) := by omega
        have es := itemsT_snoc g pre v
        rw [if_pos h0] at es
        have ES : Hid _ := es
        have H0 : Hid _ := h0
        by_cases hfit : l.length + (itemsT g pre).length + (g v).length ≤ 4096
        · have HFit : Hid _ := hfit
          have hT := HT _ _ hBA hPA (by rw [List.length_append]; exact hfit)
          clear es h0 hfit HT HTL
          go_wp2_with (first
            | (go_at_call 264; refine hT.mono ?_; clear hT; rintro e w2 ⟨rfl, h3, h1⟩))
          go_roundw
          case rel =>
            refine ⟨pre ++ [v], rest, by rw [e2], hid (by have := HR.out; simpa using this), hid ?_, hid ?_, hid (hSA.trans h1)⟩
            · rw [ES.out]; simp; have := HFit.out; omega
            · rw [ES.out]; simpa using h3
          case measure => simp [intOf]; omega
        · have hT := HTL _ _ hBA hPA (by rw [List.length_append]; exact HL.out) (by rw [List.length_append]; omega)
          have hbig : 4096 < l.length + (itemsT g vs).length := by
            have q1 := HLe.out; rw [if_pos h0] at q1; simp at q1; omega
          have HFit : Hid _ := hbig
          clear es h0 hfit HT HTL hbig
          go_wp2_with (first
            | (go_at_call 264; refine hT.mono ?_; clear hT; rintro e w2 ⟨rfl, h1⟩))
          go_ret
          exact ⟨false, rfl, hSA.trans h1, no_fit HFit.out, (fun h => by cases h)⟩
      · have g0 : ((0 : Int) < (pre.length : Int)) := by omega
        have es := itemsT_snoc g pre v
        rw [if_neg h0] at es
        have ES : Hid _ := es
        have H0 : Hid _ := h0
        have hq1 := HLe.out
        rw [if_neg h0] at hq1
        simp only [sepT, List.length_cons, List.length_nil] at hq1
        by_cases hsep : l.length + (itemsT g pre).length + 2 ≤ 4096
        · have H2 := put_fits hPA hnA ⟨#[44, 32]⟩ (by rw [List.length_append]; exact hsep)
          by_cases hfit : l.length + (itemsT g pre).length + 2 + (g v).length ≤ 4096
          · have HFit : Hid _ := hfit
            have hT := fun (W : World) (hW : Below w0.heap.size w0 W) (h : IsPg w0.heap.size bp (.slice p S.length c) (l ++ itemsT g pre ++ (⟨#[44, 32]⟩ : ByteArray).data.toList) W) => HT W _ hW h (by simp; omega)
            clear es h0 hsep hfit HT HTL hq1
            go_wp2_with (first
              | (go_at_call 268; refine H2.mono ?_; clear H2; rintro e w1 ⟨rfl, k3, k1⟩; obtain ⟨y0, y1⟩ := cell_rowV ((k1.box _ _ _ _ hA1 (by decide) (Ne.symm hbpw)).trans hA1); have hW1 := hBA.trans k1.bel)
              | (go_at_call 264; refine (hT _ hW1 k3).mono ?_; clear hT; rintro e w2 ⟨rfl, h3, h1⟩))
            go_roundw
            case rel =>
              refine ⟨pre ++ [v], rest, by rw [e2], hid (by have := HR.out; simpa using this), hid ?_, hid ?_, hid ((hSA.trans k1).trans h1)⟩
              · rw [ES.out]; simp [sepT]; have := HFit.out; omega
              · rw [ES.out]; simpa [sepT] using h3
            case measure => simp [intOf]; omega
          · have hT := fun (W : World) (hW : Below w0.heap.size w0 W) (h : IsPg w0.heap.size bp (.slice p S.length c) (l ++ itemsT g pre ++ (⟨#[44, 32]⟩ : ByteArray).data.toList) W) => HTL W _ hW h (by simp; omega) (by simp; omega)
            have hbig : 4096 < l.length + (itemsT g vs).length := by omega
            have HFit : Hid _ := hbig
            clear es h0 hsep hfit HT HTL hq1 hbig
            go_wp2_with (first
              | (go_at_call 268; refine H2.mono ?_; clear H2; rintro e w1 ⟨rfl, k3, k1⟩; obtain ⟨y0, y1⟩ := cell_rowV ((k1.box _ _ _ _ hA1 (by decide) (Ne.symm hbpw)).trans hA1); have hW1 := hBA.trans k1.bel)
              | (go_at_call 264; refine (hT _ hW1 k3).mono ?_; clear hT; rintro e w2 ⟨rfl, h1⟩))
            go_ret
            exact ⟨false, rfl, (hSA.trans k1).trans h1, no_fit HFit.out, (fun h => by cases h)⟩
        · have H2 := put_long hPA ⟨#[44, 32]⟩ (by rw [List.length_append]; exact HL.out) (by decide) (by rw [List.length_append]; show 4096 < _ + 2; omega)
          have hbig : 4096 < l.length + (itemsT g vs).length := by omega
          have HFit : Hid _ := hbig
          clear es h0 hsep HT HTL hq1 hbig
          go_wp2_with (first
            | (go_at_call 268; refine H2.mono ?_; clear H2; rintro e w1 ⟨rfl, rfl⟩))
          go_ret
          exact ⟨false, rfl, hSA, no_fit HFit.out, (fun h => by cases h)⟩

end

end Go.Proofs.YtgokofomoachaaaGreatDoor

namespace Go.Proofs.YtgokofomoachaaaGreatDoor
set_option linter.unusedVariables false
set_option linter.unusedSimpArgs false
open Go.RowKit

variable {w : World}

theorem take_snoc {α : Type} {l : List α} {i : Nat} {a : α} (h : l[i]? = some a) : l.take (i + 1) = l.take i ++ [a] := by rw [List.take_add_one, h]; rfl

section
variable {w0 : World} {bp c : Nat} {p : Option Addr} {S : List Om} {d : Int} {g : Vl → List UInt8}

set_option maxRecDepth 20000 in
set_option maxHeartbeats 8000000 in
theorem pairs_of (HV : ValueC w0 bp c p S d g) (w : World) (l : List UInt8) (vs : List Vl) (qo : Option Addr) (co : Nat) (hv : Vals w0 qo vs) (hf : ∀ v ∈ vs, v.fits) (hB : Below w0.heap.size w0 w) (hp : IsPg w0.heap.size bp (.slice p S.length c) l w) (hl : l.length ≤ 4096) (hvl : vs.length ≤ 1048576) :
    Calls Tryz.prog 277 #[.pointer (some ⟨bp, 0, none⟩), .slice qo vs.length co, .int .i64 d] w fun e w' => Puts w0.heap.size bp (.slice p S.length c) l (pairsT g (pairsOf vs)) w e w' := by
  have hsz := hB.size
  go_enter Tryz.func277, Tryz.ntmps277
  go_wp2
  go_loopw [7] (fun k wr => ∃ (i I : Nat), k = .int .i64 (I : Int) ∧ Hid (I = 2 * i) ∧ I ≤ vs.length + 1 ∧ Hid (l.length + (pairsT g ((pairsOf vs).take i)).length ≤ 4096) ∧ Hid (IsPg w0.heap.size bp (.slice p S.length c) (l ++ pairsT g ((pairsOf vs).take i)) wr) ∧ Hid (PStep w0.heap.size bp w wr)) (fun k _ => vs.length + 1 - (intOf k).toNat)
  case atStart => exact ⟨0, 0, rfl, rfl, by omega, hid (by simpa [pairsT] using hl), hid (by simpa [pairsT] using hp), PStep.refl _ _ _⟩
  case round =>
    obtain ⟨i, I, rfl, HI, hI, HL, HP, HS⟩ := hrel
    have hBr : Below w0.heap.size w0 wr := hB.trans HS.out.bel
    have hszr := hBr.size
    by_cases hIn : I < vs.length
    · have hIn' : (I : Int) < (vs.length : Int) := by omega
      obtain ⟨a, ha⟩ : ∃ a, vs[I]? = some a := ⟨vs[I], by simp⟩
      obtain ⟨b0, off, rfl, c0, c1⟩ := (hv.below hBr) I a ha
      have hcel : ∀ (W : World), Below w0.heap.size w0 W → W.cell? ⟨b0, off + I * 2, none⟩ = some (.int .u8 a.k) ∧ W.cell? ⟨b0, off + I * 2 + 1, none⟩ = some (.int .i64 a.n) := fun W h => by
        obtain ⟨b0', off', e', c0', c1'⟩ := (hv.below h) I a ha
        simp at e'
        obtain ⟨rfl, rfl⟩ := e'
        exact ⟨c0', c1'⟩
      have hfa := hf a (List.mem_of_getElem? ha)
      have hib : (i = 0 ↔ I = 0) := by have := HI.out; omega
      have hnx : bp ≠ wr.heap.size := by have := HP.out.lt; omega
      have HC : Hid _ := hcel
      by_cases hI1 : I + 1 < vs.length
      · have hI1' : (I : Int) + 1 < (vs.length : Int) := by omega
        obtain ⟨x, hx⟩ : ∃ x, vs[I + 1]? = some x := ⟨vs[I + 1], by simp⟩
        obtain ⟨b1, off1, e', z0, z1⟩ := (hv.below (hBr.trans ((below1 wr (.cells #[.int .u8 0, .int .i64 0] 27)).mono hszr))) (I + 1) x hx
        simp at e'
        obtain ⟨rfl, rfl⟩ := e'
        have hps : (pairsOf vs)[i]? = some (a, x) := by rw [pairsOf_get, ← HI.out, ha, hx]; rfl
        have hfx := hf x (List.mem_of_getElem? hx)
        clear hcel ha hx
        have hA := below1 wr (.cells #[.int .u8 x.k, .int .i64 x.n] 27)
        have hA1 := heap_alloc_new wr (.cells #[.int .u8 x.k, .int .i64 x.n] 27)
        have hnA : w0.heap.size ≤ (wr.alloc (.cells #[.int .u8 x.k, .int .i64 x.n] 27)).heap.size := by simp; omega
        have hBA := hBr.trans (hA.mono hszr)
        have hPA := HP.out.below hA
        have hSA : PStep w0.heap.size bp w (wr.alloc (.cells #[.int .u8 x.k, .int .i64 x.n] 27)) := HS.out.trans (PStep.of_below hA hszr)
        obtain ⟨u0, u1⟩ := HC.out _ hBA
        obtain ⟨x0, x1⟩ := cell_rowV hA1
        have hle := pairsT_append_le g ((pairsOf vs).take (i + 1)) ((pairsOf vs).drop (i + 1))
        rw [List.take_append_drop, take_snoc hps, pairsT_snoc, List.length_append, List.length_append, List.length_append, List.length_append] at hle
        have hes := pairsT_snoc g ((pairsOf vs).take i) (a, x)
        rw [← take_snoc hps] at hes
        have htl : ((pairsOf vs).take i).length = i := by rw [List.length_take]; have := (List.getElem?_eq_some_iff.1 hps).1; omega
        rw [htl] at hle hes
        simp only [colT, List.length_cons, List.length_nil] at hle
        clear hps htl
        have HT := fun (W : World) (m : List UInt8) (y : Vl) (hy : y.fits) (hW : Below w0.heap.size w0 W) (h : IsPg w0.heap.size bp (.slice p S.length c) m W) (hm : m.length + (g y).length ≤ 4096) => puts_fit (HV W m y hy hW h (by omega)) hm
        have HTL := fun (W : World) (m : List UInt8) (y : Vl) (hy : y.fits) (hW : Below w0.heap.size w0 W) (h : IsPg w0.heap.size bp (.slice p S.length c) m W) (hm : m.length ≤ 4096) (hm2 : 4096 < m.length + (g y).length) => puts_long (HV W m y hy hW h hm) hm2
        have hL0 := HL.out
        obtain ⟨T0, hT0⟩ : ∃ T0, T0 = l ++ pairsT g ((pairsOf vs).take i) := ⟨_, rfl⟩
        have hT0l : T0.length = l.length + (pairsT g ((pairsOf vs).take i)).length := by rw [hT0, List.length_append]
        rw [← hT0] at hPA
        by_cases hi0 : i = 0
        · have hI0 := hib.1 hi0
          have g0 : ¬ ((0 : Int) < (I : Int)) := by omega
          rw [if_pos hi0] at hle hes
          simp only [sepT, List.length_cons, List.length_nil] at hle hes
          by_cases hc0 : T0.length + (g a).length ≤ 4096
          · by_cases hc1 : T0.length + (g a).length + 2 ≤ 4096
            · by_cases hc2 : T0.length + (g a).length + 2 + (g x).length ≤ 4096
              · have K0 := HT _ _ a hfa hBA hPA (by omega)
                have K1 := fun (W : World) (hW : Below w0.heap.size w0 W) (h : IsPg w0.heap.size bp (.slice p S.length c) (T0 ++ g a) W) => put_fits h hW.size ⟨#[58, 32]⟩ (by show _ + 2 ≤ 4096; simp; omega)
                have K2 := fun (W : World) (hW : Below w0.heap.size w0 W) (h : IsPg w0.heap.size bp (.slice p S.length c) (T0 ++ g a ++ (⟨#[58, 32]⟩ : ByteArray).data.toList) W) => HT W _ x hfx hW h (by simp; omega)
                have HFit : Hid (l.length + (pairsT g ((pairsOf vs).take (i + 1))).length ≤ 4096) := hid (by rw [hes]; simp [colT]; omega)
                have HEs : Hid (l ++ pairsT g ((pairsOf vs).take (i + 1)) = T0 ++ g a ++ (⟨#[58, 32]⟩ : ByteArray).data.toList ++ g x) := hid (by rw [hes, hT0]; simp [colT])
                have HI0 : Hid _ := hI0
                clear hle hes HT HTL hL0 hT0 hT0l hi0 hI0 hib hc0 hc1 hc2
                go_wp2_with (first
                  | (go_at_call 264; (with_reducible refine K0.mono ?_); clear K0; rintro e w2 ⟨rfl, k0, m0⟩; have hB_0 := (m0.box _ _ _ _ hA1 (by decide) (Ne.symm hnx)).trans hA1; obtain ⟨p0, q0⟩ := cell_rowV hB_0; have hW1 := hBA.trans m0.bel; obtain ⟨r0, t0⟩ := HC.out _ hW1)
                  | (go_at_call 268; (with_reducible refine (K1 _ hW1 k0).mono ?_); clear K1; rintro e w3 ⟨rfl, k1, m1⟩; have hB_1 := (m1.box _ _ _ _ hB_0 (by decide) (Ne.symm hnx)).trans hB_0; obtain ⟨p1, q1⟩ := cell_rowV hB_1; have hW2 := hW1.trans m1.bel; obtain ⟨r1, t1⟩ := HC.out _ hW2)
                  | (go_at_call 264; (with_reducible refine (K2 _ hW2 k1).mono ?_); clear K2; rintro e w4 ⟨rfl, k2, m2⟩; have hB_2 := (m2.box _ _ _ _ hB_1 (by decide) (Ne.symm hnx)).trans hB_1; obtain ⟨p2, q2⟩ := cell_rowV hB_2; have hW3 := hW2.trans m2.bel; obtain ⟨r2, t2⟩ := HC.out _ hW3))
                go_roundw
                case rel => exact ⟨i + 1, I + 2, by simp, hid (by have := HI.out; omega), by omega, HFit, hid (by rw [HEs.out]; exact k2), hid (((hSA.trans m0).trans m1).trans m2)⟩
                case measure => simp [intOf]; omega
              · have K0 := HT _ _ a hfa hBA hPA (by omega)
                have K1 := fun (W : World) (hW : Below w0.heap.size w0 W) (h : IsPg w0.heap.size bp (.slice p S.length c) (T0 ++ g a) W) => put_fits h hW.size ⟨#[58, 32]⟩ (by show _ + 2 ≤ 4096; simp; omega)
                have K2 := fun (W : World) (hW : Below w0.heap.size w0 W) (h : IsPg w0.heap.size bp (.slice p S.length c) (T0 ++ g a ++ (⟨#[58, 32]⟩ : ByteArray).data.toList) W) => HTL W _ x hfx hW h (by simp; omega) (by simp; omega)
                have HBig : Hid (4096 < l.length + (pairsT g (pairsOf vs)).length) := hid (by omega)
                have HI0 : Hid _ := hI0
                clear hle hes HT HTL hL0 hT0 hT0l hi0 hI0 hib hc0 hc1 hc2
                go_wp2_with (first
                  | (go_at_call 264; (with_reducible refine K0.mono ?_); clear K0; rintro e w2 ⟨rfl, k0, m0⟩; have hB_0 := (m0.box _ _ _ _ hA1 (by decide) (Ne.symm hnx)).trans hA1; obtain ⟨p0, q0⟩ := cell_rowV hB_0; have hW1 := hBA.trans m0.bel; obtain ⟨r0, t0⟩ := HC.out _ hW1)
                  | (go_at_call 268; (with_reducible refine (K1 _ hW1 k0).mono ?_); clear K1; rintro e w3 ⟨rfl, k1, m1⟩; have hB_1 := (m1.box _ _ _ _ hB_0 (by decide) (Ne.symm hnx)).trans hB_0; obtain ⟨p1, q1⟩ := cell_rowV hB_1; have hW2 := hW1.trans m1.bel; obtain ⟨r1, t1⟩ := HC.out _ hW2)
                  | (go_at_call 264; (with_reducible refine (K2 _ hW2 k1).mono ?_); clear K2; rintro e w4 ⟨rfl, m2⟩))
                go_ret
                exact ⟨false, rfl, (((hSA.trans m0).trans m1).trans m2), no_fit HBig.out, (fun h => by cases h)⟩
            · have K0 := HT _ _ a hfa hBA hPA (by omega)
              have K1 := fun (W : World) (hW : Below w0.heap.size w0 W) (h : IsPg w0.heap.size bp (.slice p S.length c) (T0 ++ g a) W) => put_long h ⟨#[58, 32]⟩ (by simp; omega) (by decide) (by show 4096 < _ + 2; simp; omega)
              have HBig : Hid (4096 < l.length + (pairsT g (pairsOf vs)).length) := hid (by omega)
              have HI0 : Hid _ := hI0
              clear hle hes HT HTL hL0 hT0 hT0l hi0 hI0 hib hc0 hc1
              go_wp2_with (first
                | (go_at_call 264; (with_reducible refine K0.mono ?_); clear K0; rintro e w2 ⟨rfl, k0, m0⟩; have hB_0 := (m0.box _ _ _ _ hA1 (by decide) (Ne.symm hnx)).trans hA1; obtain ⟨p0, q0⟩ := cell_rowV hB_0; have hW1 := hBA.trans m0.bel; obtain ⟨r0, t0⟩ := HC.out _ hW1)
                | (go_at_call 268; (with_reducible refine (K1 _ hW1 k0).mono ?_); clear K1; rintro e w3 ⟨rfl, rfl⟩))
              go_ret
              exact ⟨false, rfl, (hSA.trans m0), no_fit HBig.out, (fun h => by cases h)⟩
          · have K0 := HTL _ _ a hfa hBA hPA (by omega) (by omega)
            have HBig : Hid (4096 < l.length + (pairsT g (pairsOf vs)).length) := hid (by omega)
            have HI0 : Hid _ := hI0
            clear hle hes HT HTL hL0 hT0 hT0l hi0 hI0 hib hc0
            go_wp2_with (first
              | (go_at_call 264; (with_reducible refine K0.mono ?_); clear K0; rintro e w2 ⟨rfl, m0⟩))
            go_ret
            exact ⟨false, rfl, (hSA.trans m0), no_fit HBig.out, (fun h => by cases h)⟩
        · have hI0 : ¬ I = 0 := fun h => hi0 (hib.2 h)
          have g0 : ((0 : Int) < (I : Int)) := by omega
          rw [if_neg hi0] at hle hes
          simp only [sepT, List.length_cons, List.length_nil] at hle hes
          by_cases hc0 : T0.length + 2 ≤ 4096
          · by_cases hc1 : T0.length + 2 + (g a).length ≤ 4096
            · by_cases hc2 : T0.length + 2 + (g a).length + 2 ≤ 4096
              · by_cases hc3 : T0.length + 2 + (g a).length + 2 + (g x).length ≤ 4096
                · have K0 := put_fits hPA hnA ⟨#[44, 32]⟩ (by show _ + 2 ≤ 4096; omega)
                  have K1 := fun (W : World) (hW : Below w0.heap.size w0 W) (h : IsPg w0.heap.size bp (.slice p S.length c) (T0 ++ (⟨#[44, 32]⟩ : ByteArray).data.toList) W) => HT W _ a hfa hW h (by simp; omega)
                  have K2 := fun (W : World) (hW : Below w0.heap.size w0 W) (h : IsPg w0.heap.size bp (.slice p S.length c) (T0 ++ (⟨#[44, 32]⟩ : ByteArray).data.toList ++ g a) W) => put_fits h hW.size ⟨#[58, 32]⟩ (by show _ + 2 ≤ 4096; simp; omega)
                  have K3 := fun (W : World) (hW : Below w0.heap.size w0 W) (h : IsPg w0.heap.size bp (.slice p S.length c) (T0 ++ (⟨#[44, 32]⟩ : ByteArray).data.toList ++ g a ++ (⟨#[58, 32]⟩ : ByteArray).data.toList) W) => HT W _ x hfx hW h (by simp; omega)
                  have HFit : Hid (l.length + (pairsT g ((pairsOf vs).take (i + 1))).length ≤ 4096) := hid (by rw [hes]; simp [colT]; omega)
                  have HEs : Hid (l ++ pairsT g ((pairsOf vs).take (i + 1)) = T0 ++ (⟨#[44, 32]⟩ : ByteArray).data.toList ++ g a ++ (⟨#[58, 32]⟩ : ByteArray).data.toList ++ g x) := hid (by rw [hes, hT0]; simp [colT])
                  have HI0 : Hid _ := hI0
                  clear hle hes HT HTL hL0 hT0 hT0l hi0 hI0 hib hc0 hc1 hc2 hc3
                  go_wp2_with (first
                    | (go_at_call 268; (with_reducible refine K0.mono ?_); clear K0; rintro e w2 ⟨rfl, k0, m0⟩; have hB_0 := (m0.box _ _ _ _ hA1 (by decide) (Ne.symm hnx)).trans hA1; obtain ⟨p0, q0⟩ := cell_rowV hB_0; have hW1 := hBA.trans m0.bel; obtain ⟨r0, t0⟩ := HC.out _ hW1)
                    | (go_at_call 264; (with_reducible refine (K1 _ hW1 k0).mono ?_); clear K1; rintro e w3 ⟨rfl, k1, m1⟩; have hB_1 := (m1.box _ _ _ _ hB_0 (by decide) (Ne.symm hnx)).trans hB_0; obtain ⟨p1, q1⟩ := cell_rowV hB_1; have hW2 := hW1.trans m1.bel; obtain ⟨r1, t1⟩ := HC.out _ hW2)
                    | (go_at_call 268; (with_reducible refine (K2 _ hW2 k1).mono ?_); clear K2; rintro e w4 ⟨rfl, k2, m2⟩; have hB_2 := (m2.box _ _ _ _ hB_1 (by decide) (Ne.symm hnx)).trans hB_1; obtain ⟨p2, q2⟩ := cell_rowV hB_2; have hW3 := hW2.trans m2.bel; obtain ⟨r2, t2⟩ := HC.out _ hW3)
                    | (go_at_call 264; (with_reducible refine (K3 _ hW3 k2).mono ?_); clear K3; rintro e w5 ⟨rfl, k3, m3⟩; have hB_3 := (m3.box _ _ _ _ hB_2 (by decide) (Ne.symm hnx)).trans hB_2; obtain ⟨p3, q3⟩ := cell_rowV hB_3; have hW4 := hW3.trans m3.bel; obtain ⟨r3, t3⟩ := HC.out _ hW4))
                  go_roundw
                  case rel => exact ⟨i + 1, I + 2, by simp, hid (by have := HI.out; omega), by omega, HFit, hid (by rw [HEs.out]; exact k3), hid ((((hSA.trans m0).trans m1).trans m2).trans m3)⟩
                  case measure => simp [intOf]; omega
                · have K0 := put_fits hPA hnA ⟨#[44, 32]⟩ (by show _ + 2 ≤ 4096; omega)
                  have K1 := fun (W : World) (hW : Below w0.heap.size w0 W) (h : IsPg w0.heap.size bp (.slice p S.length c) (T0 ++ (⟨#[44, 32]⟩ : ByteArray).data.toList) W) => HT W _ a hfa hW h (by simp; omega)
                  have K2 := fun (W : World) (hW : Below w0.heap.size w0 W) (h : IsPg w0.heap.size bp (.slice p S.length c) (T0 ++ (⟨#[44, 32]⟩ : ByteArray).data.toList ++ g a) W) => put_fits h hW.size ⟨#[58, 32]⟩ (by show _ + 2 ≤ 4096; simp; omega)
                  have K3 := fun (W : World) (hW : Below w0.heap.size w0 W) (h : IsPg w0.heap.size bp (.slice p S.length c) (T0 ++ (⟨#[44, 32]⟩ : ByteArray).data.toList ++ g a ++ (⟨#[58, 32]⟩ : ByteArray).data.toList) W) => HTL W _ x hfx hW h (by simp; omega) (by simp; omega)
                  have HBig : Hid (4096 < l.length + (pairsT g (pairsOf vs)).length) := hid (by omega)
                  have HI0 : Hid _ := hI0
                  clear hle hes HT HTL hL0 hT0 hT0l hi0 hI0 hib hc0 hc1 hc2 hc3
                  go_wp2_with (first
                    | (go_at_call 268; (with_reducible refine K0.mono ?_); clear K0; rintro e w2 ⟨rfl, k0, m0⟩; have hB_0 := (m0.box _ _ _ _ hA1 (by decide) (Ne.symm hnx)).trans hA1; obtain ⟨p0, q0⟩ := cell_rowV hB_0; have hW1 := hBA.trans m0.bel; obtain ⟨r0, t0⟩ := HC.out _ hW1)
                    | (go_at_call 264; (with_reducible refine (K1 _ hW1 k0).mono ?_); clear K1; rintro e w3 ⟨rfl, k1, m1⟩; have hB_1 := (m1.box _ _ _ _ hB_0 (by decide) (Ne.symm hnx)).trans hB_0; obtain ⟨p1, q1⟩ := cell_rowV hB_1; have hW2 := hW1.trans m1.bel; obtain ⟨r1, t1⟩ := HC.out _ hW2)
                    | (go_at_call 268; (with_reducible refine (K2 _ hW2 k1).mono ?_); clear K2; rintro e w4 ⟨rfl, k2, m2⟩; have hB_2 := (m2.box _ _ _ _ hB_1 (by decide) (Ne.symm hnx)).trans hB_1; obtain ⟨p2, q2⟩ := cell_rowV hB_2; have hW3 := hW2.trans m2.bel; obtain ⟨r2, t2⟩ := HC.out _ hW3)
                    | (go_at_call 264; (with_reducible refine (K3 _ hW3 k2).mono ?_); clear K3; rintro e w5 ⟨rfl, m3⟩))
                  go_ret
                  exact ⟨false, rfl, ((((hSA.trans m0).trans m1).trans m2).trans m3), no_fit HBig.out, (fun h => by cases h)⟩
              · have K0 := put_fits hPA hnA ⟨#[44, 32]⟩ (by show _ + 2 ≤ 4096; omega)
                have K1 := fun (W : World) (hW : Below w0.heap.size w0 W) (h : IsPg w0.heap.size bp (.slice p S.length c) (T0 ++ (⟨#[44, 32]⟩ : ByteArray).data.toList) W) => HT W _ a hfa hW h (by simp; omega)
                have K2 := fun (W : World) (hW : Below w0.heap.size w0 W) (h : IsPg w0.heap.size bp (.slice p S.length c) (T0 ++ (⟨#[44, 32]⟩ : ByteArray).data.toList ++ g a) W) => put_long h ⟨#[58, 32]⟩ (by simp; omega) (by decide) (by show 4096 < _ + 2; simp; omega)
                have HBig : Hid (4096 < l.length + (pairsT g (pairsOf vs)).length) := hid (by omega)
                have HI0 : Hid _ := hI0
                clear hle hes HT HTL hL0 hT0 hT0l hi0 hI0 hib hc0 hc1 hc2
                go_wp2_with (first
                  | (go_at_call 268; (with_reducible refine K0.mono ?_); clear K0; rintro e w2 ⟨rfl, k0, m0⟩; have hB_0 := (m0.box _ _ _ _ hA1 (by decide) (Ne.symm hnx)).trans hA1; obtain ⟨p0, q0⟩ := cell_rowV hB_0; have hW1 := hBA.trans m0.bel; obtain ⟨r0, t0⟩ := HC.out _ hW1)
                  | (go_at_call 264; (with_reducible refine (K1 _ hW1 k0).mono ?_); clear K1; rintro e w3 ⟨rfl, k1, m1⟩; have hB_1 := (m1.box _ _ _ _ hB_0 (by decide) (Ne.symm hnx)).trans hB_0; obtain ⟨p1, q1⟩ := cell_rowV hB_1; have hW2 := hW1.trans m1.bel; obtain ⟨r1, t1⟩ := HC.out _ hW2)
                  | (go_at_call 268; (with_reducible refine (K2 _ hW2 k1).mono ?_); clear K2; rintro e w4 ⟨rfl, rfl⟩))
                go_ret
                exact ⟨false, rfl, ((hSA.trans m0).trans m1), no_fit HBig.out, (fun h => by cases h)⟩
            · have K0 := put_fits hPA hnA ⟨#[44, 32]⟩ (by show _ + 2 ≤ 4096; omega)
              have K1 := fun (W : World) (hW : Below w0.heap.size w0 W) (h : IsPg w0.heap.size bp (.slice p S.length c) (T0 ++ (⟨#[44, 32]⟩ : ByteArray).data.toList) W) => HTL W _ a hfa hW h (by simp; omega) (by simp; omega)
              have HBig : Hid (4096 < l.length + (pairsT g (pairsOf vs)).length) := hid (by omega)
              have HI0 : Hid _ := hI0
              clear hle hes HT HTL hL0 hT0 hT0l hi0 hI0 hib hc0 hc1
              go_wp2_with (first
                | (go_at_call 268; (with_reducible refine K0.mono ?_); clear K0; rintro e w2 ⟨rfl, k0, m0⟩; have hB_0 := (m0.box _ _ _ _ hA1 (by decide) (Ne.symm hnx)).trans hA1; obtain ⟨p0, q0⟩ := cell_rowV hB_0; have hW1 := hBA.trans m0.bel; obtain ⟨r0, t0⟩ := HC.out _ hW1)
                | (go_at_call 264; (with_reducible refine (K1 _ hW1 k0).mono ?_); clear K1; rintro e w3 ⟨rfl, m1⟩))
              go_ret
              exact ⟨false, rfl, ((hSA.trans m0).trans m1), no_fit HBig.out, (fun h => by cases h)⟩
          · have K0 := put_long hPA ⟨#[44, 32]⟩ (by omega) (by decide) (by show 4096 < _ + 2; omega)
            have HBig : Hid (4096 < l.length + (pairsT g (pairsOf vs)).length) := hid (by omega)
            have HI0 : Hid _ := hI0
            clear hle hes HT HTL hL0 hT0 hT0l hi0 hI0 hib hc0
            go_wp2_with (first
              | (go_at_call 268; (with_reducible refine K0.mono ?_); clear K0; rintro e w2 ⟨rfl, rfl⟩))
            go_ret
            exact ⟨false, rfl, hSA, no_fit HBig.out, (fun h => by cases h)⟩
      · have hI1' : ¬ ((I : Int) + 1 < (vs.length : Int)) := by omega
        obtain ⟨x, hxx⟩ : ∃ x : Vl, x = ⟨0, 0⟩ := ⟨_, rfl⟩
        have hps : (pairsOf vs)[i]? = some (a, x) := by rw [pairsOf_get, ← HI.out, ha, List.getElem?_eq_none (by omega), hxx]; rfl
        have hfx : x.fits := by rw [hxx]; exact ⟨by decide, by decide, by decide⟩
        clear hcel ha
        have hA := below1 wr (.cells #[.int .u8 0, .int .i64 0] 27)
        have hA1 := heap_alloc_new wr (.cells #[.int .u8 0, .int .i64 0] 27)
        have hnA : w0.heap.size ≤ (wr.alloc (.cells #[.int .u8 0, .int .i64 0] 27)).heap.size := by simp; omega
        have hBA := hBr.trans (hA.mono hszr)
        have hPA := HP.out.below hA
        have hSA : PStep w0.heap.size bp w (wr.alloc (.cells #[.int .u8 0, .int .i64 0] 27)) := HS.out.trans (PStep.of_below hA hszr)
        obtain ⟨u0, u1⟩ := HC.out _ hBA
        obtain ⟨x0, x1⟩ := cell_rowV hA1
        have hle := pairsT_append_le g ((pairsOf vs).take (i + 1)) ((pairsOf vs).drop (i + 1))
        rw [List.take_append_drop, take_snoc hps, pairsT_snoc, List.length_append, List.length_append, List.length_append, List.length_append] at hle
        have hes := pairsT_snoc g ((pairsOf vs).take i) (a, x)
        rw [← take_snoc hps] at hes
        have htl : ((pairsOf vs).take i).length = i := by rw [List.length_take]; have := (List.getElem?_eq_some_iff.1 hps).1; omega
        rw [htl] at hle hes
        simp only [colT, List.length_cons, List.length_nil] at hle
        clear hps htl
        have HT := fun (W : World) (m : List UInt8) (y : Vl) (hy : y.fits) (hW : Below w0.heap.size w0 W) (h : IsPg w0.heap.size bp (.slice p S.length c) m W) (hm : m.length + (g y).length ≤ 4096) => puts_fit (HV W m y hy hW h (by omega)) hm
        have HTL := fun (W : World) (m : List UInt8) (y : Vl) (hy : y.fits) (hW : Below w0.heap.size w0 W) (h : IsPg w0.heap.size bp (.slice p S.length c) m W) (hm : m.length ≤ 4096) (hm2 : 4096 < m.length + (g y).length) => puts_long (HV W m y hy hW h hm) hm2
        have hL0 := HL.out
        obtain ⟨T0, hT0⟩ : ∃ T0, T0 = l ++ pairsT g ((pairsOf vs).take i) := ⟨_, rfl⟩
        have hT0l : T0.length = l.length + (pairsT g ((pairsOf vs).take i)).length := by rw [hT0, List.length_append]
        rw [← hT0] at hPA
        by_cases hi0 : i = 0
        · have hI0 := hib.1 hi0
          have g0 : ¬ ((0 : Int) < (I : Int)) := by omega
          rw [if_pos hi0] at hle hes
          simp only [sepT, List.length_cons, List.length_nil] at hle hes
          by_cases hc0 : T0.length + (g a).length ≤ 4096
          · by_cases hc1 : T0.length + (g a).length + 2 ≤ 4096
            · by_cases hc2 : T0.length + (g a).length + 2 + (g x).length ≤ 4096
              · have K0 := HT _ _ a hfa hBA hPA (by omega)
                have K1 := fun (W : World) (hW : Below w0.heap.size w0 W) (h : IsPg w0.heap.size bp (.slice p S.length c) (T0 ++ g a) W) => put_fits h hW.size ⟨#[58, 32]⟩ (by show _ + 2 ≤ 4096; simp; omega)
                have K2 := fun (W : World) (hW : Below w0.heap.size w0 W) (h : IsPg w0.heap.size bp (.slice p S.length c) (T0 ++ g a ++ (⟨#[58, 32]⟩ : ByteArray).data.toList) W) => HT W _ x hfx hW h (by simp; omega)
                have HFit : Hid (l.length + (pairsT g ((pairsOf vs).take (i + 1))).length ≤ 4096) := hid (by rw [hes]; simp [colT]; omega)
                have HEs : Hid (l ++ pairsT g ((pairsOf vs).take (i + 1)) = T0 ++ g a ++ (⟨#[58, 32]⟩ : ByteArray).data.toList ++ g x) := hid (by rw [hes, hT0]; simp [colT])
                have HI0 : Hid _ := hI0
                have HX : Hid _ := hxx
                subst hxx
                simp only [show ((0 : Nat) : Int) = 0 from rfl] at K2
                clear hle hes HT HTL hL0 hT0 hT0l hi0 hI0 hib hc0 hc1 hc2
                go_wp2_with (first
                  | (go_at_call 264; (with_reducible refine K0.mono ?_); clear K0; rintro e w2 ⟨rfl, k0, m0⟩; have hB_0 := (m0.box _ _ _ _ hA1 (by decide) (Ne.symm hnx)).trans hA1; obtain ⟨p0, q0⟩ := cell_rowV hB_0; have hW1 := hBA.trans m0.bel; obtain ⟨r0, t0⟩ := HC.out _ hW1)
                  | (go_at_call 268; (with_reducible refine (K1 _ hW1 k0).mono ?_); clear K1; rintro e w3 ⟨rfl, k1, m1⟩; have hB_1 := (m1.box _ _ _ _ hB_0 (by decide) (Ne.symm hnx)).trans hB_0; obtain ⟨p1, q1⟩ := cell_rowV hB_1; have hW2 := hW1.trans m1.bel; obtain ⟨r1, t1⟩ := HC.out _ hW2)
                  | (go_at_call 264; (with_reducible refine (K2 _ hW2 k1).mono ?_); clear K2; rintro e w4 ⟨rfl, k2, m2⟩; have hB_2 := (m2.box _ _ _ _ hB_1 (by decide) (Ne.symm hnx)).trans hB_1; obtain ⟨p2, q2⟩ := cell_rowV hB_2; have hW3 := hW2.trans m2.bel; obtain ⟨r2, t2⟩ := HC.out _ hW3))
                go_roundw
                case rel => exact ⟨i + 1, I + 2, by simp, hid (by have := HI.out; omega), by omega, HFit, hid (by rw [HEs.out]; exact k2), hid (((hSA.trans m0).trans m1).trans m2)⟩
                case measure => simp [intOf]; omega
              · have K0 := HT _ _ a hfa hBA hPA (by omega)
                have K1 := fun (W : World) (hW : Below w0.heap.size w0 W) (h : IsPg w0.heap.size bp (.slice p S.length c) (T0 ++ g a) W) => put_fits h hW.size ⟨#[58, 32]⟩ (by show _ + 2 ≤ 4096; simp; omega)
                have K2 := fun (W : World) (hW : Below w0.heap.size w0 W) (h : IsPg w0.heap.size bp (.slice p S.length c) (T0 ++ g a ++ (⟨#[58, 32]⟩ : ByteArray).data.toList) W) => HTL W _ x hfx hW h (by simp; omega) (by simp; omega)
                have HBig : Hid (4096 < l.length + (pairsT g (pairsOf vs)).length) := hid (by omega)
                have HI0 : Hid _ := hI0
                have HX : Hid _ := hxx
                subst hxx
                simp only [show ((0 : Nat) : Int) = 0 from rfl] at K2
                clear hle hes HT HTL hL0 hT0 hT0l hi0 hI0 hib hc0 hc1 hc2
                go_wp2_with (first
                  | (go_at_call 264; (with_reducible refine K0.mono ?_); clear K0; rintro e w2 ⟨rfl, k0, m0⟩; have hB_0 := (m0.box _ _ _ _ hA1 (by decide) (Ne.symm hnx)).trans hA1; obtain ⟨p0, q0⟩ := cell_rowV hB_0; have hW1 := hBA.trans m0.bel; obtain ⟨r0, t0⟩ := HC.out _ hW1)
                  | (go_at_call 268; (with_reducible refine (K1 _ hW1 k0).mono ?_); clear K1; rintro e w3 ⟨rfl, k1, m1⟩; have hB_1 := (m1.box _ _ _ _ hB_0 (by decide) (Ne.symm hnx)).trans hB_0; obtain ⟨p1, q1⟩ := cell_rowV hB_1; have hW2 := hW1.trans m1.bel; obtain ⟨r1, t1⟩ := HC.out _ hW2)
                  | (go_at_call 264; (with_reducible refine (K2 _ hW2 k1).mono ?_); clear K2; rintro e w4 ⟨rfl, m2⟩))
                go_ret
                exact ⟨false, rfl, (((hSA.trans m0).trans m1).trans m2), no_fit HBig.out, (fun h => by cases h)⟩
            · have K0 := HT _ _ a hfa hBA hPA (by omega)
              have K1 := fun (W : World) (hW : Below w0.heap.size w0 W) (h : IsPg w0.heap.size bp (.slice p S.length c) (T0 ++ g a) W) => put_long h ⟨#[58, 32]⟩ (by simp; omega) (by decide) (by show 4096 < _ + 2; simp; omega)
              have HBig : Hid (4096 < l.length + (pairsT g (pairsOf vs)).length) := hid (by omega)
              have HI0 : Hid _ := hI0
              have HX : Hid _ := hxx
              subst hxx
              clear hle hes HT HTL hL0 hT0 hT0l hi0 hI0 hib hc0 hc1
              go_wp2_with (first
                | (go_at_call 264; (with_reducible refine K0.mono ?_); clear K0; rintro e w2 ⟨rfl, k0, m0⟩; have hB_0 := (m0.box _ _ _ _ hA1 (by decide) (Ne.symm hnx)).trans hA1; obtain ⟨p0, q0⟩ := cell_rowV hB_0; have hW1 := hBA.trans m0.bel; obtain ⟨r0, t0⟩ := HC.out _ hW1)
                | (go_at_call 268; (with_reducible refine (K1 _ hW1 k0).mono ?_); clear K1; rintro e w3 ⟨rfl, rfl⟩))
              go_ret
              exact ⟨false, rfl, (hSA.trans m0), no_fit HBig.out, (fun h => by cases h)⟩
          · have K0 := HTL _ _ a hfa hBA hPA (by omega) (by omega)
            have HBig : Hid (4096 < l.length + (pairsT g (pairsOf vs)).length) := hid (by omega)
            have HI0 : Hid _ := hI0
            have HX : Hid _ := hxx
            subst hxx
            clear hle hes HT HTL hL0 hT0 hT0l hi0 hI0 hib hc0
            go_wp2_with (first
              | (go_at_call 264; (with_reducible refine K0.mono ?_); clear K0; rintro e w2 ⟨rfl, m0⟩))
            go_ret
            exact ⟨false, rfl, (hSA.trans m0), no_fit HBig.out, (fun h => by cases h)⟩
        · have hI0 : ¬ I = 0 := fun h => hi0 (hib.2 h)
          have g0 : ((0 : Int) < (I : Int)) := by omega
          rw [if_neg hi0] at hle hes
          simp only [sepT, List.length_cons, List.length_nil] at hle hes
          by_cases hc0 : T0.length + 2 ≤ 4096
          · by_cases hc1 : T0.length + 2 + (g a).length ≤ 4096
            · by_cases hc2 : T0.length + 2 + (g a).length + 2 ≤ 4096
              · by_cases hc3 : T0.length + 2 + (g a).length + 2 + (g x).length ≤ 4096
                · have K0 := put_fits hPA hnA ⟨#[44, 32]⟩ (by show _ + 2 ≤ 4096; omega)
                  have K1 := fun (W : World) (hW : Below w0.heap.size w0 W) (h : IsPg w0.heap.size bp (.slice p S.length c) (T0 ++ (⟨#[44, 32]⟩ : ByteArray).data.toList) W) => HT W _ a hfa hW h (by simp; omega)
                  have K2 := fun (W : World) (hW : Below w0.heap.size w0 W) (h : IsPg w0.heap.size bp (.slice p S.length c) (T0 ++ (⟨#[44, 32]⟩ : ByteArray).data.toList ++ g a) W) => put_fits h hW.size ⟨#[58, 32]⟩ (by show _ + 2 ≤ 4096; simp; omega)
                  have K3 := fun (W : World) (hW : Below w0.heap.size w0 W) (h : IsPg w0.heap.size bp (.slice p S.length c) (T0 ++ (⟨#[44, 32]⟩ : ByteArray).data.toList ++ g a ++ (⟨#[58, 32]⟩ : ByteArray).data.toList) W) => HT W _ x hfx hW h (by simp; omega)
                  have HFit : Hid (l.length + (pairsT g ((pairsOf vs).take (i + 1))).length ≤ 4096) := hid (by rw [hes]; simp [colT]; omega)
                  have HEs : Hid (l ++ pairsT g ((pairsOf vs).take (i + 1)) = T0 ++ (⟨#[44, 32]⟩ : ByteArray).data.toList ++ g a ++ (⟨#[58, 32]⟩ : ByteArray).data.toList ++ g x) := hid (by rw [hes, hT0]; simp [colT])
                  have HI0 : Hid _ := hI0
                  have HX : Hid _ := hxx
                  subst hxx
                  simp only [show ((0 : Nat) : Int) = 0 from rfl] at K3
                  clear hle hes HT HTL hL0 hT0 hT0l hi0 hI0 hib hc0 hc1 hc2 hc3
                  go_wp2_with (first
                    | (go_at_call 268; (with_reducible refine K0.mono ?_); clear K0; rintro e w2 ⟨rfl, k0, m0⟩; have hB_0 := (m0.box _ _ _ _ hA1 (by decide) (Ne.symm hnx)).trans hA1; obtain ⟨p0, q0⟩ := cell_rowV hB_0; have hW1 := hBA.trans m0.bel; obtain ⟨r0, t0⟩ := HC.out _ hW1)
                    | (go_at_call 264; (with_reducible refine (K1 _ hW1 k0).mono ?_); clear K1; rintro e w3 ⟨rfl, k1, m1⟩; have hB_1 := (m1.box _ _ _ _ hB_0 (by decide) (Ne.symm hnx)).trans hB_0; obtain ⟨p1, q1⟩ := cell_rowV hB_1; have hW2 := hW1.trans m1.bel; obtain ⟨r1, t1⟩ := HC.out _ hW2)
                    | (go_at_call 268; (with_reducible refine (K2 _ hW2 k1).mono ?_); clear K2; rintro e w4 ⟨rfl, k2, m2⟩; have hB_2 := (m2.box _ _ _ _ hB_1 (by decide) (Ne.symm hnx)).trans hB_1; obtain ⟨p2, q2⟩ := cell_rowV hB_2; have hW3 := hW2.trans m2.bel; obtain ⟨r2, t2⟩ := HC.out _ hW3)
                    | (go_at_call 264; (with_reducible refine (K3 _ hW3 k2).mono ?_); clear K3; rintro e w5 ⟨rfl, k3, m3⟩; have hB_3 := (m3.box _ _ _ _ hB_2 (by decide) (Ne.symm hnx)).trans hB_2; obtain ⟨p3, q3⟩ := cell_rowV hB_3; have hW4 := hW3.trans m3.bel; obtain ⟨r3, t3⟩ := HC.out _ hW4))
                  go_roundw
                  case rel => exact ⟨i + 1, I + 2, by simp, hid (by have := HI.out; omega), by omega, HFit, hid (by rw [HEs.out]; exact k3), hid ((((hSA.trans m0).trans m1).trans m2).trans m3)⟩
                  case measure => simp [intOf]; omega
                · have K0 := put_fits hPA hnA ⟨#[44, 32]⟩ (by show _ + 2 ≤ 4096; omega)
                  have K1 := fun (W : World) (hW : Below w0.heap.size w0 W) (h : IsPg w0.heap.size bp (.slice p S.length c) (T0 ++ (⟨#[44, 32]⟩ : ByteArray).data.toList) W) => HT W _ a hfa hW h (by simp; omega)
                  have K2 := fun (W : World) (hW : Below w0.heap.size w0 W) (h : IsPg w0.heap.size bp (.slice p S.length c) (T0 ++ (⟨#[44, 32]⟩ : ByteArray).data.toList ++ g a) W) => put_fits h hW.size ⟨#[58, 32]⟩ (by show _ + 2 ≤ 4096; simp; omega)
                  have K3 := fun (W : World) (hW : Below w0.heap.size w0 W) (h : IsPg w0.heap.size bp (.slice p S.length c) (T0 ++ (⟨#[44, 32]⟩ : ByteArray).data.toList ++ g a ++ (⟨#[58, 32]⟩ : ByteArray).data.toList) W) => HTL W _ x hfx hW h (by simp; omega) (by simp; omega)
                  have HBig : Hid (4096 < l.length + (pairsT g (pairsOf vs)).length) := hid (by omega)
                  have HI0 : Hid _ := hI0
                  have HX : Hid _ := hxx
                  subst hxx
                  simp only [show ((0 : Nat) : Int) = 0 from rfl] at K3
                  clear hle hes HT HTL hL0 hT0 hT0l hi0 hI0 hib hc0 hc1 hc2 hc3
                  go_wp2_with (first
                    | (go_at_call 268; (with_reducible refine K0.mono ?_); clear K0; rintro e w2 ⟨rfl, k0, m0⟩; have hB_0 := (m0.box _ _ _ _ hA1 (by decide) (Ne.symm hnx)).trans hA1; obtain ⟨p0, q0⟩ := cell_rowV hB_0; have hW1 := hBA.trans m0.bel; obtain ⟨r0, t0⟩ := HC.out _ hW1)
                    | (go_at_call 264; (with_reducible refine (K1 _ hW1 k0).mono ?_); clear K1; rintro e w3 ⟨rfl, k1, m1⟩; have hB_1 := (m1.box _ _ _ _ hB_0 (by decide) (Ne.symm hnx)).trans hB_0; obtain ⟨p1, q1⟩ := cell_rowV hB_1; have hW2 := hW1.trans m1.bel; obtain ⟨r1, t1⟩ := HC.out _ hW2)
                    | (go_at_call 268; (with_reducible refine (K2 _ hW2 k1).mono ?_); clear K2; rintro e w4 ⟨rfl, k2, m2⟩; have hB_2 := (m2.box _ _ _ _ hB_1 (by decide) (Ne.symm hnx)).trans hB_1; obtain ⟨p2, q2⟩ := cell_rowV hB_2; have hW3 := hW2.trans m2.bel; obtain ⟨r2, t2⟩ := HC.out _ hW3)
                    | (go_at_call 264; (with_reducible refine (K3 _ hW3 k2).mono ?_); clear K3; rintro e w5 ⟨rfl, m3⟩))
                  go_ret
                  exact ⟨false, rfl, ((((hSA.trans m0).trans m1).trans m2).trans m3), no_fit HBig.out, (fun h => by cases h)⟩
              · have K0 := put_fits hPA hnA ⟨#[44, 32]⟩ (by show _ + 2 ≤ 4096; omega)
                have K1 := fun (W : World) (hW : Below w0.heap.size w0 W) (h : IsPg w0.heap.size bp (.slice p S.length c) (T0 ++ (⟨#[44, 32]⟩ : ByteArray).data.toList) W) => HT W _ a hfa hW h (by simp; omega)
                have K2 := fun (W : World) (hW : Below w0.heap.size w0 W) (h : IsPg w0.heap.size bp (.slice p S.length c) (T0 ++ (⟨#[44, 32]⟩ : ByteArray).data.toList ++ g a) W) => put_long h ⟨#[58, 32]⟩ (by simp; omega) (by decide) (by show 4096 < _ + 2; simp; omega)
                have HBig : Hid (4096 < l.length + (pairsT g (pairsOf vs)).length) := hid (by omega)
                have HI0 : Hid _ := hI0
                have HX : Hid _ := hxx
                subst hxx
                clear hle hes HT HTL hL0 hT0 hT0l hi0 hI0 hib hc0 hc1 hc2
                go_wp2_with (first
                  | (go_at_call 268; (with_reducible refine K0.mono ?_); clear K0; rintro e w2 ⟨rfl, k0, m0⟩; have hB_0 := (m0.box _ _ _ _ hA1 (by decide) (Ne.symm hnx)).trans hA1; obtain ⟨p0, q0⟩ := cell_rowV hB_0; have hW1 := hBA.trans m0.bel; obtain ⟨r0, t0⟩ := HC.out _ hW1)
                  | (go_at_call 264; (with_reducible refine (K1 _ hW1 k0).mono ?_); clear K1; rintro e w3 ⟨rfl, k1, m1⟩; have hB_1 := (m1.box _ _ _ _ hB_0 (by decide) (Ne.symm hnx)).trans hB_0; obtain ⟨p1, q1⟩ := cell_rowV hB_1; have hW2 := hW1.trans m1.bel; obtain ⟨r1, t1⟩ := HC.out _ hW2)
                  | (go_at_call 268; (with_reducible refine (K2 _ hW2 k1).mono ?_); clear K2; rintro e w4 ⟨rfl, rfl⟩))
                go_ret
                exact ⟨false, rfl, ((hSA.trans m0).trans m1), no_fit HBig.out, (fun h => by cases h)⟩
            · have K0 := put_fits hPA hnA ⟨#[44, 32]⟩ (by show _ + 2 ≤ 4096; omega)
              have K1 := fun (W : World) (hW : Below w0.heap.size w0 W) (h : IsPg w0.heap.size bp (.slice p S.length c) (T0 ++ (⟨#[44, 32]⟩ : ByteArray).data.toList) W) => HTL W _ a hfa hW h (by simp; omega) (by simp; omega)
              have HBig : Hid (4096 < l.length + (pairsT g (pairsOf vs)).length) := hid (by omega)
              have HI0 : Hid _ := hI0
              have HX : Hid _ := hxx
              subst hxx
              clear hle hes HT HTL hL0 hT0 hT0l hi0 hI0 hib hc0 hc1
              go_wp2_with (first
                | (go_at_call 268; (with_reducible refine K0.mono ?_); clear K0; rintro e w2 ⟨rfl, k0, m0⟩; have hB_0 := (m0.box _ _ _ _ hA1 (by decide) (Ne.symm hnx)).trans hA1; obtain ⟨p0, q0⟩ := cell_rowV hB_0; have hW1 := hBA.trans m0.bel; obtain ⟨r0, t0⟩ := HC.out _ hW1)
                | (go_at_call 264; (with_reducible refine (K1 _ hW1 k0).mono ?_); clear K1; rintro e w3 ⟨rfl, m1⟩))
              go_ret
              exact ⟨false, rfl, ((hSA.trans m0).trans m1), no_fit HBig.out, (fun h => by cases h)⟩
          · have K0 := put_long hPA ⟨#[44, 32]⟩ (by omega) (by decide) (by show 4096 < _ + 2; omega)
            have HBig : Hid (4096 < l.length + (pairsT g (pairsOf vs)).length) := hid (by omega)
            have HI0 : Hid _ := hI0
            have HX : Hid _ := hxx
            subst hxx
            clear hle hes HT HTL hL0 hT0 hT0l hi0 hI0 hib hc0
            go_wp2_with (first
              | (go_at_call 268; (with_reducible refine K0.mono ?_); clear K0; rintro e w2 ⟨rfl, rfl⟩))
            go_ret
            exact ⟨false, rfl, hSA, no_fit HBig.out, (fun h => by cases h)⟩
    · have hIn' : ¬ ((I : Int) < (vs.length : Int)) := by omega
      have hie : (pairsOf vs).take i = pairsOf vs := List.take_of_length_le (by have := HI.out; have := pairsOf_len vs; omega)
      have hfin : Puts w0.heap.size bp (.slice p S.length c) l (pairsT g (pairsOf vs)) w (.returned (.bool true)) wr := by
        rw [← hie]
        exact ⟨true, rfl, HS.out, by simp; exact HL.out, fun _ => HP.out⟩
      have HF : Hid _ := hfin
      clear hie hfin
      go_wp2
      go_ret
      exact HF.out

end

end Go.Proofs.YtgokofomoachaaaGreatDoor

namespace Go.Proofs.YtgokofomoachaaaGreatDoor
set_option linter.unusedVariables false
set_option linter.unusedSimpArgs false
open Go.RowKit

variable {w : World}

section
variable {w0 : World} {bp c : Nat} {p : Option Addr} {S : List Om} {d : Int} {g : Vl → List UInt8}

set_option maxHeartbeats 1000000 in
theorem row_dots (hd : 8 < d) : RowC w0 bp c p S d (fun _ => [46, 46]) := by
  intro w l o qo co hoS hk hv hB hp hl
  unfold objV
  have hA := below1 w (.cells #[.int .u8 o.k, .string o.s, .slice qo o.l.length co, .int .i64 o.room, .int .i64 o.fn] 96)
  have hsz := hB.size
  have hn : w0.heap.size ≤ (w.alloc (.cells #[.int .u8 o.k, .string o.s, .slice qo o.l.length co, .int .i64 o.room, .int .i64 o.fn] 96)).heap.size := by simp; omega
  have H := put_in (hp.below hA) hn ⟨#[46, 46]⟩ hl (by decide)
  have hPA := PStep.of_below (bp := bp) hA hsz
  go_enter Tryz.func271, Tryz.ntmps271
  go_wp2_with (first
    | (go_at_call 268; refine H.mono ?_; clear H; rintro e w2 ⟨b, rfl, h1, h2, h3⟩))
  go_ret
  exact ⟨b, rfl, hPA.trans h1, h2, h3⟩

set_option maxRecDepth 20000 in
set_option maxHeartbeats 4000000 in
theorem row_of (G : Given w0 p S) (hll : ∀ o ∈ S, o.l.length ≤ 1048576) (hd0 : 0 ≤ d) (hd : d ≤ 8) (HV : ValueC w0 bp c p S (d + 1) g) : RowC w0 bp c p S d (rowT g) := by
  intro w l o qo co hoS hk hv hB hp hl
  unfold objV
  have hsz := hB.size
  have hd' : ¬ (8 < d) := by omega
  have hfo := (G.fit o hoS).2.1
  have hvl := hll o hoS
  rcases hk with hk | hk
  · have e1 : rowT g o = [91] ++ (itemsT g o.l ++ [93]) := by unfold rowT; simp [hk]
    have E1 : Hid _ := e1
    rw [hk]
    clear e1 hk
    have hA := below1 w (.cells #[.int .u8 4, .string o.s, .slice qo o.l.length co, .int .i64 o.room, .int .i64 o.fn] 96)
    have hA1 := heap_alloc_new w (.cells #[.int .u8 4, .string o.s, .slice qo o.l.length co, .int .i64 o.room, .int .i64 o.fn] 96)
    have hn : w0.heap.size ≤ (w.alloc (.cells #[.int .u8 4, .string o.s, .slice qo o.l.length co, .int .i64 o.room, .int .i64 o.fn] 96)).heap.size := by simp; omega
    have hBA := hB.trans (hA.mono hsz)
    have hPA := hp.below hA
    have hSA : PStep w0.heap.size bp w (w.alloc (.cells #[.int .u8 4, .string o.s, .slice qo o.l.length co, .int .i64 o.room, .int .i64 o.fn] 96)) := PStep.of_below hA hsz
    have hnx : bp ≠ w.heap.size := by have := hp.lt; omega
    obtain ⟨⟨d0, d1, d2, d3, d4⟩, -⟩ := cell_row5 hA1
    have HT := fun (W : World) (m : List UInt8) (hW : Below w0.heap.size w0 W) (h : IsPg w0.heap.size bp (.slice p S.length c) m W) (hm : m.length + (itemsT g o.l).length ≤ 4096) => puts_fit (items_of HV W m o.l qo co hv hfo hW h (by omega) hvl) hm
    have HTL := fun (W : World) (m : List UInt8) (hW : Below w0.heap.size w0 W) (h : IsPg w0.heap.size bp (.slice p S.length c) m W) (hm : m.length ≤ 4096) (hm2 : 4096 < m.length + (itemsT g o.l).length) => puts_long (items_of HV W m o.l qo co hv hfo hW h hm hvl) hm2
    clear hv hfo hvl hll
    by_cases hc0 : l.length + 1 ≤ 4096
    · by_cases hc1 : l.length + 1 + (itemsT g o.l).length ≤ 4096
      · by_cases hc2 : l.length + 1 + (itemsT g o.l).length + 1 ≤ 4096
        · have K0 := put_fits hPA hn ⟨#[91]⟩ (by show _ + 1 ≤ 4096; omega)
          have K1 := fun (W : World) (hW : Below w0.heap.size w0 W) (h : IsPg w0.heap.size bp (.slice p S.length c) (l ++ (⟨#[91]⟩ : ByteArray).data.toList) W) => HT W _ hW h (by simp; omega)
          have K2 := fun (W : World) (hW : Below w0.heap.size w0 W) (h : IsPg w0.heap.size bp (.slice p S.length c) (l ++ (⟨#[91]⟩ : ByteArray).data.toList ++ itemsT g o.l) W) => put_fits h hW.size ⟨#[93]⟩ (by show _ + 1 ≤ 4096; simp; omega)
          have HFit : Hid (l.length + (rowT g o).length ≤ 4096) := hid (by rw [E1.out]; simp; omega)
          have HEs : Hid (l ++ rowT g o = l ++ (⟨#[91]⟩ : ByteArray).data.toList ++ itemsT g o.l ++ (⟨#[93]⟩ : ByteArray).data.toList) := hid (by rw [E1.out]; simp)
          clear HT HTL hc0 hc1 hc2
          go_enter Tryz.func271, Tryz.ntmps271
          go_wp2_with (first
            | (go_at_call 268; (with_reducible refine K0.mono ?_); clear K0; rintro e w2 ⟨rfl, k0, m0⟩; have hB_0 := (m0.box _ _ _ _ hA1 (by decide) (Ne.symm hnx)).trans hA1; obtain ⟨⟨p00, p01, p02, p03, p04⟩, -⟩ := cell_row5 hB_0; have hW1 := hBA.trans m0.bel)
            | (go_at_call 276; (with_reducible refine (K1 _ hW1 k0).mono ?_); clear K1; rintro e w3 ⟨rfl, k1, m1⟩; have hB_1 := (m1.box _ _ _ _ hB_0 (by decide) (Ne.symm hnx)).trans hB_0; obtain ⟨⟨p10, p11, p12, p13, p14⟩, -⟩ := cell_row5 hB_1; have hW2 := hW1.trans m1.bel)
            | (go_at_call 268; (with_reducible refine (K2 _ hW2 k1).mono ?_); clear K2; rintro e w4 ⟨rfl, k2, m2⟩; have hB_2 := (m2.box _ _ _ _ hB_1 (by decide) (Ne.symm hnx)).trans hB_1; obtain ⟨⟨p20, p21, p22, p23, p24⟩, -⟩ := cell_row5 hB_2; have hW3 := hW2.trans m2.bel))
          go_ret
          exact ⟨true, rfl, (((hSA.trans m0).trans m1).trans m2), ⟨fun _ => HFit.out, fun _ => rfl⟩, fun _ => by rw [HEs.out]; exact k2⟩
        · have K0 := put_fits hPA hn ⟨#[91]⟩ (by show _ + 1 ≤ 4096; omega)
          have K1 := fun (W : World) (hW : Below w0.heap.size w0 W) (h : IsPg w0.heap.size bp (.slice p S.length c) (l ++ (⟨#[91]⟩ : ByteArray).data.toList) W) => HT W _ hW h (by simp; omega)
          have K2 := fun (W : World) (hW : Below w0.heap.size w0 W) (h : IsPg w0.heap.size bp (.slice p S.length c) (l ++ (⟨#[91]⟩ : ByteArray).data.toList ++ itemsT g o.l) W) => put_long h ⟨#[93]⟩ (by simp; omega) (by decide) (by show 4096 < _ + 1; simp; omega)
          have HBig : Hid (4096 < l.length + (rowT g o).length) := hid (by rw [E1.out]; simp; omega)
          clear HT HTL hc0 hc1 hc2
          go_enter Tryz.func271, Tryz.ntmps271
          go_wp2_with (first
            | (go_at_call 268; (with_reducible refine K0.mono ?_); clear K0; rintro e w2 ⟨rfl, k0, m0⟩; have hB_0 := (m0.box _ _ _ _ hA1 (by decide) (Ne.symm hnx)).trans hA1; obtain ⟨⟨p00, p01, p02, p03, p04⟩, -⟩ := cell_row5 hB_0; have hW1 := hBA.trans m0.bel)
            | (go_at_call 276; (with_reducible refine (K1 _ hW1 k0).mono ?_); clear K1; rintro e w3 ⟨rfl, k1, m1⟩; have hB_1 := (m1.box _ _ _ _ hB_0 (by decide) (Ne.symm hnx)).trans hB_0; obtain ⟨⟨p10, p11, p12, p13, p14⟩, -⟩ := cell_row5 hB_1; have hW2 := hW1.trans m1.bel)
            | (go_at_call 268; (with_reducible refine (K2 _ hW2 k1).mono ?_); clear K2; rintro e w4 ⟨rfl, rfl⟩))
          go_ret
          exact ⟨false, rfl, ((hSA.trans m0).trans m1), no_fit HBig.out, (fun h => by cases h)⟩
      · have K0 := put_fits hPA hn ⟨#[91]⟩ (by show _ + 1 ≤ 4096; omega)
        have K1 := fun (W : World) (hW : Below w0.heap.size w0 W) (h : IsPg w0.heap.size bp (.slice p S.length c) (l ++ (⟨#[91]⟩ : ByteArray).data.toList) W) => HTL W _ hW h (by simp; omega) (by simp; omega)
        have HBig : Hid (4096 < l.length + (rowT g o).length) := hid (by rw [E1.out]; simp; omega)
        clear HT HTL hc0 hc1
        go_enter Tryz.func271, Tryz.ntmps271
        go_wp2_with (first
          | (go_at_call 268; (with_reducible refine K0.mono ?_); clear K0; rintro e w2 ⟨rfl, k0, m0⟩; have hB_0 := (m0.box _ _ _ _ hA1 (by decide) (Ne.symm hnx)).trans hA1; obtain ⟨⟨p00, p01, p02, p03, p04⟩, -⟩ := cell_row5 hB_0; have hW1 := hBA.trans m0.bel)
          | (go_at_call 276; (with_reducible refine (K1 _ hW1 k0).mono ?_); clear K1; rintro e w3 ⟨rfl, m1⟩))
        go_ret
        exact ⟨false, rfl, ((hSA.trans m0).trans m1), no_fit HBig.out, (fun h => by cases h)⟩
    · have K0 := put_long hPA ⟨#[91]⟩ hl (by decide) (by show 4096 < _ + 1; omega)
      have HBig : Hid (4096 < l.length + (rowT g o).length) := hid (by rw [E1.out]; simp; omega)
      clear HT HTL hc0
      go_enter Tryz.func271, Tryz.ntmps271
      go_wp2_with (first
        | (go_at_call 268; (with_reducible refine K0.mono ?_); clear K0; rintro e w2 ⟨rfl, rfl⟩))
      go_ret
      exact ⟨false, rfl, hSA, no_fit HBig.out, (fun h => by cases h)⟩
  · have e1 : rowT g o = [123] ++ (pairsT g (pairsOf o.l) ++ [125]) := by unfold rowT; simp [hk]
    have E1 : Hid _ := e1
    rw [hk]
    clear e1 hk
    have hA := below1 w (.cells #[.int .u8 5, .string o.s, .slice qo o.l.length co, .int .i64 o.room, .int .i64 o.fn] 96)
    have hA1 := heap_alloc_new w (.cells #[.int .u8 5, .string o.s, .slice qo o.l.length co, .int .i64 o.room, .int .i64 o.fn] 96)
    have hn : w0.heap.size ≤ (w.alloc (.cells #[.int .u8 5, .string o.s, .slice qo o.l.length co, .int .i64 o.room, .int .i64 o.fn] 96)).heap.size := by simp; omega
    have hBA := hB.trans (hA.mono hsz)
    have hPA := hp.below hA
    have hSA : PStep w0.heap.size bp w (w.alloc (.cells #[.int .u8 5, .string o.s, .slice qo o.l.length co, .int .i64 o.room, .int .i64 o.fn] 96)) := PStep.of_below hA hsz
    have hnx : bp ≠ w.heap.size := by have := hp.lt; omega
    obtain ⟨⟨d0, d1, d2, d3, d4⟩, -⟩ := cell_row5 hA1
    have HT := fun (W : World) (m : List UInt8) (hW : Below w0.heap.size w0 W) (h : IsPg w0.heap.size bp (.slice p S.length c) m W) (hm : m.length + (pairsT g (pairsOf o.l)).length ≤ 4096) => puts_fit (pairs_of HV W m o.l qo co hv hfo hW h (by omega) hvl) hm
    have HTL := fun (W : World) (m : List UInt8) (hW : Below w0.heap.size w0 W) (h : IsPg w0.heap.size bp (.slice p S.length c) m W) (hm : m.length ≤ 4096) (hm2 : 4096 < m.length + (pairsT g (pairsOf o.l)).length) => puts_long (pairs_of HV W m o.l qo co hv hfo hW h hm hvl) hm2
    clear hv hfo hvl hll
    by_cases hc0 : l.length + 1 ≤ 4096
    · by_cases hc1 : l.length + 1 + (pairsT g (pairsOf o.l)).length ≤ 4096
      · by_cases hc2 : l.length + 1 + (pairsT g (pairsOf o.l)).length + 1 ≤ 4096
        · have K0 := put_fits hPA hn ⟨#[123]⟩ (by show _ + 1 ≤ 4096; omega)
          have K1 := fun (W : World) (hW : Below w0.heap.size w0 W) (h : IsPg w0.heap.size bp (.slice p S.length c) (l ++ (⟨#[123]⟩ : ByteArray).data.toList) W) => HT W _ hW h (by simp; omega)
          have K2 := fun (W : World) (hW : Below w0.heap.size w0 W) (h : IsPg w0.heap.size bp (.slice p S.length c) (l ++ (⟨#[123]⟩ : ByteArray).data.toList ++ pairsT g (pairsOf o.l)) W) => put_fits h hW.size ⟨#[125]⟩ (by show _ + 1 ≤ 4096; simp; omega)
          have HFit : Hid (l.length + (rowT g o).length ≤ 4096) := hid (by rw [E1.out]; simp; omega)
          have HEs : Hid (l ++ rowT g o = l ++ (⟨#[123]⟩ : ByteArray).data.toList ++ pairsT g (pairsOf o.l) ++ (⟨#[125]⟩ : ByteArray).data.toList) := hid (by rw [E1.out]; simp)
          clear HT HTL hc0 hc1 hc2
          go_enter Tryz.func271, Tryz.ntmps271
          go_wp2_with (first
            | (go_at_call 268; (with_reducible refine K0.mono ?_); clear K0; rintro e w2 ⟨rfl, k0, m0⟩; have hB_0 := (m0.box _ _ _ _ hA1 (by decide) (Ne.symm hnx)).trans hA1; obtain ⟨⟨p00, p01, p02, p03, p04⟩, -⟩ := cell_row5 hB_0; have hW1 := hBA.trans m0.bel)
            | (go_at_call 277; (with_reducible refine (K1 _ hW1 k0).mono ?_); clear K1; rintro e w3 ⟨rfl, k1, m1⟩; have hB_1 := (m1.box _ _ _ _ hB_0 (by decide) (Ne.symm hnx)).trans hB_0; obtain ⟨⟨p10, p11, p12, p13, p14⟩, -⟩ := cell_row5 hB_1; have hW2 := hW1.trans m1.bel)
            | (go_at_call 268; (with_reducible refine (K2 _ hW2 k1).mono ?_); clear K2; rintro e w4 ⟨rfl, k2, m2⟩; have hB_2 := (m2.box _ _ _ _ hB_1 (by decide) (Ne.symm hnx)).trans hB_1; obtain ⟨⟨p20, p21, p22, p23, p24⟩, -⟩ := cell_row5 hB_2; have hW3 := hW2.trans m2.bel))
          go_ret
          exact ⟨true, rfl, (((hSA.trans m0).trans m1).trans m2), ⟨fun _ => HFit.out, fun _ => rfl⟩, fun _ => by rw [HEs.out]; exact k2⟩
        · have K0 := put_fits hPA hn ⟨#[123]⟩ (by show _ + 1 ≤ 4096; omega)
          have K1 := fun (W : World) (hW : Below w0.heap.size w0 W) (h : IsPg w0.heap.size bp (.slice p S.length c) (l ++ (⟨#[123]⟩ : ByteArray).data.toList) W) => HT W _ hW h (by simp; omega)
          have K2 := fun (W : World) (hW : Below w0.heap.size w0 W) (h : IsPg w0.heap.size bp (.slice p S.length c) (l ++ (⟨#[123]⟩ : ByteArray).data.toList ++ pairsT g (pairsOf o.l)) W) => put_long h ⟨#[125]⟩ (by simp; omega) (by decide) (by show 4096 < _ + 1; simp; omega)
          have HBig : Hid (4096 < l.length + (rowT g o).length) := hid (by rw [E1.out]; simp; omega)
          clear HT HTL hc0 hc1 hc2
          go_enter Tryz.func271, Tryz.ntmps271
          go_wp2_with (first
            | (go_at_call 268; (with_reducible refine K0.mono ?_); clear K0; rintro e w2 ⟨rfl, k0, m0⟩; have hB_0 := (m0.box _ _ _ _ hA1 (by decide) (Ne.symm hnx)).trans hA1; obtain ⟨⟨p00, p01, p02, p03, p04⟩, -⟩ := cell_row5 hB_0; have hW1 := hBA.trans m0.bel)
            | (go_at_call 277; (with_reducible refine (K1 _ hW1 k0).mono ?_); clear K1; rintro e w3 ⟨rfl, k1, m1⟩; have hB_1 := (m1.box _ _ _ _ hB_0 (by decide) (Ne.symm hnx)).trans hB_0; obtain ⟨⟨p10, p11, p12, p13, p14⟩, -⟩ := cell_row5 hB_1; have hW2 := hW1.trans m1.bel)
            | (go_at_call 268; (with_reducible refine (K2 _ hW2 k1).mono ?_); clear K2; rintro e w4 ⟨rfl, rfl⟩))
          go_ret
          exact ⟨false, rfl, ((hSA.trans m0).trans m1), no_fit HBig.out, (fun h => by cases h)⟩
      · have K0 := put_fits hPA hn ⟨#[123]⟩ (by show _ + 1 ≤ 4096; omega)
        have K1 := fun (W : World) (hW : Below w0.heap.size w0 W) (h : IsPg w0.heap.size bp (.slice p S.length c) (l ++ (⟨#[123]⟩ : ByteArray).data.toList) W) => HTL W _ hW h (by simp; omega) (by simp; omega)
        have HBig : Hid (4096 < l.length + (rowT g o).length) := hid (by rw [E1.out]; simp; omega)
        clear HT HTL hc0 hc1
        go_enter Tryz.func271, Tryz.ntmps271
        go_wp2_with (first
          | (go_at_call 268; (with_reducible refine K0.mono ?_); clear K0; rintro e w2 ⟨rfl, k0, m0⟩; have hB_0 := (m0.box _ _ _ _ hA1 (by decide) (Ne.symm hnx)).trans hA1; obtain ⟨⟨p00, p01, p02, p03, p04⟩, -⟩ := cell_row5 hB_0; have hW1 := hBA.trans m0.bel)
          | (go_at_call 277; (with_reducible refine (K1 _ hW1 k0).mono ?_); clear K1; rintro e w3 ⟨rfl, m1⟩))
        go_ret
        exact ⟨false, rfl, ((hSA.trans m0).trans m1), no_fit HBig.out, (fun h => by cases h)⟩
    · have K0 := put_long hPA ⟨#[123]⟩ hl (by decide) (by show 4096 < _ + 1; omega)
      have HBig : Hid (4096 < l.length + (rowT g o).length) := hid (by rw [E1.out]; simp; omega)
      clear HT HTL hc0
      go_enter Tryz.func271, Tryz.ntmps271
      go_wp2_with (first
        | (go_at_call 268; (with_reducible refine K0.mono ?_); clear K0; rintro e w2 ⟨rfl, rfl⟩))
      go_ret
      exact ⟨false, rfl, hSA, no_fit HBig.out, (fun h => by cases h)⟩

end

theorem value_deep {w0 : World} {bp c : Nat} {p : Option Addr} {S : List Om} (G : Given w0 p S) (hll : ∀ o ∈ S, o.l.length ≤ 1048576) : ∀ f : Nat, f ≤ 9 → ValueC w0 bp c p S (9 - (f : Int)) (txtV S f)
  | 0, _ => value_of G (row_dots (by omega))
  | f + 1, h => by
    have ih := value_deep (bp := bp) (c := c) G hll f (by omega)
    have : ((9 : Int) - ((f + 1 : Nat) : Int)) + 1 = 9 - (f : Int) := by omega
    exact value_of G (row_of G hll (by omega) (by omega) (by rw [this]; exact ih))

theorem value_in {w0 : World} {bp c : Nat} {p : Option Addr} {S : List Om} (G : Given w0 p S) (hll : ∀ o ∈ S, o.l.length ≤ 1048576) : ValueC w0 bp c p S 0 (txtV S 9) := by
  have := value_deep (bp := bp) (c := c) G hll 9 (by omega)
  simpa using this

end Go.Proofs.YtgokofomoachaaaGreatDoor

namespace Go.Proofs.YtgokofomoachaaaGreatDoor
set_option linter.unusedVariables false
set_option linter.unusedSimpArgs false
open Go.RowKit

variable {w : World}

theorem freeze_other {W : World} {k g n : Nat} (h : k ≠ g) : (W.freeze ⟨g, 0, none⟩ n).heap[k]? = W.heap[k]? := by
  unfold World.freeze
  split
  · rfl
  · simp only [Array.getElem?_modify]
    rw [if_neg (by omega)]

theorem cellsByte : Tryz.prog.cellsOf 5 = 1 := by kernel_rfl

set_option maxRecDepth 20000 in
set_option maxHeartbeats 1000000 in
/-- The builder's text. -/
theorem pgString_in {n₀ bp : Nat} {vs : Value} {l : List UInt8} (h : IsPg n₀ bp vs l w) (hn : n₀ ≤ w.heap.size) (hl : l.length ≤ 4096) (h0 : l ≠ []) :
    Calls Tryz.prog 265 #[.pointer (some ⟨bp, 0, none⟩)] w fun e w' => e = .returned (.string ⟨l.toArray⟩) ∧ Below n₀ w w' := by
  obtain ⟨hb0, ad, vb, hb, ha, ho, hnil⟩ := h
  clear hnil
  have hl0 : l.length ≠ 0 := by simpa using h0
  obtain ⟨g, cap, cur, rfl, hbg, hg, hnc, hcm, hcs, htake⟩ : ∃ g cap cur, vb = .slice (some ⟨g, 0, none⟩) l.length cap ∧ n₀ ≤ g ∧ w.heap[g]? = some (.cells cur 5 (0, 0)) ∧ l.length ≤ cap ∧ cap ≤ maxLen ∧ cur.size = cap * 1 ∧ cur.toList.take (l.length * 1) = Lib.byteCells l := by
    rcases ho.2 with ⟨_, hz⟩ | ⟨g, cap, cur, hv, r⟩
    · exact absurd hz hl0
    · exact ⟨g, cap, cur, hv, r⟩
  obtain ⟨⟨c0, c1, c2⟩, -⟩ := cell_row3' (W := w.drew) hb
  have hSD : (Builtin.unsafeSliceData_ #[156] 341 #[.slice (some ⟨g, 0, none⟩) l.length cap]).run Tryz.prog w.drew = .ok (.pointer (some ⟨g, 0, none⟩)) w.drew :=
    Lib.run_unsafeSliceData_row _ _ _ _ _ _ (by omega)
  have hUS : (Builtin.unsafeString_ #[341, 3] 9 #[.pointer (some ⟨g, 0, none⟩), .int .i64 l.length]).run Tryz.prog w.drew = .ok (.string ⟨l.toArray⟩) (w.drew.freeze ⟨g, 0, none⟩ l.length) := by
    refine Lib.run_unsafeString_row w.drew 341 3 9 5 Tryz.underlying341 cellsByte g cur.size (by have hg' : w.drew.heap[g]? = some (.cells cur 5 (0, 0)) := hg; simp [World.shape?, hg']) l h0 (by omega) (by unfold maxLen at hcm; omega) ?_
    intro j x hx
    have := ho.cells (g := g) rfl j (.int .u8 x.toNat) (by simp [Lib.byteCells, hx])
    exact this
  have hbg2 : bp ≠ g := by rintro rfl; rw [hb] at hg; cases hg
  have c1' : (w.drew.freeze ⟨g, 0, none⟩ l.length).cell? ⟨bp, 1, none⟩ = some (.slice (some ⟨g, 0, none⟩) l.length cap) := by
    rw [← c1]
    exact World.cell?_of_block (a := ⟨bp, 1, none⟩) (freeze_other hbg2)
  go_enter Tryz.func265, Tryz.ntmps265
  go_wp2
  go_region_held3 (fun W => W.cell? ⟨bp, 1, none⟩ = some (.slice (some ⟨g, 0, none⟩) l.length cap)) (first | with_reducible exact c1 | with_reducible exact c1' | go_keep) (fail)
  all_goals (go_wp2; go_ret; exact ⟨rfl, Lib.below_freeze (below_drew (Below.refl n₀ w)) (p := ⟨g, 0, none⟩) hbg _⟩)

set_option maxRecDepth 20000 in
set_option maxHeartbeats 1000000 in
/-- The builder's text, if nothing was put. -/
theorem pgString_nil {n₀ bp : Nat} {vs : Value} (h : IsPg n₀ bp vs [] w) :
    Calls Tryz.prog 265 #[.pointer (some ⟨bp, 0, none⟩)] w fun e w' => e = .returned (.string ⟨#[]⟩) ∧ Below n₀ w w' := by
  obtain ⟨hb0, ad, vb, hb, ha, ho, hnil⟩ := h
  obtain rfl := hnil rfl
  obtain ⟨⟨c0, c1, c2⟩, -⟩ := cell_row3' (W := w.drew) hb
  have hSD : (Builtin.unsafeSliceData_ #[156] 341 #[.slice none 0 0]).run Tryz.prog w.drew = .ok (.pointer none) w.drew := Lib.run_unsafeSliceData_nil _ _ _ _ _
  have hUS : (Builtin.unsafeString_ #[341, 3] 9 #[.pointer none, .int .i64 0]).run Tryz.prog w.drew = .ok (.string .empty) w.drew := Lib.run_unsafeString_none _ _ _ _ _
  go_enter Tryz.func265, Tryz.ntmps265
  go_wp2
  go_region_held3 (fun W => W.cell? ⟨bp, 1, none⟩ = some (.slice none 0 0)) (first | with_reducible exact c1 | go_keep) (fail)
  all_goals (go_wp2; go_ret; exact ⟨rfl, below_drew (Below.refl n₀ w)⟩)

/-- A value's whole text. -/
def textB (S : List Om) (v : Vl) : List UInt8 := txtV S 9 v

set_option maxRecDepth 20000 in
set_option maxHeartbeats 1000000 in
/-- show's Text, where it fits. -/
theorem Text_fits {p : Option Addr} {S : List Om} (c : Nat) (G : Given w p S) (hll : ∀ o ∈ S, o.l.length ≤ 1048576) (v : Vl) (hf : v.fits) (hfit : (textB S v).length ≤ 4096) :
    Calls Tryz.prog 249 #[.slice p S.length c, .agg #[.int .u8 v.k, .int .i64 v.n]] w fun e w' => e = .returned (.tuple #[.string ⟨(textB S v).toArray⟩, .bool true]) ∧ Below w.heap.size w w' := by
  have hA := below2' w (.cells #[.int .u8 v.k, .int .i64 v.n] 27) (.cells #[.pointer none, .slice none 0 0, .slice p S.length c] 339)
  have hv0 := (Below.heap_alloc (w.alloc (.cells #[.int .u8 v.k, .int .i64 v.n] 27)) (.cells #[.pointer none, .slice none 0 0, .slice p S.length c] 339) w.heap.size (by simp)).trans (heap_alloc_new w (.cells #[.int .u8 v.k, .int .i64 v.n] 27))
  have hp0 := heap_two w (.cells #[.int .u8 v.k, .int .i64 v.n] 27) (.cells #[.pointer none, .slice none 0 0, .slice p S.length c] 339)
  have hpg : IsPg w.heap.size (w.heap.size + 1) (.slice p S.length c) [] ((w.alloc (.cells #[.int .u8 v.k, .int .i64 v.n] 27)).alloc (.cells #[.pointer none, .slice none 0 0, .slice p S.length c] 339)) :=
    ⟨by omega, _, _, hp0, .inl rfl, World.ownsRow_nil _ _ _ _, fun _ => rfl⟩
  obtain ⟨v0, v1⟩ := cell_rowV hv0
  have H1 := puts_fit (value_in (bp := w.heap.size + 1) (c := c) G hll _ [] v hf hA hpg (by simp)) (by simpa [textB] using hfit)
  have H2 := fun (W : World) (h : IsPg w.heap.size (w.heap.size + 1) (.slice p S.length c) ([] ++ txtV S 9 v) W) (hB : Below w.heap.size w W) => show Calls Tryz.prog 265 #[.pointer (some ⟨w.heap.size + 1, 0, none⟩)] W (fun e w' => e = .returned (.string ⟨(textB S v).toArray⟩) ∧ Below w.heap.size W w') from by
    have h' : IsPg w.heap.size (w.heap.size + 1) (.slice p S.length c) (textB S v) W := h
    by_cases he : textB S v = []
    · rw [he] at h' ⊢
      exact pgString_nil h'
    · exact pgString_in h' hB.size hfit he
  go_enter Tryz.func249, Tryz.ntmps249
  go_wp2_with (first
    | (go_at_call 264; refine H1.mono ?_; clear H1; rintro e w2 ⟨rfl, h3, h1⟩; have hB2 := hA.trans h1.bel)
    | (go_at_call 265; refine (H2 _ h3 hB2).mono ?_; clear H2; rintro e w3 ⟨rfl, h4⟩))
  go_ret2
  exact ⟨rfl, hB2.trans h4⟩

set_option maxRecDepth 20000 in
set_option maxHeartbeats 1000000 in
/-- show's Text, where it is too long. -/
theorem Text_long {p : Option Addr} {S : List Om} (c : Nat) (G : Given w p S) (hll : ∀ o ∈ S, o.l.length ≤ 1048576) (v : Vl) (hf : v.fits) (hlong : 4096 < (textB S v).length) :
    Calls Tryz.prog 249 #[.slice p S.length c, .agg #[.int .u8 v.k, .int .i64 v.n]] w fun e w' => e = .returned (.tuple #[.string ⟨#[]⟩, .bool false]) ∧ Below w.heap.size w w' := by
  have hA := below2' w (.cells #[.int .u8 v.k, .int .i64 v.n] 27) (.cells #[.pointer none, .slice none 0 0, .slice p S.length c] 339)
  have hv0 := (Below.heap_alloc (w.alloc (.cells #[.int .u8 v.k, .int .i64 v.n] 27)) (.cells #[.pointer none, .slice none 0 0, .slice p S.length c] 339) w.heap.size (by simp)).trans (heap_alloc_new w (.cells #[.int .u8 v.k, .int .i64 v.n] 27))
  have hp0 := heap_two w (.cells #[.int .u8 v.k, .int .i64 v.n] 27) (.cells #[.pointer none, .slice none 0 0, .slice p S.length c] 339)
  have hpg : IsPg w.heap.size (w.heap.size + 1) (.slice p S.length c) [] ((w.alloc (.cells #[.int .u8 v.k, .int .i64 v.n] 27)).alloc (.cells #[.pointer none, .slice none 0 0, .slice p S.length c] 339)) :=
    ⟨by omega, _, _, hp0, .inl rfl, World.ownsRow_nil _ _ _ _, fun _ => rfl⟩
  obtain ⟨v0, v1⟩ := cell_rowV hv0
  have H1 := puts_long (value_in (bp := w.heap.size + 1) (c := c) G hll _ [] v hf hA hpg (by simp)) (by simpa [textB] using hlong)
  go_enter Tryz.func249, Tryz.ntmps249
  go_wp2_with (first
    | (go_at_call 264; refine H1.mono ?_; clear H1; rintro e w2 ⟨rfl, h1⟩; have hB2 := hA.trans h1.bel))
  go_ret2
  exact ⟨rfl, hB2⟩

end Go.Proofs.YtgokofomoachaaaGreatDoor
