/- show's page.items: a list's items are put behind, given how a value is. -/
import Derived.Test.YtppjahnahomkeaaDoorShValue
namespace Go.Proofs.YtppjahnahomkeaaDoor
set_option linter.unusedVariables false
set_option linter.unusedSimpArgs false
open Go.RowKit

variable {w : World}

theorem itemsT_append_le (g : Vl → List UInt8) (a b : List Vl) : (itemsT g a).length ≤ (itemsT g (a ++ b)).length := by
  unfold itemsT
  rw [List.zipIdx_append, List.flatMap_append, List.length_append]
  omega

theorem pairsT_append_le (g : Vl → List UInt8) (a b : List (Vl × Vl)) : (pairsT g a).length ≤ (pairsT g (a ++ b)).length := by
  unfold pairsT
  rw [List.zipIdx_append, List.flatMap_append, List.length_append]
  omega

theorem no_fit {n : Nat} (h : 4096 < n) : (false = true) ↔ n ≤ 4096 := ⟨(fun h => by cases h), fun h' => absurd h' (Nat.not_le.2 h)⟩

theorem puts_fit {n₀ bp : Nat} {vs : Value} {l x : List UInt8} {f : FuncId} {args : Array Value} {w : World} (h : Calls Tryd.prog f args w fun e w' => Puts n₀ bp vs l x w e w') (hf : l.length + x.length ≤ 4096) :
    Calls Tryd.prog f args w fun e w' => e = .returned (.bool true) ∧ IsPg n₀ bp vs (l ++ x) w' ∧ PStep n₀ bp w w' := by
  refine h.mono ?_
  rintro e w' ⟨b, rfl, h1, h2, h3⟩
  have := h2.2 hf
  subst this
  exact ⟨rfl, h3 rfl, h1⟩

theorem puts_long {n₀ bp : Nat} {vs : Value} {l x : List UInt8} {f : FuncId} {args : Array Value} {w : World} (h : Calls Tryd.prog f args w fun e w' => Puts n₀ bp vs l x w e w') (hf : 4096 < l.length + x.length) :
    Calls Tryd.prog f args w fun e w' => e = .returned (.bool false) ∧ PStep n₀ bp w w' := by
  refine h.mono ?_
  rintro e w' ⟨b, rfl, h1, h2, h3⟩
  cases b with
  | false => exact ⟨rfl, h1⟩
  | true => exact absurd (h2.1 rfl) (by omega)

section
variable {w0 : World} {bp c : Nat} {p : Option Addr} {S : List Om} {d : Int} {g : Vl → List UInt8}

set_option maxRecDepth 20000 in
set_option maxHeartbeats 2000000 in
theorem items_of (HV : ValueC w0 bp c p S d g) (w : World) (l : List UInt8) (vs : List Vl) (qo : Option Addr) (co : Nat) (hv : Vals w0 qo vs) (hf : ∀ v ∈ vs, v.fits) (hB : Below w0.heap.size w0 w) (hp : IsPg w0.heap.size bp (.slice p S.length c) l w) (hl : l.length ≤ 4096) (hvl : vs.length ≤ 1048576) :
    Calls Tryd.prog 52 #[.pointer (some ⟨bp, 0, none⟩), .slice qo vs.length co, .int .i64 d] w fun e w' => Puts w0.heap.size bp (.slice p S.length c) l (itemsT g vs) w e w' := by
  have hsz := hB.size
  go_enter Tryd.func52, Tryd.ntmps52
  go_wp2
  go_loopw [11] (fun k wr => ∃ (pre rest : List Vl), k = .int .i64 pre.length ∧ Hid (vs = pre ++ rest) ∧ Hid (l.length + (itemsT g pre).length ≤ 4096) ∧ Hid (IsPg w0.heap.size bp (.slice p S.length c) (l ++ itemsT g pre) wr) ∧ Hid (PStep w0.heap.size bp w wr)) (fun k _ => vs.length - (intOf k).toNat)
  case atStart => exact ⟨[], vs, rfl, rfl, hid (by simpa [itemsT] using hl), hid (by simpa [itemsT] using hp), PStep.refl _ _ _⟩
  case round =>
    obtain ⟨pre, rest, rfl, HR, HL, HP, HS⟩ := hrel
    have hBr : Below w0.heap.size w0 wr := hB.trans HS.out.bel
    have hszr := hBr.size
    cases rest with
    | nil =>
      have hR' : vs = pre := by simpa using HR.out
      have hq : ¬ ((pre.length : Int) < (vs.length : Int)) := by rw [hR']; omega
      have hfin : Puts w0.heap.size bp (.slice p S.length c) l (itemsT g vs) w (.returned (.bool true)) wr := by
        rw [hR']
        exact ⟨true, rfl, HS.out, by simp; exact HL.out, fun _ => HP.out⟩
      have HF : Hid _ := hfin
      clear hR' hfin
      go_wp2
      go_ret
      exact HF.out
    | cons v rest =>
      have hR := HR.out
      have hvm : v ∈ vs := by rw [hR]; simp
      have hlR : pre.length < vs.length := by rw [hR]; simp
      have hlR' : (pre.length : Int) < (vs.length : Int) := by omega
      obtain ⟨b0, off, rfl, c0, c1⟩ := (hv.below hBr) pre.length v (by rw [hR]; simp)
      have e2 : (((pre ++ [v]).length : Nat) : Int) = pre.length + 1 := by simp
      have hle := itemsT_append_le g (pre ++ [v]) rest
      rw [show pre ++ [v] ++ rest = vs by rw [hR]; simp, itemsT_snoc, List.length_append, List.length_append] at hle
      have HLe : Hid _ := hle
      clear hR hle
      have hA := below1 wr (.cells #[.int .u8 v.k, .int .i64 v.n] 26)
      have hA1 := heap_alloc_new wr (.cells #[.int .u8 v.k, .int .i64 v.n] 26)
      have hnA : w0.heap.size ≤ (wr.alloc (.cells #[.int .u8 v.k, .int .i64 v.n] 26)).heap.size := by simp; omega
      have hBA := hBr.trans (hA.mono hszr)
      have hPA := HP.out.below hA
      have hSA : PStep w0.heap.size bp w (wr.alloc (.cells #[.int .u8 v.k, .int .i64 v.n] 26)) := HS.out.trans (PStep.of_below hA hszr)
      have hbpw : bp ≠ wr.heap.size := by have := HP.out.lt; omega
      obtain ⟨x0, x1⟩ := cell_rowV hA1
      -- the value is put, behind whatever was
      have HT := fun (W : World) (m : List UInt8) (hW : Below w0.heap.size w0 W) (h : IsPg w0.heap.size bp (.slice p S.length c) m W) (hm : m.length + (g v).length ≤ 4096) => puts_fit (HV W m v (hf v hvm) hW h (by omega)) hm
      have HTL := fun (W : World) (m : List UInt8) (hW : Below w0.heap.size w0 W) (h : IsPg w0.heap.size bp (.slice p S.length c) m W) (hm : m.length ≤ 4096) (hm2 : 4096 < m.length + (g v).length) => puts_long (HV W m v (hf v hvm) hW h hm) hm2
      by_cases h0 : pre.length = 0
      · have g0 : ¬ ((0 : Int) < (pre.length : Int)) := by omega
        have es := itemsT_snoc g pre v
        rw [if_pos h0] at es
        have ES : Hid _ := es
        have H0 : Hid _ := h0
        by_cases hfit : l.length + (itemsT g pre).length + (g v).length ≤ 4096
        · have HFit : Hid _ := hfit
          have hT := HT _ _ hBA hPA (by rw [List.length_append]; exact hfit)
          clear es h0 hfit HT HTL
          go_wp2_with (first
            | (go_at_call 19; refine hT.mono ?_; clear hT; rintro e w2 ⟨rfl, h3, h1⟩))
          go_roundw
          case rel =>
            refine ⟨pre ++ [v], rest, by rw [e2], hid (by have := HR.out; simpa using this), hid ?_, hid ?_, hid (hSA.trans h1)⟩
            · rw [ES.out]; simp; have := HFit.out; omega
            · rw [ES.out]; simpa using h3
          case measure => simp [intOf]; omega
        · have hT := HTL _ _ hBA hPA (by rw [List.length_append]; exact HL.out) (by rw [List.length_append]; omega)
          have hbig : 4096 < l.length + (itemsT g vs).length := by
            have q1 := HLe.out; rw [if_pos h0] at q1; simp at q1; omega
          have HFit : Hid _ := hbig
          clear es h0 hfit HT HTL hbig
          go_wp2_with (first
            | (go_at_call 19; refine hT.mono ?_; clear hT; rintro e w2 ⟨rfl, h1⟩))
          go_ret
          exact ⟨false, rfl, hSA.trans h1, no_fit HFit.out, (fun h => by cases h)⟩
      · have g0 : ((0 : Int) < (pre.length : Int)) := by omega
        have es := itemsT_snoc g pre v
        rw [if_neg h0] at es
        have ES : Hid _ := es
        have H0 : Hid _ := h0
        have hq1 := HLe.out
        rw [if_neg h0] at hq1
        simp only [sepT, List.length_cons, List.length_nil] at hq1
        by_cases hsep : l.length + (itemsT g pre).length + 2 ≤ 4096
        · have H2 := put_fits hPA hnA ⟨#[44, 32]⟩ (by rw [List.length_append]; exact hsep)
          by_cases hfit : l.length + (itemsT g pre).length + 2 + (g v).length ≤ 4096
          · have HFit : Hid _ := hfit
            have hT := fun (W : World) (hW : Below w0.heap.size w0 W) (h : IsPg w0.heap.size bp (.slice p S.length c) (l ++ itemsT g pre ++ (⟨#[44, 32]⟩ : ByteArray).data.toList) W) => HT W _ hW h (by simp; omega)
            clear es h0 hsep hfit HT HTL hq1
            go_wp2_with (first
              | (go_at_call 34; refine H2.mono ?_; clear H2; rintro e w1 ⟨rfl, k3, k1⟩; obtain ⟨y0, y1⟩ := cell_rowV ((k1.box _ _ _ _ hA1 (by decide) (Ne.symm hbpw)).trans hA1); have hW1 := hBA.trans k1.bel)
              | (go_at_call 19; refine (hT _ hW1 k3).mono ?_; clear hT; rintro e w2 ⟨rfl, h3, h1⟩))
            go_roundw
            case rel =>
              refine ⟨pre ++ [v], rest, by rw [e2], hid (by have := HR.out; simpa using this), hid ?_, hid ?_, hid ((hSA.trans k1).trans h1)⟩
              · rw [ES.out]; simp [sepT]; have := HFit.out; omega
              · rw [ES.out]; simpa [sepT] using h3
            case measure => simp [intOf]; omega
          · have hT := fun (W : World) (hW : Below w0.heap.size w0 W) (h : IsPg w0.heap.size bp (.slice p S.length c) (l ++ itemsT g pre ++ (⟨#[44, 32]⟩ : ByteArray).data.toList) W) => HTL W _ hW h (by simp; omega) (by simp; omega)
            have hbig : 4096 < l.length + (itemsT g vs).length := by omega
            have HFit : Hid _ := hbig
            clear es h0 hsep hfit HT HTL hq1 hbig
            go_wp2_with (first
              | (go_at_call 34; refine H2.mono ?_; clear H2; rintro e w1 ⟨rfl, k3, k1⟩; obtain ⟨y0, y1⟩ := cell_rowV ((k1.box _ _ _ _ hA1 (by decide) (Ne.symm hbpw)).trans hA1); have hW1 := hBA.trans k1.bel)
              | (go_at_call 19; refine (hT _ hW1 k3).mono ?_; clear hT; rintro e w2 ⟨rfl, h1⟩))
            go_ret
            exact ⟨false, rfl, (hSA.trans k1).trans h1, no_fit HFit.out, (fun h => by cases h)⟩
        · have H2 := put_long hPA ⟨#[44, 32]⟩ (by rw [List.length_append]; exact HL.out) (by decide) (by rw [List.length_append]; show 4096 < _ + 2; omega)
          have hbig : 4096 < l.length + (itemsT g vs).length := by omega
          have HFit : Hid _ := hbig
          clear es h0 hsep HT HTL hq1 hbig
          go_wp2_with (first
            | (go_at_call 34; refine H2.mono ?_; clear H2; rintro e w1 ⟨rfl, rfl⟩))
          go_ret
          exact ⟨false, rfl, hSA, no_fit HFit.out, (fun h => by cases h)⟩

end

end Go.Proofs.YtppjahnahomkeaaDoor
