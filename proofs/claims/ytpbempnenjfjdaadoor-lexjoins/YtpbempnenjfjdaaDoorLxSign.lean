/- Signs. -/
import Derived.Test.YtpbempnenjfjdaaDoorLxName
import Derived.Deep.MidRow
namespace Go.Proofs.YtpbempnenjfjdaaDoor
set_option linter.unusedVariables false
set_option linter.unusedSimpArgs false
open Go.RowKit

variable {w : World}

/-- The signs, as they lie. -/
def Sgn (w : World) : Prop := w.rangeAt 0 0 (sigs.map (fun p => Value.string (bs p)))

theorem Sgn.below {n : Nat} (h : Sgn w) {w' : World} (hB : Below n w w') (hn : 7 ≤ n) : Sgn w' := fun j v hj => (hB.cell (p := ⟨0, 0 + j, none⟩) (by dsimp only; omega)).trans (h j v hj)

theorem cutp_in (l p : List UInt8) (w : World) : Calls Tryd.prog 30 #[.string (bs l), .string (bs p)] w fun e w' => e = .returned (.tuple #[.string (bs (if p.isPrefixOf l = true then l.drop p.length else l)), .bool (p.isPrefixOf l)]) ∧ w' = w := by
  have := Tryd.strings_CutPrefix (bs l) (bs p) w
  rw [bs_list, bs_list] at this
  exact this

theorem infoSigs : (Tryd.prog.info? 53).map (·.size) = some (sigs.map (fun p => Value.string (bs p))).length := by kernel_rfl

theorem infoStr : (Tryd.prog.info? 9).map (·.size) = some 1 := by kernel_rfl

theorem run_index_row {P : Program} (w : World) {t e : TypeId} {n : Nat} {cs : Array Value} {k : IntKind} {j : Nat} {v : Value} (h : P.underlying t = some (.array n e)) (he : P.underlying e = some .string) (hs : (P.info? e).map (·.size) = some 1) (hj : j < n) (hv : cs[j]? = some v) :
    (Instr.index t (.agg cs) (.int k j)).run P w = .ok v w := by
  cases hq : P.info? e with
  | none => simp [hq] at hs
  | some i =>
    have hsz : i.size = 1 := by simpa [hq] using hs
    have hj' : (0 : Int) ≤ (j : Int) ∧ (j : Int) < (n : Int) := by omega
    simp [Instr.index, run_underlying h, asIntOf, hj, part, isAgg, run_underlying he, sizeOf, typeInfo, hq, hsz, hv, go_sem]

set_option maxRecDepth 20000 in
set_option maxHeartbeats 1000000 in
theorem sign_in {b : Nat} {l : List UInt8} {ln : Nat} (h : IsRd w b l ln) (hsg : Sgn w) (hw : 7 ≤ w.heap.size) (R : Option (Wd × List UInt8)) (hR : R = (signAt l).map (fun x => (⟨4, x.1, 0, 0⟩, x.2))) :
    Calls Tryd.prog 24 #[.pointer (some ⟨b, 0, none⟩)] w fun e w' => WRes R b ln w e w' := by
  have hA := below1 w (.cells #[.int .u8 0, .string ⟨#[]⟩, .int .i64 0, .int .i64 0] 30)
  have hz := heap_alloc_new w (.cells #[.int .u8 0, .string ⟨#[]⟩, .int .i64 0, .int .i64 0] 30)
  have h1 := h.below hA
  have hlt := h.lt
  have hst1 : Rst b w (w.alloc (.cells #[.int .u8 0, .string ⟨#[]⟩, .int .i64 0, .int .i64 0] 30)) := .of_below hA
  have hsg1 := hsg.below hA hw
  have hif := infoSigs
  unfold Sgn at hsg1
  obtain ⟨cs, hcs⟩ : ∃ cs, cs = sigs.map (fun p => Value.string (bs p)) := ⟨_, rfl⟩
  rw [← hcs] at hsg1 hif
  have hlen : cs.length = 21 := by rw [hcs]; rfl
  have HCS : Hid _ := hcs
  clear hcs
  have hlens : sigs.length = 21 := rfl
  obtain ⟨⟨c0, c1⟩, f0, f1⟩ := cell_row2 h1
  obtain ⟨⟨z0, z1, z2, z3⟩, y0, y1, y2, y3⟩ := cell_row4 hz
  have HR : Hid _ := hR
  clear hR
  go_enter Tryd.func24, Tryd.ntmps24
  go_wp2_with (first
    | (refine wpList_load_mid rfl 53 _ rfl 0 0 rfl cs _ hsg1 Tryd.underlying53 rfl hif ?_; clear hsg1 hif; generalize w.alloc (.cells #[.int .u8 0, .string ⟨#[]⟩, .int .i64 0, .int .i64 0] 30) = W1 at *))
  go_loopw [9] (fun k wr => ∃ j : Nat, k = .int .i64 j ∧ j ≤ 21 ∧ (∀ p ∈ sigs.take j, p.isPrefixOf l = false) ∧ wr = W1) (fun k _ => 21 - (intOf k).toNat)
  case atStart => exact ⟨0, rfl, by omega, by simp, rfl⟩
  case round =>
    obtain ⟨j, rfl, hj, hall, rfl⟩ := hrel
    have HA : Hid _ := hall
    clear hall
    by_cases hj21 : j < 21
    · have hj' : (j : Int) < 21 := by omega
      obtain ⟨p, hp⟩ : ∃ p, sigs[j]? = some p := ⟨sigs[j]'(by omega), by simp⟩
      have hix : cs[j]? = some (.string (bs p)) := by rw [HCS.out, List.getElem?_map, hp]; rfl
      have HP : Hid _ := hp
      clear hp
      have HC := cutp_in l p
      have hget : cs.toArray[j]? = some (.string (bs p)) := by simpa using hix
      have hrun := fun (W : World) => run_index_row (P := Tryd.prog) W (k := .i64) Tryd.underlying53 Tryd.underlying9 infoStr hj21 hget
      clear hix hget
      cases hpre : p.isPrefixOf l with
      | true =>
        rw [hpre] at HC
        simp only [if_true] at HC
        have hfind : sigs.find? (fun p => p.isPrefixOf l) = some p := by
          rw [List.find?_eq_some_iff_append]
          refine ⟨hpre, sigs.take j, sigs.drop (j + 1), ?_, fun a ha => by simp [HA.out a ha]⟩
          have hpj := (List.getElem?_eq_some_iff.1 HP.out).2
          rw [← hpj, List.getElem_cons_drop, List.take_append_drop]
        have hRs : R = some (⟨4, p, 0, 0⟩, l.drop p.length) := by rw [HR.out]; unfold signAt; rw [hfind]; rfl
        have HR2 : Hid _ := hRs
        have h2 := h1.rest (l.drop p.length)
        have hst2 := hst1.set (i := 0) (.string (bs (l.drop p.length)))
        have hz2 := (heap_setCell_other wr ⟨b, 0, none⟩ w.heap.size (.string (bs (l.drop p.length))) (by dsimp only; omega)).trans hz
        obtain ⟨⟨u0, u1, u2, u3⟩, v0, v1, v2, v3⟩ := cell_row4 hz2
        clear hfind hRs hpre
        go_wp2_with (first
          | (go_at_call 30; (with_reducible refine (HC _).mono ?_); rintro e w2 ⟨rfl, rfl⟩))
        (try simp only [Exit.inBlock, Exit.then])
        refine bodyPost_ret (results_row_tmp (by rfl) _ _ w.heap.size 30 #[.int .u8 4, .string (bs p), .int .i64 0, .int .i64 0] (0, 0) _ (by rfl) (set4_row hz2) Tryd.underlying30 (by rfl) infoWord) (by rfl) ?_
        refine ⟨4, bs p, 0, 0, true, l.drop p.length, rfl, hst2.set4 (Nat.le_refl _) _ _ _ _, (set4_other (by omega)).trans h2, ?_⟩
        rw [HR2.out]
        exact ⟨rfl, rfl, rfl, rfl, rfl, rfl⟩
      | false =>
        rw [hpre] at HC
        simp only [Bool.false_eq_true, if_false] at HC
        have HF : Hid _ := hpre
        clear hpre
        go_wp2_with (first
          | (go_at_call 30; (with_reducible refine (HC _).mono ?_); rintro e w2 ⟨rfl, rfl⟩))
        go_roundw
        case rel =>
          refine ⟨j + 1, by simp, by omega, ?_, by first | rfl | trivial⟩
          intro q hq
          rw [List.take_add_one, HP.out] at hq
          simp at hq
          rcases hq with hq | rfl
          · exact HA.out q hq
          · exact HF.out
        case measure => simp [intOf]; omega
    · have hj' : ¬ ((j : Int) < 21) := by omega
      have hnone : sigs.find? (fun p => p.isPrefixOf l) = none := by
        rw [List.find?_eq_none]
        intro p hp
        have := HA.out p (by rw [List.take_of_length_le (by omega)]; exact hp)
        simp [this]
      have hRn : R = none := by rw [HR.out]; unfold signAt; rw [hnone]; rfl
      have HR2 : Hid _ := hRn
      clear hnone hRn
      go_wp2
      refine bodyPost_ret (results_row_tmp (by rfl) _ _ w.heap.size 30 #[.int .u8 0, .string ⟨#[]⟩, .int .i64 0, .int .i64 0] (0, 0) _ (by rfl) (set4_row hz) Tryd.underlying30 (by rfl) infoWord) (by rfl) ?_
      exact ⟨0, ⟨#[]⟩, 0, 0, false, l, rfl, hst1.set4 (Nat.le_refl _) _ _ _ _, (set4_other (by omega)).trans h1, by rw [HR2.out]⟩

end Go.Proofs.YtpbempnenjfjdaaDoor
