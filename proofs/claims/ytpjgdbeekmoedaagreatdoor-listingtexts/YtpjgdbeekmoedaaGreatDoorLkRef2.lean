/- The document's words, numbers and instructions. -/
import Derived.Test.YtpjgdbeekmoedaaGreatDoorLkOk
import Derived.Test.YtpjgdbeekmoedaaGreatDoorLkDigits
import Derived.Deep.RegionWith
namespace Go.Proofs.YtpjgdbeekmoedaaGreatDoor
set_option linter.unusedVariables false
set_option linter.unusedSimpArgs false
open Go.RowKit

namespace Lk

variable {w : World}

theorem row_ofB {α : Type} {f : α → List Value} {k : Nat} (hf : ∀ x, (f x).length = k) {W : World} {g : Nat} {t : TypeId} {l : List α} (h : W.heap[g]? = some (.cells (rowC f l).toArray t (0, 0))) : RowAt f k W (some ⟨g, 0, none⟩) l := by
  intro j x hj
  refine ⟨g, 0, rfl, (Array.getElem?_eq_some_iff.1 h).1, fun i u hu => ?_⟩
  have hi : i < k := by rw [← hf x]; exact (List.getElem?_eq_some_iff.1 hu).1
  rw [Nat.zero_add, cell_of_row W g _ _ _ _ h]
  have := rowC_get hf l j x [] hj i hi
  rw [List.append_nil] at this
  simp only [List.getElem?_toArray]
  rw [this]; exact hu

theorem strC_len (x : List UInt8) : (strC x).length = 1 := rfl

set_option maxRecDepth 20000 in
set_option maxHeartbeats 2000000 in
theorem rwords_in (w : World) : Calls Tryz.prog 207 #[] w fun e w' => ∃ g, e = .returned (.slice (some ⟨g, 0, none⟩) 30 30) ∧ RowAt strC 1 w' (some ⟨g, 0, none⟩) (opsL.tail) ∧ Below w.heap.size w w' := by
  have hr : RowAt strC 1 (w.alloc (.cells #[.string ⟨#[99, 111, 110, 115, 116]⟩, .string ⟨#[110, 105, 108]⟩, .string ⟨#[121, 101, 115]⟩, .string ⟨#[110, 111]⟩, .string ⟨#[108, 111, 97, 100]⟩, .string ⟨#[115, 116, 111, 114, 101]⟩, .string ⟨#[99, 101, 108, 108]⟩, .string ⟨#[99, 101, 108, 108, 108, 111, 97, 100]⟩, .string ⟨#[99, 101, 108, 108, 115, 116, 111, 114, 101]⟩, .string ⟨#[117, 112]⟩, .string ⟨#[117, 112, 115, 116, 111, 114, 101]⟩, .string ⟨#[112, 111, 112]⟩, .string ⟨#[100, 117, 112]⟩, .string ⟨#[98, 105, 110]⟩, .string ⟨#[110, 111, 116]⟩, .string ⟨#[110, 101, 103]⟩, .string ⟨#[108, 101, 110]⟩, .string ⟨#[115, 104, 111, 119]⟩, .string ⟨#[106, 117, 109, 112]⟩, .string ⟨#[117, 110, 108, 101, 115, 115]⟩, .string ⟨#[108, 111, 111, 112]⟩, .string ⟨#[108, 105, 115, 116]⟩, .string ⟨#[109, 97, 112]⟩, .string ⟨#[103, 101, 116]⟩, .string ⟨#[112, 117, 116]⟩, .string ⟨#[102, 110]⟩, .string ⟨#[99, 97, 108, 108]⟩, .string ⟨#[114, 101, 116, 117, 114, 110]⟩, .string ⟨#[116, 104, 114, 111, 119]⟩, .string ⟨#[112, 114, 105, 110, 116]⟩] 9)) (some ⟨w.heap.size, 0, none⟩) (opsL.tail) := row_ofB strC_len (t := 9) (heap_alloc_new w _)
  have hb := below1 w (.cells #[.string ⟨#[99, 111, 110, 115, 116]⟩, .string ⟨#[110, 105, 108]⟩, .string ⟨#[121, 101, 115]⟩, .string ⟨#[110, 111]⟩, .string ⟨#[108, 111, 97, 100]⟩, .string ⟨#[115, 116, 111, 114, 101]⟩, .string ⟨#[99, 101, 108, 108]⟩, .string ⟨#[99, 101, 108, 108, 108, 111, 97, 100]⟩, .string ⟨#[99, 101, 108, 108, 115, 116, 111, 114, 101]⟩, .string ⟨#[117, 112]⟩, .string ⟨#[117, 112, 115, 116, 111, 114, 101]⟩, .string ⟨#[112, 111, 112]⟩, .string ⟨#[100, 117, 112]⟩, .string ⟨#[98, 105, 110]⟩, .string ⟨#[110, 111, 116]⟩, .string ⟨#[110, 101, 103]⟩, .string ⟨#[108, 101, 110]⟩, .string ⟨#[115, 104, 111, 119]⟩, .string ⟨#[106, 117, 109, 112]⟩, .string ⟨#[117, 110, 108, 101, 115, 115]⟩, .string ⟨#[108, 111, 111, 112]⟩, .string ⟨#[108, 105, 115, 116]⟩, .string ⟨#[109, 97, 112]⟩, .string ⟨#[103, 101, 116]⟩, .string ⟨#[112, 117, 116]⟩, .string ⟨#[102, 110]⟩, .string ⟨#[99, 97, 108, 108]⟩, .string ⟨#[114, 101, 116, 117, 114, 110]⟩, .string ⟨#[116, 104, 114, 111, 119]⟩, .string ⟨#[112, 114, 105, 110, 116]⟩] 9)
  go_enter Tryz.func207, Tryz.ntmps207
  go_wp2
  go_ret
  exact ⟨_, rfl, hr, hb⟩

set_option maxRecDepth 20000 in
set_option maxHeartbeats 2000000 in
theorem rbins_in (w : World) : Calls Tryz.prog 208 #[] w fun e w' => ∃ g, e = .returned (.slice (some ⟨g, 0, none⟩) 9 9) ∧ RowAt strC 1 w' (some ⟨g, 0, none⟩) (binsL.tail) ∧ Below w.heap.size w w' := by
  have hr : RowAt strC 1 (w.alloc (.cells #[.string ⟨#[97, 100, 100]⟩, .string ⟨#[115, 117, 98]⟩, .string ⟨#[109, 117, 108]⟩, .string ⟨#[100, 105, 118]⟩, .string ⟨#[109, 111, 100]⟩, .string ⟨#[108, 101, 115, 115]⟩, .string ⟨#[109, 111, 115, 116]⟩, .string ⟨#[115, 97, 109, 101]⟩, .string ⟨#[117, 110, 108, 105, 107, 101]⟩] 9)) (some ⟨w.heap.size, 0, none⟩) (binsL.tail) := row_ofB strC_len (t := 9) (heap_alloc_new w _)
  have hb := below1 w (.cells #[.string ⟨#[97, 100, 100]⟩, .string ⟨#[115, 117, 98]⟩, .string ⟨#[109, 117, 108]⟩, .string ⟨#[100, 105, 118]⟩, .string ⟨#[109, 111, 100]⟩, .string ⟨#[108, 101, 115, 115]⟩, .string ⟨#[109, 111, 115, 116]⟩, .string ⟨#[115, 97, 109, 101]⟩, .string ⟨#[117, 110, 108, 105, 107, 101]⟩] 9)
  go_enter Tryz.func208, Tryz.ntmps208
  go_wp2
  go_ret
  exact ⟨_, rfl, hr, hb⟩

set_option maxHeartbeats 4000000 in
theorem numbered_in (op : Nat) (ho : op < 256) (w : World) : Calls Tryz.prog 209 #[.int .u8 op] w fun e w' => e = .returned (.bool (numb op)) ∧ w' = w := by
  by_cases hn : op = 1 ∨ op = 5 ∨ op = 6 ∨ op = 7 ∨ op = 8 ∨ op = 9 ∨ op = 10 ∨ op = 11 ∨ op = 19 ∨ op = 20 ∨ op = 21 ∨ op = 22 ∨ op = 23 ∨ op = 26 ∨ op = 27
  · rcases hn with rfl | rfl | rfl | rfl | rfl | rfl | rfl | rfl | rfl | rfl | rfl | rfl | rfl | rfl | rfl
    all_goals
      go_enter Tryz.func209, Tryz.ntmps209
      go_wp2
      go_ret
      exact ⟨rfl, rfl⟩
  · have e : numb op = false := by unfold numb; simp; omega
    rw [e]
    have n1 : ((op : Int) == 1) = false := by simp; omega
    have n5 : ((op : Int) == 5) = false := by simp; omega
    have n6 : ((op : Int) == 6) = false := by simp; omega
    have n7 : ((op : Int) == 7) = false := by simp; omega
    have n8 : ((op : Int) == 8) = false := by simp; omega
    have n9 : ((op : Int) == 9) = false := by simp; omega
    have n10 : ((op : Int) == 10) = false := by simp; omega
    have n11 : ((op : Int) == 11) = false := by simp; omega
    have n19 : ((op : Int) == 19) = false := by simp; omega
    have n20 : ((op : Int) == 20) = false := by simp; omega
    have n21 : ((op : Int) == 21) = false := by simp; omega
    have n22 : ((op : Int) == 22) = false := by simp; omega
    have n23 : ((op : Int) == 23) = false := by simp; omega
    have n26 : ((op : Int) == 26) = false := by simp; omega
    have n27 : ((op : Int) == 27) = false := by simp; omega
    clear e hn
    go_enter Tryz.func209, Tryz.ntmps209
    go_wp2
    go_ret
    exact ⟨rfl, rfl⟩

theorem rdigits_in (n : Int) (h : I64 n) (w : World) : Calls Tryz.prog 159 #[.int .i64 n] w fun e w' => e = .returned (.string (bs (Lib.itoa n))) ∧ Below w.heap.size w w' := by
  have H := Ld.rDigits_in n h.1 h.2 w
  go_enter Tryz.func159, Tryz.ntmps159
  go_wp2_with (first
    | (go_at_call 160; (with_reducible refine H.mono ?_); clear H; rintro e w1 ⟨rfl, hB1⟩))
  go_ret
  exact ⟨rfl, hB1⟩

theorem word_at {g : Nat} {w' : World} (h : RowAt strC 1 w' (some ⟨g, 0, none⟩) opsL.tail) {op : Nat} (h0 : 0 < op) (ho : op < 31) : w'.cell? ⟨g, op - 1, none⟩ = some (.string (bs (opsL.getD op []))) := by
  have h31 : op - 1 < opsL.tail.length := by have : opsL.tail.length = 30 := rfl; omega
  have e : opsL.tail[op - 1]? = some (opsL.getD op []) := by
    have : ∀ k : Fin 30, opsL.tail[k.1]? = some (opsL.getD (k.1 + 1) []) := by decide
    have := this ⟨op - 1, by omega⟩
    simpa [show op - 1 + 1 = op by omega] using this
  obtain ⟨b0, off, e1, h1⟩ := h.look (Below.refl _ _) e
  simp only [Option.some.injEq, Addr.mk.injEq] at e1
  obtain ⟨rfl, rfl, _⟩ := e1
  have := h1 0 _ rfl
  simpa using this

theorem bin_at {g : Nat} {w' : World} (h : RowAt strC 1 w' (some ⟨g, 0, none⟩) binsL.tail) {op : Nat} (h0 : 0 < op) (ho : op < 10) : w'.cell? ⟨g, op - 1, none⟩ = some (.string (bs (binsL.getD op []))) := by
  have h31 : op - 1 < binsL.tail.length := by have : binsL.tail.length = 9 := rfl; omega
  have e : binsL.tail[op - 1]? = some (binsL.getD op []) := by
    have : ∀ k : Fin 9, binsL.tail[k.1]? = some (binsL.getD (k.1 + 1) []) := by decide
    have := this ⟨op - 1, by omega⟩
    simpa [show op - 1 + 1 = op by omega] using this
  obtain ⟨b0, off, e1, h1⟩ := h.look (Below.refl _ _) e
  simp only [Option.some.injEq, Addr.mk.injEq] at e1
  obtain ⟨rfl, rfl, _⟩ := e1
  have := h1 0 _ rfl
  simpa using this

end Lk

end Go.Proofs.YtpjgdbeekmoedaaGreatDoor

namespace Go.Proofs.YtpjgdbeekmoedaaGreatDoor
set_option linter.unusedVariables false
set_option linter.unusedSimpArgs false
open Go.RowKit

namespace Lk

variable {w : World}

/-- An instruction's words. -/
def insW (i : In) : List UInt8 := if i.op = 14 then opsL.getD i.op [] ++ 32 :: binsL.getD i.a.toNat [] else if numb i.op then opsL.getD i.op [] ++ 32 :: Lib.itoa i.a else opsL.getD i.op []

set_option maxRecDepth 20000 in
set_option maxHeartbeats 4000000 in
theorem rins_in (ln : Int) (i : In) (h0 : 0 < i.op) (hok : InsOk ln i) (hb : i.op = 14 → 0 < i.a) (w : World) :
    Calls Tryz.prog 161 #[.agg #[.int .u8 i.op, .int .i64 i.a]] w fun e w' => e = .returned (.string (bs (insW i))) ∧ Below w.heap.size w w' := by
  obtain ⟨op, a⟩ := i
  simp only at h0 hb ⊢
  have ho := hok.op
  have ha := hok.a
  have hbn := hok.bin
  simp only at ho ha hbn
  obtain ⟨q, rfl⟩ : ∃ q, op = q + 1 := ⟨op - 1, by omega⟩
  have HN0 := fun (W : World) => numbered_in (q + 1) (by omega) W
  have HE : Hid (insW ⟨q + 1, a⟩ = if q + 1 = 14 then opsL.getD (q + 1) [] ++ 32 :: binsL.getD a.toNat [] else if numb (q + 1) then opsL.getD (q + 1) [] ++ 32 :: Lib.itoa a else opsL.getD (q + 1) []) := rfl
  have HW := fun (W : World) => (rwords_in W).mono (R' := fun e w' => ∃ g, e = .returned (.slice (some ⟨g, 0, none⟩) 30 30) ∧ w'.cell? ⟨g, q, none⟩ = some (.string (bs (opsL.getD (q + 1) []))) ∧ Below W.heap.size W w') (fun e w' hh => by
    obtain ⟨g, h1, h2, h3⟩ := hh
    have cw := word_at h2 h0 ho
    rw [show q + 1 - 1 = q by omega] at cw
    exact ⟨g, h1, cw, h3⟩)
  have hsl := opsL_len (q + 1)
  generalize opsL.getD (q + 1) [] = so at *
  have hz1 : (bs so).size ≤ 9 := by rw [bs_size]; exact hsl
  have hz2 : (bs so ++ ⟨#[32]⟩).size ≤ 10 := by rw [ByteArray.size_append, bs_size]; show so.length + 1 ≤ 10; omega
  clear hsl
  have hq30 : (q : Int) < 30 := by omega
  have hw1 : IntKind.u8.wrap ((q : Int) + 1 - 1) = (q : Int) := by rw [IntKind.wrap_u8]; omega
  have hw3 : IntKind.u8.wrap (q : Int) = (q : Int) := by rw [IntKind.wrap_u8]; omega
  have HD := fun (W : World) => rdigits_in a ha W
  have hz4 : (bs (Lib.itoa a)).size ≤ 21 := by rw [bs_size]; exact Lib.itoa_length_le a ha.1 ha.2
  generalize insW ⟨q + 1, a⟩ = res at *
  by_cases h14 : q + 1 = 14
  · obtain rfl : q = 13 := by omega
    obtain ⟨A, rfl⟩ : ∃ A : Nat, a = (A : Int) + 1 := ⟨(a - 1).toNat, by have := hb rfl; omega⟩
    have hA := hbn rfl
    have hA9 : (A : Int) < 9 := by omega
    have hwA : IntKind.i64.wrap ((A : Int) + 1 - 1) = (A : Int) := by rw [IntKind.wrap_i64]; omega
    have hwA2 : IntKind.i64.wrap (A : Int) = (A : Int) := by rw [IntKind.wrap_i64]; omega
    have hA0 : (0 : Int) ≤ (A : Int) := by omega
    have hAn : ¬ ((A : Int) < 0) := by omega
    have hAn9 : A < 9 := by omega
    have HB := fun (W : World) => (rbins_in W).mono (R' := fun e w' => ∃ g, e = .returned (.slice (some ⟨g, 0, none⟩) 9 9) ∧ w'.cell? ⟨g, A, none⟩ = some (.string (bs (binsL.getD (A + 1) []))) ∧ Below W.heap.size W w') (fun e w' hh => by
      obtain ⟨g, h1, h2, h3⟩ := hh
      have cw := bin_at h2 (op := A + 1) (by omega) (by omega)
      rw [show A + 1 - 1 = A by omega] at cw
      exact ⟨g, h1, cw, h3⟩)
    have HE2 : Hid (res = so ++ 32 :: binsL.getD (A + 1) []) := by
      have e := HE.out
      rw [if_pos rfl, show ((A : Int) + 1).toNat = A + 1 by omega] at e
      exact e
    have hbl := binsL_len (A + 1)
    generalize binsL.getD (A + 1) [] = sb at *
    have hz3 : (bs sb).size ≤ 9 := by rw [bs_size]; exact hbl
    clear hbl
    simp only [show ((13 : Nat) : Int) = 13 from rfl, show ((13 + 1 : Nat) : Int) = 14 from rfl] at *
    have hB1 := below1 w (.cells #[.int .u8 14, .int .i64 (A + 1)] 120)
    have hnew := heap_alloc_new w (.cells #[.int .u8 14, .int .i64 (A + 1)] 120)
    obtain ⟨⟨d0, d1⟩, -⟩ := cell_row2 hnew
    clear HE h14 hbn hb hok HN0 HD ha hw1 hw3 h0 ho hA
    go_enter Tryz.func161, Tryz.ntmps161
    go_wp2
    go_region_with (first
      | (go_at_call 207; refine (HW _).mono ?_; rintro e w1 ⟨g, rfl, cw, hB2⟩; have k1 := (hB2.block w.heap.size (by simp)).trans hnew; obtain ⟨⟨e0, e1⟩, -⟩ := cell_row2 k1; have hl1 : w.heap.size < w1.heap.size := (Array.getElem?_eq_some_iff.1 k1).1; have hC1 : Below w.heap.size w w1 := by first | exact hB1.trans (hB2.mono hB1.size) | exact (below_drew hB1).trans (hB2.mono hB1.size)))
    all_goals
      go_wp2
      go_region_with (first
        | (go_at_call 208; refine (HB _).mono ?_; rintro e w2 ⟨g2, rfl, cw2, hB3⟩; have k2 := (hB3.block w.heap.size hl1).trans k1; obtain ⟨⟨z0, z1⟩, -⟩ := cell_row2 k2; have hC2 : Below w.heap.size w w2 := by first | exact hC1.trans (hB3.mono hC1.size) | exact (below_drew hC1).trans (hB3.mono hC1.size)))
      all_goals
        go_wp2
        go_ret
        refine ⟨?_, by first | exact hC2 | exact below_drew hC2⟩
        rw [HE2.out]
        show Ending.returned (.string (bs so ++ bs [32] ++ bs sb)) = _
        rw [bs_app, bs_app]
        simp
  have hB1 := below1 w (.cells #[.int .u8 (q + 1), .int .i64 a] 120)
  have hnew := heap_alloc_new w (.cells #[.int .u8 (q + 1), .int .i64 a] 120)
  obtain ⟨⟨d0, d1⟩, -⟩ := cell_row2 hnew
  have h14' : ((q : Int) + 1 == 14) = false := by rw [beq_eq_false_iff_ne]; omega
  simp only [Int.natCast_add, show ((1 : Nat) : Int) = 1 from rfl] at HN0 ⊢
  by_cases hnb : numb (q + 1) = true
  · have HE2 : Hid (res = so ++ 32 :: Lib.itoa a) := by have e := HE.out; rw [if_neg h14, if_pos hnb] at e; exact e
    rw [hnb] at HN0
    clear HE h14 hbn hb hok hnb h0 ho
    go_enter Tryz.func161, Tryz.ntmps161
    go_wp2
    go_region_with (first
      | (go_at_call 207; refine (HW _).mono ?_; rintro e w1 ⟨g, rfl, cw, hB2⟩; have k1 := (hB2.block w.heap.size (by simp)).trans hnew; obtain ⟨⟨e0, e1⟩, -⟩ := cell_row2 k1; have hl1 : w.heap.size < w1.heap.size := (Array.getElem?_eq_some_iff.1 k1).1; have hC1 : Below w.heap.size w w1 := by first | exact hB1.trans (hB2.mono hB1.size) | exact (below_drew hB1).trans (hB2.mono hB1.size)))
    all_goals
      go_wp2_with (first
        | (go_at_call 209; refine (HN0 _).mono ?_; rintro e w2 ⟨rfl, rfl⟩)
        | (go_at_call 159; refine (HD _).mono ?_; rintro e w3 ⟨rfl, hB3⟩))
      go_ret
      refine ⟨?_, hC1.trans (hB3.mono hC1.size)⟩
      rw [HE2.out]
      show Ending.returned (.string (bs so ++ bs [32] ++ bs (Lib.itoa a))) = _
      rw [bs_app, bs_app]
      simp
  · have HE2 : Hid (res = so) := by have e := HE.out; rw [if_neg h14, if_neg hnb] at e; exact e
    rw [Bool.not_eq_true] at hnb
    rw [hnb] at HN0
    clear HE h14 hbn hb hok hnb h0 ho
    go_enter Tryz.func161, Tryz.ntmps161
    go_wp2
    go_region_with (first
      | (go_at_call 207; refine (HW _).mono ?_; rintro e w1 ⟨g, rfl, cw, hB2⟩; have k1 := (hB2.block w.heap.size (by simp)).trans hnew; obtain ⟨⟨e0, e1⟩, -⟩ := cell_row2 k1; have hl1 : w.heap.size < w1.heap.size := (Array.getElem?_eq_some_iff.1 k1).1; have hC1 : Below w.heap.size w w1 := by first | exact hB1.trans (hB2.mono hB1.size) | exact (below_drew hB1).trans (hB2.mono hB1.size)))
    all_goals
      go_wp2_with (first
        | (go_at_call 209; refine (HN0 _).mono ?_; rintro e w2 ⟨rfl, rfl⟩))
      go_ret
      rw [HE2.out]
      exact ⟨rfl, by first | exact hC1 | exact below_drew hC1⟩

end Lk

end Go.Proofs.YtpjgdbeekmoedaaGreatDoor
