/- The word that begins at a place. -/
import Derived.Test.YtpbempnenjfjdaaGreatDoorLxText
namespace Go.Proofs.YtpbempnenjfjdaaGreatDoor
set_option linter.unusedVariables false
set_option linter.unusedSimpArgs false
open Go.RowKit

variable {w : World}

def textR (r : List UInt8) : Option (Wd × List UInt8) :=
  match textAt r with
  | some (s, z) => if s.length ≤ 4096 then some (⟨3, s, 0, 0⟩, z) else none
  | none => none

theorem pre34 (y : List UInt8) : ([34] : List UInt8).isPrefixOf y = decide (y.head? = some 34) := by
  cases y with
  | nil => rfl
  | cons c r =>
    rw [Bool.eq_iff_iff]
    simp [List.isPrefixOf]
    exact ⟨fun h => h.symm, fun h => h.symm⟩

theorem textR_eq (r : List UInt8) : textR r = if ([34] : List UInt8).isPrefixOf (inside false r).2 = true then (match unesc (inside false r).1 with | some s => if s.length ≤ 4096 then some (⟨3, s, 0, 0⟩, (inside false r).2.drop 1) else none | none => none) else none := by
  unfold textR
  rw [textAt_eq, pre34]
  by_cases h : (inside false r).2.head? = some 34
  · rw [if_pos h, if_pos (by simpa using h)]
    cases unesc (inside false r).1 with
    | none => rfl
    | some s => simp
  · rw [if_neg h, if_neg (by simpa using h)]

theorem cut34_in (l : List UInt8) (w : World) : Calls Tryz.prog 135 #[.string (bs l), .string ⟨#[34]⟩] w fun e w' => e = .returned (.tuple #[.string (bs (if ([34] : List UInt8).isPrefixOf l = true then l.drop 1 else l)), .bool (([34] : List UInt8).isPrefixOf l)]) ∧ w' = w := cutp_in l [34] w

/-- Memory as it was, but for these blocks. -/
theorem rst_of {b be : Nat} {w W w' : World} (h : Rst b w W) (hbe : w.heap.size ≤ be) (hx : w'.os = W.os ∧ w'.tape = W.tape ∧ w'.output = W.output ∧ w'.heap.size = W.heap.size ∧ ∀ k, k ≠ b → k ≠ be → w'.heap[k]? = W.heap[k]?) : Rst b w w' :=
  ⟨hx.1.trans h.os, hx.2.1.trans h.tape, hx.2.2.1.trans h.output, by rw [hx.2.2.2.1]; exact h.size, fun k hk hb => (hx.2.2.2.2 k hb (by omega)).trans (h.block k hk hb)⟩

set_option maxRecDepth 20000 in
set_option maxHeartbeats 1000000 in
theorem text_in {b : Nat} {r : List UInt8} {ln : Nat} (h : IsRd w b (34 :: r) ln) (hl : (34 :: r : List UInt8).length ≤ 65536) (R : Option (Wd × List UInt8)) (hR : R = textR r) :
    Calls Tryz.prog 82 #[.pointer (some ⟨b, 0, none⟩)] w fun e w' => WRes R b ln w e w' := by
  have hlt := h.lt
  have hA := below1 w (.cells #[.int .u8 0, .string ⟨#[]⟩, .int .i64 0, .int .i64 0] 56)
  have h1 := h.below hA
  have hb0 : (bs (34 :: r)).size = r.length + 1 := by rw [bs_size]; simp
  have hsl : (bs (34 :: r)).extract 1 (r.length + 1) = bs r := by
    have := bs_from (34 :: r) 1
    simpa using this
  obtain ⟨⟨c0, c1⟩, f0, f1⟩ := cell_row2 h1
  obtain ⟨⟨c0', c1'⟩, f0', f1'⟩ := cell_row2 h
  have hrl : r.length ≤ 65535 := by simp at hl; omega
  have hVs : (w.setCell ⟨b, 0, none⟩ (.string (bs r))).heap.size = w.heap.size := by simp [World.setCell]
  have h2 : IsRd (((w.setCell ⟨b, 0, none⟩ (.string (bs r))).alloc (.cells #[.int .u8 0, .string ⟨#[]⟩, .int .i64 0, .int .i64 0] 56)).alloc (.cells #[.bool false] 4)) b r ln := (h.rest r).below (below2' _ _ _)
  have hst2 : Rst b w (((w.setCell ⟨b, 0, none⟩ (.string (bs r))).alloc (.cells #[.int .u8 0, .string ⟨#[]⟩, .int .i64 0, .int .i64 0] 56)).alloc (.cells #[.bool false] 4)) := (((Rst.refl b w).set _).alloc _).alloc _
  have hz2 : (((w.setCell ⟨b, 0, none⟩ (.string (bs r))).alloc (.cells #[.int .u8 0, .string ⟨#[]⟩, .int .i64 0, .int .i64 0] 56)).alloc (.cells #[.bool false] 4)).heap[w.heap.size]? = some (.cells #[.int .u8 0, .string ⟨#[]⟩, .int .i64 0, .int .i64 0] 56 (0, 0)) := by
    have := heap_alloc_new (w.setCell ⟨b, 0, none⟩ (.string (bs r))) (.cells #[.int .u8 0, .string ⟨#[]⟩, .int .i64 0, .int .i64 0] 56)
    rw [hVs] at this
    exact (Below.heap_alloc _ _ _ (by simp [World.setCell])).trans this
  have hbe2 : (((w.setCell ⟨b, 0, none⟩ (.string (bs r))).alloc (.cells #[.int .u8 0, .string ⟨#[]⟩, .int .i64 0, .int .i64 0] 56)).alloc (.cells #[.bool false] 4)).heap[w.heap.size + 1]? = some (.cells #[.bool false] 4 (0, 0)) := by
    have := heap_two (w.setCell ⟨b, 0, none⟩ (.string (bs r))) (.cells #[.int .u8 0, .string ⟨#[]⟩, .int .i64 0, .int .i64 0] 56) (.cells #[.bool false] 4)
    rw [hVs] at this
    exact this
  have H1 := eatT_in h2 (by omega) hbe2 (by omega)
  have hap := ins_app false r
  have hxl : (inside false r).1.length ≤ 65535 := by have := congrArg List.length hap; simp at this; omega
  rw [textR_eq] at hR
  generalize hxx : (inside false r).1 = x at *
  generalize hyy : (inside false r).2 = y at *
  have HR : Hid _ := hR
  clear hR hap hxx hyy hVs hbe2
  generalize hE : ([34] : List UInt8).isPrefixOf y = E at *
  have H2 := cut34_in y
  rw [hE] at H2
  generalize hy2 : (if E = true then y.drop 1 else y) = y2 at *
  have HY : Hid _ := hy2
  have H3 := unescape_in x (by omega)
  clear hE hy2
  go_enter Tryz.func82, Tryz.ntmps82
  go_wp2_with (first
    | (go_at_call 73; (with_reducible refine H1.mono ?_); clear H1; rintro e w3 ⟨rfl, h3, hfr3⟩; have hst3 := rst_of hst2 (by omega) hfr3; have hz3 := (hfr3.2.2.2.2 w.heap.size (by omega) (by omega)).trans hz2; obtain ⟨⟨d0, d1⟩, g0, g1⟩ := cell_row2 h3; clear hfr3 h2 hst2 hz2 c0 c1 f0 f1 c0' c1' f0' f1' h1 hb0 hsl)
    | (go_at_call 135; (with_reducible refine (H2 _).mono ?_); clear H2; rintro e w4 ⟨rfl, rfl⟩; have h5 := h3.rest y2; have hst5 := hst3.set (i := 0) (.string (bs y2)); have hz5 := (heap_setCell_other w4 ⟨b, 0, none⟩ w.heap.size (.string (bs y2)) (by dsimp only; omega)).trans hz3)
    | (go_at_call 136; (with_reducible refine (H3 _).mono ?_); clear H3; rintro e w6 ⟨t, okU, rfl, hB6, hok, hts⟩; have HT : Hid _ := And.intro hok hts; clear hok hts; have h6 := h5.below hB6; have hst6 := hst5.trans (.of_below hB6); have hz6 := (hB6.block _ (Array.getElem?_eq_some_iff.1 hz5).1).trans hz5; obtain ⟨⟨k0, k1, k2, k3⟩, m0, m1, m2, m3⟩ := cell_row4 hz6; refine halt_here ?_))
  unfold Halted
  have fin : ∀ (ok : Bool), (ok = (E && okU && decide (t.size ≤ 4096))) → WRes R b ln w (.returned (.tuple #[.agg #[.int .u8 3, .string t, .int .i64 0, .int .i64 0], .bool ok])) (set4 w6 w.heap.size (.int .u8 3) (.string t) (.int .i64 0) (.int .i64 0)) := fun ok hk => by
    refine ⟨3, t, 0, 0, ok, y2, rfl, hst6.set4 (Nat.le_refl _) _ _ _ _, (set4_other (by omega)).trans h6, ?_⟩
    obtain ⟨hok, hts⟩ := HT.out
    rw [HR.out]
    cases E with
    | false => simpa using hk
    | true =>
      have hy := HY.out
      simp only [if_true] at hy ⊢
      cases hu : unesc x with
      | none =>
        rw [hu] at hok
        simp at hok
        simp [hk, hok]
      | some s =>
        have et := hts s hu
        rw [hu] at hok
        simp at hok
        have hs4 : t.size = s.length := by rw [et, bs_size]
        rw [hs4, hok] at hk
        by_cases h4 : s.length ≤ 4096
        · simp only [if_pos h4]
          exact ⟨by simp [hk, h4], hy.symm, by simp [et]⟩
        · simp only [if_neg h4]
          simp [hk, h4]
  have HFIN : Hid _ := fin
  clear fin
  cases E with
  | false =>
    go_wp2
    refine bodyPost_ret (results_row_tmp (by rfl) _ _ w.heap.size 56 #[.int .u8 3, .string t, .int .i64 0, .int .i64 0] (0, 0) _ (by rfl) (set4_row hz6) Tryz.underlying56 (by rfl) infoWord) (by rfl) ?_
    exact HFIN.out false rfl
  | true =>
    cases okU with
    | false =>
      go_wp2
      refine bodyPost_ret (results_row_tmp (by rfl) _ _ w.heap.size 56 #[.int .u8 3, .string t, .int .i64 0, .int .i64 0] (0, 0) _ (by rfl) (set4_row hz6) Tryz.underlying56 (by rfl) infoWord) (by rfl) ?_
      exact HFIN.out false rfl
    | true =>
      go_wp2
      refine bodyPost_ret (results_row_tmp (by rfl) _ _ w.heap.size 56 #[.int .u8 3, .string t, .int .i64 0, .int .i64 0] (0, 0) _ (by rfl) (set4_row hz6) Tryz.underlying56 (by rfl) infoWord) (by rfl) ?_
      exact HFIN.out (decide ((t.size : Int) ≤ 4096)) (by rw [Bool.eq_iff_iff]; simp; omega)

theorem wordAt_text {r : List UInt8} : wordAt (34 :: r) = textR r := by
  have h1 : isL 34 = false := by decide
  have h2 : isD 34 = false := by decide
  rw [wordAt, if_neg (by simp [h1]), if_neg (by simp [h2]), if_pos rfl]
  rfl

theorem wordAt_sign {c : UInt8} {r : List UInt8} (h1 : isL c = false) (h2 : isD c = false) (h3 : c ≠ 34) : wordAt (c :: r) = (signAt (c :: r)).map (fun x => (⟨4, x.1, 0, 0⟩, x.2)) := by
  rw [wordAt, if_neg (by simp [h1]), if_neg (by simp [h2]), if_neg h3]

/-- What is handed on by a store into a new cell. -/
theorem WRes.on {R : Option (Wd × List UInt8)} {b ln g : Nat} {w W w' : World} {k : Int} {s : ByteArray} {n m : Int} {ok : Bool} {l' : List UInt8} (hst : Rst b w W) (hg : w.heap.size ≤ g) (hgb : b ≠ g) (hs : Rst b W w') (hr : IsRd w' b l' ln)
    (hm : match R with | none => ok = false | some (wd, z) => ok = true ∧ l' = z ∧ k = (wd.k : Int) ∧ s = bs wd.s ∧ n = wd.n ∧ m = 0) :
    WRes R b ln w (.returned (.tuple #[.agg #[.int .u8 k, .string s, .int .i64 n, .int .i64 m], .bool ok])) (set4 w' g (.int .u8 k) (.string s) (.int .i64 n) (.int .i64 m)) :=
  ⟨k, s, n, m, ok, l', rfl, (hst.trans hs).set4 hg _ _ _ _, (set4_other hgb).trans hr, hm⟩

set_option maxRecDepth 20000 in
set_option maxHeartbeats 1000000 in
theorem word_in {b : Nat} {c : UInt8} {r : List UInt8} {ln : Nat} (h : IsRd w b (c :: r) ln) (hl : (c :: r).length ≤ 65536) (he : Errs w) (hsg : Sgn w) (hb7 : 7 ≤ b) (R : Option (Wd × List UInt8)) (hR : R = wordAt (c :: r)) :
    Calls Tryz.prog 10 #[.pointer (some ⟨b, 0, none⟩)] w fun e w' => WRes R b ln w e w' := by
  have hlt := h.lt
  have hA := below1 w (.cells #[.int .u8 0, .string ⟨#[]⟩, .int .i64 0, .int .i64 0] 56)
  have hz := heap_alloc_new w (.cells #[.int .u8 0, .string ⟨#[]⟩, .int .i64 0, .int .i64 0] 56)
  have h1 := h.below hA
  have he1 := he.below hA (by omega)
  have hsg1 := hsg.below hA (by omega)
  have hst1 : Rst b w (w.alloc (.cells #[.int .u8 0, .string ⟨#[]⟩, .int .i64 0, .int .i64 0] 56)) := .of_below hA
  have hzl : w.heap.size < (w.alloc (.cells #[.int .u8 0, .string ⟨#[]⟩, .int .i64 0, .int .i64 0] 56)).heap.size := by simp
  have hb0 : (bs (c :: r)).size = r.length + 1 := by rw [bs_size]; simp
  have hg0 : (bs (c :: r))[0]'(by omega) = c := by
    have := bs_get (l := c :: r) (j := 0) (by omega)
    simpa using this.symm
  obtain ⟨⟨c0, c1⟩, f0, f1⟩ := cell_row2 h1
  have HL := isLetter_in c
  have HD := isDigit_in c
  have hw7 : 7 ≤ (w.alloc (.cells #[.int .u8 0, .string ⟨#[]⟩, .int .i64 0, .int .i64 0] 56)).heap.size := by simp; omega
  have hR0 : Hid _ := hR
  clear hR
  -- which way
  have hway : ∃ F : Nat, (F = 79 ∧ isL c = true ∨ F = 81 ∧ isL c = false ∧ isD c = true ∨ F = 82 ∧ isL c = false ∧ isD c = false ∧ c = 34 ∨ F = 83 ∧ isL c = false ∧ isD c = false ∧ c ≠ 34) ∧
      Calls Tryz.prog F #[.pointer (some ⟨b, 0, none⟩)] (w.alloc (.cells #[.int .u8 0, .string ⟨#[]⟩, .int .i64 0, .int .i64 0] 56)) fun e w' => WRes R b ln (w.alloc (.cells #[.int .u8 0, .string ⟨#[]⟩, .int .i64 0, .int .i64 0] 56)) e w' := by
    have hR := hR0.out
    cases hL : isL c with
    | true => exact ⟨_, .inl ⟨rfl, rfl⟩, name_in h1 hl R (by rw [hR, wordAt_name hL])⟩
    | false =>
      cases hD : isD c with
      | true => exact ⟨_, .inr (.inl ⟨rfl, rfl, rfl⟩), number_in h1 hl he1 hb7 (by simp [isN, hD]) R (by rw [hR, wordAt_num hL hD])⟩
      | false =>
        by_cases h34 : c = 34
        · subst h34
          exact ⟨_, .inr (.inr (.inl ⟨rfl, rfl, rfl, rfl⟩)), text_in h1 hl R (by rw [hR, wordAt_text])⟩
        · exact ⟨_, .inr (.inr (.inr ⟨rfl, rfl, rfl, h34⟩)), sign_in h1 hsg1 hw7 R (by rw [hR, wordAt_sign hL hD h34])⟩
  obtain ⟨F, hF, HC⟩ := hway
  clear he1 hsg1 hw7
  go_enter Tryz.func10, Tryz.ntmps10
  rcases hF with ⟨rfl, hL⟩ | ⟨rfl, hL, hD⟩ | ⟨rfl, hL, hD, h34⟩ | ⟨rfl, hL, hD, h34⟩
  · rw [hL] at HL
    go_wp2_with (first
      | (go_at_call 78; (with_reducible refine (HL _).mono ?_); rintro e w2 ⟨rfl, rfl⟩)
      | (go_at_call 79; (with_reducible refine HC.mono ?_); clear HC; rintro e w3 ⟨k, s, n, m, ok, l', rfl, hs3, hr3, hm⟩; have HM : Hid _ := hm; clear hm; have hz3 := (hs3.block w.heap.size hzl (by omega)).trans hz; obtain ⟨⟨k0, k1, k2, k3⟩, m0, m1, m2, m3⟩ := cell_row4 hz3))
    refine bodyPost_ret (results_row_tmp (by rfl) _ _ w.heap.size 56 #[.int .u8 k, .string s, .int .i64 n, .int .i64 m] (0, 0) _ (by rfl) (set4_row hz3) Tryz.underlying56 (by rfl) infoWord) (by rfl) ?_
    exact WRes.on hst1 (Nat.le_refl _) (by omega) hs3 hr3 HM.out
  · rw [hL] at HL
    rw [hD] at HD
    go_wp2_with (first
      | (go_at_call 78; (with_reducible refine (HL _).mono ?_); rintro e w2 ⟨rfl, rfl⟩)
      | (go_at_call 80; (with_reducible refine (HD _).mono ?_); rintro e w2 ⟨rfl, rfl⟩)
      | (go_at_call 81; (with_reducible refine HC.mono ?_); clear HC; rintro e w3 ⟨k, s, n, m, ok, l', rfl, hs3, hr3, hm⟩; have HM : Hid _ := hm; clear hm; have hz3 := (hs3.block w.heap.size hzl (by omega)).trans hz; obtain ⟨⟨k0, k1, k2, k3⟩, m0, m1, m2, m3⟩ := cell_row4 hz3))
    refine bodyPost_ret (results_row_tmp (by rfl) _ _ w.heap.size 56 #[.int .u8 k, .string s, .int .i64 n, .int .i64 m] (0, 0) _ (by rfl) (set4_row hz3) Tryz.underlying56 (by rfl) infoWord) (by rfl) ?_
    exact WRes.on hst1 (Nat.le_refl _) (by omega) hs3 hr3 HM.out
  · rw [hL] at HL
    rw [hD] at HD
    have q34 : ((c.toNat : Nat) : Int) = 34 := by have := eq34.1 h34; omega
    clear h34
    rw [q34] at HL HD
    go_wp2_with (first
      | (go_at_call 78; (with_reducible refine (HL _).mono ?_); rintro e w2 ⟨rfl, rfl⟩)
      | (go_at_call 80; (with_reducible refine (HD _).mono ?_); rintro e w2 ⟨rfl, rfl⟩)
      | (go_at_call 82; (with_reducible refine HC.mono ?_); clear HC; rintro e w3 ⟨k, s, n, m, ok, l', rfl, hs3, hr3, hm⟩; have HM : Hid _ := hm; clear hm; have hz3 := (hs3.block w.heap.size hzl (by omega)).trans hz; obtain ⟨⟨k0, k1, k2, k3⟩, m0, m1, m2, m3⟩ := cell_row4 hz3))
    refine bodyPost_ret (results_row_tmp (by rfl) _ _ w.heap.size 56 #[.int .u8 k, .string s, .int .i64 n, .int .i64 m] (0, 0) _ (by rfl) (set4_row hz3) Tryz.underlying56 (by rfl) infoWord) (by rfl) ?_
    exact WRes.on hst1 (Nat.le_refl _) (by omega) hs3 hr3 HM.out
  · rw [hL] at HL
    rw [hD] at HD
    have q34 : ¬ (((c.toNat : Nat) : Int) = 34) := fun h => h34 (eq34.2 (by omega))
    clear h34
    go_wp2_with (first
      | (go_at_call 78; (with_reducible refine (HL _).mono ?_); rintro e w2 ⟨rfl, rfl⟩)
      | (go_at_call 80; (with_reducible refine (HD _).mono ?_); rintro e w2 ⟨rfl, rfl⟩)
      | (go_at_call 83; (with_reducible refine HC.mono ?_); clear HC; rintro e w3 ⟨k, s, n, m, ok, l', rfl, hs3, hr3, hm⟩; have HM : Hid _ := hm; clear hm; have hz3 := (hs3.block w.heap.size hzl (by omega)).trans hz; obtain ⟨⟨k0, k1, k2, k3⟩, m0, m1, m2, m3⟩ := cell_row4 hz3))
    refine bodyPost_ret (results_row_tmp (by rfl) _ _ w.heap.size 56 #[.int .u8 k, .string s, .int .i64 n, .int .i64 m] (0, 0) _ (by rfl) (set4_row hz3) Tryz.underlying56 (by rfl) infoWord) (by rfl) ?_
    exact WRes.on hst1 (Nat.le_refl _) (by omega) hs3 hr3 HM.out

end Go.Proofs.YtpbempnenjfjdaaGreatDoor
