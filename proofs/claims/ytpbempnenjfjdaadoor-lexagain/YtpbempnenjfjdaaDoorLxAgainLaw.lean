/- LexAgain: the walk. -/
import Derived.Test.YtpbempnenjfjdaaDoorLxTell
import Derived.Lib.BufferRead
namespace Go.Proofs.YtpbempnenjfjdaaDoor
set_option linter.unusedVariables false
set_option linter.unusedSimpArgs false
open Go.RowKit

variable {w : World}

set_option maxRecDepth 20000 in
set_option maxHeartbeats 1000000 in
/-- A text that has no words. -/
theorem again_none {sv : ByteArray} {n er : Int} (her : er ≠ 0) (h : Lx w) (HW : Calls Tryd.prog 6 #[.string sv] w fun e w' => e = .returned (.tuple #[.slice none 0 0, .int .i64 n, .int .i64 er]) ∧ Below w.heap.size w w') :
    Calls Tryd.prog 3 #[.string sv] w fun e w' => e = .returned (.bool true) ∧ Below w.heap.size w w' := by
  have HA := fun (W : World) (hB : Below w.heap.size w W) => alive_in (h.below hB)
  go_enter Tryd.func3, Tryd.ntmps3
  go_wp2_with (first
    | (go_at_call 6; (with_reducible refine HW.mono ?_); clear HW; rintro e w1 ⟨rfl, hB1⟩)
    | (go_at_call 7; (with_reducible refine (HA _ hB1).mono ?_); rintro e w2 ⟨rfl, hB2⟩; refine halt_here ?_))
  unfold Halted
  have hB2' : Below w.heap.size w w2 := hB1.trans (hB2.mono hB1.size)
  go_wp2_with (first
    | (go_at_call 7; (with_reducible refine (HA _ hB2').mono ?_); rintro e w3 ⟨rfl, hB3⟩))
  go_ret
  exact ⟨rfl, hB2'.trans (hB3.mono hB2'.size)⟩

theorem take_snoc {ws : List Wd} {j : Nat} {x : Wd} (h : ws[j]? = some x) : ws.take (j + 1) = ws.take j ++ [x] := by rw [List.take_add_one, h]; rfl

theorem pair_le {ws : List Wd} (h : ws.Pairwise (fun a b => a.line ≤ b.line)) {i : Nat} {x y : Wd} (hx : ws[i]? = some x) (hy : ws[i + 1]? = some y) : x.line ≤ y.line := by
  obtain ⟨h1, rfl⟩ := List.getElem?_eq_some_iff.1 hx
  obtain ⟨h2, rfl⟩ := List.getElem?_eq_some_iff.1 hy
  exact List.pairwise_iff_getElem.1 h i (i + 1) h1 h2 (by omega)

set_option maxRecDepth 20000 in
set_option maxHeartbeats 4000000 in
theorem again_ok {s : List UInt8} {ws : List Wd} (hl : s.length ≤ 65536) (hx : Lex s 0 (.ok ws)) (h : Lx w) :
    Calls Tryd.prog 3 #[.string (bs s)] w fun e w' => e = .returned (.bool true) ∧ Below w.heap.size w w' := by
  obtain ⟨i0, hi, hz0, hz1, hz2⟩ := infoB_parts infoU8
  have HA := fun (W : World) (hB : Below w.heap.size w W) => alive_in (h.below hB)
  have HW := words_ok hl hx h
  obtain ⟨hgood, hpair, hwl, hline⟩ := hx.good ws rfl
  have hlex := tell_lex (ws := ws) (fun x hx => (hgood x hx).1)
  clear hx
  generalize bs s = sv at *
  go_enter Tryd.func3, Tryd.ntmps3
  go_wp2_with (first
    | (go_at_call 6; (with_reducible refine HW.mono ?_); clear HW; rintro e w1 ⟨p, c, rfl, hws1, -, hB1⟩)
    | (go_at_call 7; (with_reducible refine (HA _ hB1).mono ?_); clear HA; rintro e w2 ⟨rfl, hB2⟩; have hB2' : Below w.heap.size w w2 := hB1.trans (hB2.mono hB1.size); have hws2 := hws1.below hB2; clear hws1))
  go_loopw [6, 7] (fun v k wr => ∃ j : Nat, k = .int .i64 j ∧ j ≤ ws.length ∧ wr.ownsRow w2.heap.size 5 1 v (tell (ws.take j)).length (Lib.byteCells (tell (ws.take j))) ∧ (tell (ws.take j)).length ≤ 65536 ∧ (j = 0 → v = .slice none 0 0) ∧ Below w2.heap.size w2 wr) (fun _ k _ => ws.length - (intOf k).toNat)
  case atStart => exact ⟨0, rfl, by omega, by simpa [tell, Lib.byteCells] using World.ownsRow_nil _ _ _ _, by simp [tell], fun _ => rfl, Below.refl _ _⟩
  case round =>
    obtain ⟨j, rfl, hj, hrow, hrl, hv0, hB⟩ := hrel
    have hsz := hB.size
    by_cases hjl : j < ws.length
    · have hjl' : (j : Int) < (ws.length : Int) := by omega
      obtain ⟨x, hxj⟩ : ∃ x, ws[j]? = some x := ⟨ws[j], by simp⟩
      have hxo := (hgood x (List.mem_of_getElem? hxj)).1
      have htl := told_len hxo
      have HT := told_in hxo
      have htk := take_snoc hxj
      have hwr := hws2.below hB
      obtain ⟨b0, off, rfl, d0, d1, d2, d3⟩ := hwr j x hxj
      have hst : (bs (toldW x)).size = (toldW x).length := bs_size _
      have hcc := fun (W : World) => conv_cells W (toldW x)
      have hone : ∀ u ∈ Lib.byteCells (toldW x), u.oneCell' = true := by
        intro u hu
        simp only [Lib.byteCells, List.mem_map] at hu
        obtain ⟨b, -, rfl⟩ := hu
        rfl
      have hbl : (Lib.byteCells (toldW x)).length = (toldW x).length * 1 := by simp [Lib.byteCells]
      cases j with
      | zero =>
        have hv := hv0 rfl
        subst hv
        have hfin : tell (ws.take (0 + 1)) = toldW x := by rw [htk]; exact tell_one x
        have HF : Hid _ := hfin
        have hns : ¬ ((65536 : Int) < ((toldW x).length : Int)) := by omega
        simp only [Nat.zero_mul, Nat.add_zero, Nat.zero_add] at d0 d1 d2 d3
        clear hrow hrl hv0 htk hfin hxj hlex hgood hpair hline hws2
        generalize hbt : bs (toldW x) = bt at *
        generalize toldW x = t at *
        go_wp2_with (first
          | (go_at_call 8; (with_reducible refine (HT _).mono ?_); clear HT; rintro e w3 ⟨rfl, hB3⟩; have hcv := Lib.run_convert_string_bytes (P := Tryd.prog) w3 9 27 5 bt Tryd.underlying9 Tryd.underlying27 Tryd.underlying5; have hbw := Lib.bytesWorld_below w3 5 bt; have hsw := hbw.size)
          | (at_builtin; (refine wpList_append_own _ rfl _ _ 27 rfl w2.heap.size 5 i0 (.int .u8 0) 1 1 Tryd.underlying27 hi hz0 hz1 hz2 rfl (by decide) (.slice none 0 0) 0 [] rfl (World.ownsRow_nil _ _ _ _) ⟨w3.heap.size, 0, none⟩ t.length _ (Lib.byteCells t) rfl hbl (hcc w3) hone (by unfold maxLen; omega) (by omega) (by have := hB3.size; omega) ?_); intro v4 w4 hown4 hgrow4 _; obtain ⟨p4, c4, rfl, -⟩ := row_form hown4))
        go_roundw
        case rel =>
          have hb3s := hB3.size
          refine ⟨0 + 1, by simp, by omega, ?_, ?_, fun e => by omega, (hB.trans (hB3.mono hsz)).trans ((hbw.mono (by omega)).trans (rbelow_grown hgrow4 (fun q e => by cases e) (by omega)))⟩
          · rw [HF.out]
            have := hown4
            simp only [Nat.zero_add, List.nil_append] at this
            exact this
          · rw [HF.out]; omega
        case measure => simp [intOf]; omega
      | succ i =>
        obtain ⟨y, hyi⟩ : ∃ y, ws[i]? = some y := ⟨ws[i], by simp⟩
        have hyx := pair_le hpair hyi hxj
        have hyx' : ¬ ((x.line : Int) < (y.line : Int)) := by omega
        have hne : ws.take (i + 1) ≠ [] := fun e => by
          have := congrArg List.length e
          simp only [List.length_take, List.length_nil] at this
          omega
        have hfin : tell (ws.take (i + 1 + 1)) = (tell (ws.take (i + 1)) ++ [32]) ++ toldW x := by rw [htk]; exact tell_snoc hne x
        have HF : Hid _ := hfin
        have hwsb := hws2
        have HWS : Hid _ := And.intro hxj hyi
        have hpos : (0 : Int) < (i : Int) + 1 := by omega
        clear htk hfin hv0 hne hyi hxj hlex hgood hpair hline
        generalize hLL : tell (ws.take (i + 1)) = L at *
        generalize hbt : bs (toldW x) = bt at *
        generalize htt : toldW x = t at *
        clear hLL
        go_wp2_with (first
          | (at_builtin; (refine wpList_append_own _ rfl _ _ 27 rfl w2.heap.size 5 i0 (.int .u8 0) 1 1 Tryd.underlying27 hi hz0 hz1 hz2 rfl (by decide) _ L.length (Lib.byteCells L) rfl (hrow.alloc _) ⟨wr.heap.size, 0, none⟩ 1 1 [.int .u8 32] rfl rfl (World.news_of_block (cs := #[.int .u8 32]) (t := 5) (fr := (0, 0)) (heap_alloc_new wr _)) (by simp [Value.oneCell']) (by unfold maxLen; omega) (by omega) (by simp; omega) ?_); intro vb wb hownb hgrowb _; refine halt_here ?_))
        unfold Halted
        have hBb : Below w2.heap.size w2 wb := ((below1 wr _).mono hsz |> hB.trans).trans (rbelow_grown hgrowb (fun q e => (hrow.lt q e).1) (by simp; omega))
        have hownb' : wb.ownsRow w2.heap.size 5 1 vb (L ++ [32]).length (Lib.byteCells (L ++ [32])) := row_bytes (x := [32]) (by simpa [Lib.byteCells] using hownb)
        have hszb := hBb.size
        obtain ⟨hxj, hyi⟩ := HWS.out
        obtain ⟨b1, off1, e1, d0, d1, d2, d3⟩ := (hws2.below hBb) (i + 1) x hxj
        obtain ⟨b2, off2, e2, g0, g1, g2, g3⟩ := (hws2.below hBb) i y hyi
        cases e1
        cases e2
        have hML : (L ++ [32]).length = L.length + 1 := by simp
        clear hxj hyi HWS hgrowb hownb hrow hws2 hwsb hwr
        go_wp2
        go_region
        all_goals
          by_cases hbig : 65536 < L.length + 1 + t.length
          · have hbig' : (65536 : Int) < (L.length : Int) + 1 + (t.length : Int) := by omega
            go_wp2_with (first
              | (go_at_call 8; (with_reducible refine (HT _).mono ?_); clear HT; rintro e w3 ⟨rfl, hB3⟩; have hcv := Lib.run_convert_string_bytes (P := Tryd.prog) w3 9 27 5 bt Tryd.underlying9 Tryd.underlying27 Tryd.underlying5; have hbw := Lib.bytesWorld_below w3 5 bt; have hsw := hbw.size)
              | (at_builtin; (refine wpList_append_own _ rfl _ _ 27 rfl w2.heap.size 5 i0 (.int .u8 0) 1 1 Tryd.underlying27 hi hz0 hz1 hz2 rfl (by decide) _ (L.length + 1) (Lib.byteCells (L ++ [32])) rfl (row_below (row_below (w := wb.drew) (by rw [← hML]; exact hownb') hB3) hbw) ⟨w3.heap.size, 0, none⟩ t.length _ (Lib.byteCells t) rfl hbl (hcc w3) hone (by unfold maxLen; omega) (by omega) (by have : wb.heap.size ≤ w3.heap.size := hB3.size; omega) ?_); intro v4 w4 hown4 hgrow4 _; obtain ⟨p4, c4, rfl, -⟩ := row_form hown4))
            go_ret
            have hb3s : wb.heap.size ≤ w3.heap.size := hB3.size
            have hrowb : (Lib.bytesWorld w3 5 bt).ownsRow w2.heap.size 5 1 vb (L ++ [32]).length (Lib.byteCells (L ++ [32])) := row_below (row_below (w := wb.drew) hownb' hB3) hbw
            have hB4 : Below w2.heap.size w2 w4 := ((below_drew hBb).trans (hB3.mono hszb)).trans ((hbw.mono (by omega)).trans (rbelow_grown hgrow4 (fun q e => (hrowb.lt q e).1) (by omega)))
            exact ⟨rfl, hB2'.trans (hB4.mono hB2'.size)⟩
          · have hbig' : ¬ ((65536 : Int) < (L.length : Int) + 1 + (t.length : Int)) := by omega
            go_wp2_with (first
              | (go_at_call 8; (with_reducible refine (HT _).mono ?_); clear HT; rintro e w3 ⟨rfl, hB3⟩; have hcv := Lib.run_convert_string_bytes (P := Tryd.prog) w3 9 27 5 bt Tryd.underlying9 Tryd.underlying27 Tryd.underlying5; have hbw := Lib.bytesWorld_below w3 5 bt; have hsw := hbw.size)
              | (at_builtin; (refine wpList_append_own _ rfl _ _ 27 rfl w2.heap.size 5 i0 (.int .u8 0) 1 1 Tryd.underlying27 hi hz0 hz1 hz2 rfl (by decide) _ (L.length + 1) (Lib.byteCells (L ++ [32])) rfl (row_below (row_below (w := wb.drew) (by rw [← hML]; exact hownb') hB3) hbw) ⟨w3.heap.size, 0, none⟩ t.length _ (Lib.byteCells t) rfl hbl (hcc w3) hone (by unfold maxLen; omega) (by omega) (by have : wb.heap.size ≤ w3.heap.size := hB3.size; omega) ?_); intro v4 w4 hown4 hgrow4 _; obtain ⟨p4, c4, rfl, -⟩ := row_form hown4))
            go_roundw
            case rel =>
              have hb3s : wb.heap.size ≤ w3.heap.size := hB3.size
              have hrowb : (Lib.bytesWorld w3 5 bt).ownsRow w2.heap.size 5 1 vb (L ++ [32]).length (Lib.byteCells (L ++ [32])) := row_below (row_below (w := wb.drew) hownb' hB3) hbw
              refine ⟨i + 1 + 1, by simp, by omega, ?_, ?_, fun e => by omega, ((below_drew hBb).trans (hB3.mono hszb)).trans ((hbw.mono (by omega)).trans (rbelow_grown hgrow4 (fun q e => (hrowb.lt q e).1) (by omega)))⟩
              · rw [HF.out]
                refine row_bytes ?_
                rw [hML]
                exact hown4
              · rw [HF.out]; simp; omega
            case measure => simp [intOf]; omega
    · have hjl' : ¬ ((j : Int) < (ws.length : Int)) := by omega
      have e : ws.take j = ws := List.take_of_length_le (by omega)
      rw [e] at hrow hrl
      clear e
      -- what is written is read again
      have hBw : Below w.heap.size w wr := hB2'.trans (hB.mono hB2'.size)
      have HW2 := fun (W : World) (hBx : Below w.heap.size w W) => words_ok (w := W) (l := tell ws) hrl hlex (h.below hBx)
      have hml : (ws.map l0).length = ws.length := by simp
      have hwso := hws2.below hB
      obtain ⟨wo, hwo⟩ : ∃ x, x = wr := ⟨_, rfl⟩
      subst hwo
      rw [hml] at HW2
      have hcase : (∃ c, (convert 27 9 (.slice none 0 0)).run Tryd.prog wo = .ok (.string (bs (tell ws))) wo ∧ c = 0) ∨ tell ws ≠ [] := by
        by_cases ht : tell ws = []
        · left
          refine ⟨0, ?_, rfl⟩
          rw [ht]
          exact Lib.run_convert_nil_bytes (P := Tryd.prog) wo 27 9 5 0 Tryd.underlying27 Tryd.underlying5 Tryd.underlying9
        · exact .inr ht
      rcases hrow.2 with ⟨hv, hn0⟩ | ⟨g, cap, cur, hv, -⟩
      · subst hv
        have hcv : (convert 27 9 (.slice none 0 0)).run Tryd.prog wo = .ok (.string (bs (tell ws))) wo := by
          rcases hcase with ⟨_, h1, _⟩ | h1
          · exact h1
          · exact absurd (List.eq_nil_of_length_eq_zero hn0) h1
        clear hcase hrow hv0 hn0
        generalize bs (tell ws) = bt at hcv HW2
        go_wp2_with (first
          | (go_at_call 6; (with_reducible refine (HW2 _ hBw).mono ?_); clear HW2; rintro e w5 ⟨q, cq, rfl, hwq, -, hB5⟩; have hws5 := hwso.below hB5; have hB5' : Below w.heap.size w w5 := hBw.trans (hB5.mono hBw.size); clear hwso hcv))
        go_loopw [11] (fun k wx => ∃ j : Nat, k = .int .i64 j ∧ j ≤ ws.length ∧ Below w5.heap.size w5 wx) (fun k _ => ws.length - (intOf k).toNat)
        case atStart => exact ⟨0, rfl, by omega, Below.refl _ _⟩
        case round =>
          obtain ⟨j2, rfl, hj2, hBx⟩ := hrel
          have hBf : Below w.heap.size w wr := hB5'.trans (hBx.mono hB5'.size)
          by_cases hjl2 : j2 < ws.length
          · have hjl2' : (j2 : Int) < (ws.length : Int) := by omega
            obtain ⟨x, hxj⟩ : ∃ x, ws[j2]? = some x := ⟨ws[j2], by simp⟩
            have hxm : (ws.map l0)[j2]? = some (l0 x) := by rw [List.getElem?_map, hxj]; rfl
            have hA := below1 wr (.cells #[.int .u8 x.k, .string (bs x.s), .int .i64 x.n, .int .i64 0] 30)
            have hbx := heap_alloc_new wr (.cells #[.int .u8 x.k, .string (bs x.s), .int .i64 x.n, .int .i64 0] 30)
            obtain ⟨⟨z0, z1, z2, z3⟩, -⟩ := cell_row4 hbx
            obtain ⟨b0, off, e0, d0, d1, d2, d3⟩ := (hws5.below hBx) j2 x hxj
            obtain ⟨b1, off1, e1, g0, g1, g2, g3⟩ := ((hwq.below hBx).below hA) j2 (l0 x) hxm
            subst e0
            subst e1
            simp only [l0] at g0 g1 g2 g3
            have hBA : Below w5.heap.size w5 (wr.alloc (.cells #[.int .u8 x.k, .string (bs x.s), .int .i64 x.n, .int .i64 0] 30)) := hBx.trans (hA.mono hBx.size)
            clear hbx hxj hxm
            go_wp2
            go_region
            all_goals
              go_wp2
              go_roundw
              case rel => exact ⟨j2 + 1, by simp, by omega, below_drew hBA⟩
              case measure => simp [intOf]; omega
          · have hjl2' : ¬ ((j2 : Int) < (ws.length : Int)) := by omega
            go_wp2
            go_ret
            exact ⟨rfl, hBf⟩
      · subst hv
        have hcv := back_bytes (n := 0) hrow
        clear hcase hv0
        generalize bs (tell ws) = bt at hcv HW2
        go_wp2_with (first
          | (go_at_call 6; (with_reducible refine (HW2 _ hBw).mono ?_); clear HW2; rintro e w5 ⟨q, cq, rfl, hwq, -, hB5⟩; have hws5 := hwso.below hB5; have hB5' : Below w.heap.size w w5 := hBw.trans (hB5.mono hBw.size); clear hwso hcv))
        go_loopw [11] (fun k wx => ∃ j : Nat, k = .int .i64 j ∧ j ≤ ws.length ∧ Below w5.heap.size w5 wx) (fun k _ => ws.length - (intOf k).toNat)
        case atStart => exact ⟨0, rfl, by omega, Below.refl _ _⟩
        case round =>
          obtain ⟨j2, rfl, hj2, hBx⟩ := hrel
          have hBf : Below w.heap.size w wr := hB5'.trans (hBx.mono hB5'.size)
          by_cases hjl2 : j2 < ws.length
          · have hjl2' : (j2 : Int) < (ws.length : Int) := by omega
            obtain ⟨x, hxj⟩ : ∃ x, ws[j2]? = some x := ⟨ws[j2], by simp⟩
            have hxm : (ws.map l0)[j2]? = some (l0 x) := by rw [List.getElem?_map, hxj]; rfl
            have hA := below1 wr (.cells #[.int .u8 x.k, .string (bs x.s), .int .i64 x.n, .int .i64 0] 30)
            have hbx := heap_alloc_new wr (.cells #[.int .u8 x.k, .string (bs x.s), .int .i64 x.n, .int .i64 0] 30)
            obtain ⟨⟨z0, z1, z2, z3⟩, -⟩ := cell_row4 hbx
            obtain ⟨b0, off, e0, d0, d1, d2, d3⟩ := (hws5.below hBx) j2 x hxj
            obtain ⟨b1, off1, e1, g0, g1, g2, g3⟩ := ((hwq.below hBx).below hA) j2 (l0 x) hxm
            subst e0
            subst e1
            simp only [l0] at g0 g1 g2 g3
            have hBA : Below w5.heap.size w5 (wr.alloc (.cells #[.int .u8 x.k, .string (bs x.s), .int .i64 x.n, .int .i64 0] 30)) := hBx.trans (hA.mono hBx.size)
            clear hbx hxj hxm
            go_wp2
            go_region
            all_goals
              go_wp2
              go_roundw
              case rel => exact ⟨j2 + 1, by simp, by omega, below_drew hBA⟩
              case measure => simp [intOf]; omega
          · have hjl2' : ¬ ((j2 : Int) < (ws.length : Int)) := by omega
            go_wp2
            go_ret
            exact ⟨rfl, hBf⟩

theorem lexAgain_walk (s : List UInt8) (hs : s.length ≤ 140737488355328) (h : Lx w) :
    Calls Tryd.prog 3 #[.string (bs s)] w fun e w' => e = .returned (.bool true) ∧ Below w.heap.size w w' := by
  by_cases hl : s.length ≤ 65536
  · refine (fun hx => ?_) (words_in (w := w) s hl h.errs h.sgn h.size)
    obtain ⟨rs, hrs⟩ := lex_total s 0
    cases rs with
    | error n => exact again_none (n := n) (er := 4) (by decide) h (words_bad hl hrs h)
    | ok ws => exact again_ok hl hrs h
  · refine again_none (n := 0) (er := 3) (by decide) h ((words_long s (by omega) hs).mono ?_)
    rintro e w' ⟨rfl, rfl⟩
    exact ⟨rfl, Below.refl _ _⟩

end Go.Proofs.YtpbempnenjfjdaaDoor
