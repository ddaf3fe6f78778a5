/- The document's Collect. -/
import Derived.Test.YtampilfebmfhaaaGreatDoorRcEnd
import Derived.Test.YtampilfebmfhaaaGreatDoorGcCollect
import Derived.Deep.RegionHeld3
import Derived.Deep.AppendLies
import Derived.BigRegion
import Derived.RegionTactic
namespace Go.Proofs.YtampilfebmfhaaaGreatDoor
set_option linter.unusedVariables false
set_option linter.unusedSimpArgs false
open Go.RowKit

variable {n₀ br all en : Nat} {vo : Value} {w : World} {R : List (Ob × Value)}

set_option maxRecDepth 20000 in
set_option maxHeartbeats 8000000 in
theorem rcollect_ok (h : IsRf n₀ br vo w all en R) (hs : Srt 0 (R.map Prod.fst)) (hend : ∀ o ∈ R.map Prod.fst, o.end_ ≤ 1048576) (h64 : ∀ x ∈ R, ∀ y ∈ x.1.ws, y < 18446744073709551616) {p : Option Addr} {vs : List Vl} (c : Nat) (hv : Vals w p vs) (hlen : vs.length ≤ 1000000) (hk8 : ∀ v ∈ vs, v.k < 256) (hmay : May (R.map Prod.fst) vs) :
    Calls Tryz.prog 15 #[.pointer (some ⟨br, 0, none⟩), .slice p vs.length c] w fun e w' => ∃ (v : Value), e = .returned (.tuple #[v, .int .i64 0]) ∧ ∃ (f : Ob → Bool), Reached (R.map Prod.fst) vs f ∧
      OwnVals w.heap.size v (vs.map (newRoot (dst 0 ((R.map Prod.fst).filter f)))) w' ∧ ∃ (vo' : Value) (Rn : List (Ob × Value)), Rn.map Prod.fst = fin (R.map Prod.fst) ((R.map Prod.fst).filter f) ∧ IsRq n₀ br vo' w' all (sumO ((R.map Prod.fst).filter f)) Rn ∧ KStep (fun k => k = br) w w' := by
  have H1 : Calls Tryz.prog 24 #[.pointer (some ⟨br, 0, none⟩), .slice p vs.length c] w fun e w' => e = .returned (.bool true) ∧ Below w.heap.size w w' := by
    refine (rroots_in h hs c hv hlen hk8).mono ?_
    rintro e w' ⟨⟨_, he⟩ | ⟨hn, _⟩, hB⟩
    · exact ⟨he, hB⟩
    · exact (hn hmay).elim
  have H2 := fun w' (hB : Below w.heap.size w w') => rreached_in (h.below hB) hs h64 c (hv.below hB) hlen
  have HM : Hid _ := hmay
  clear hmay
  have hle := h.le
  have hmk := makeInts R.length hle
  obtain ⟨po, co, rfl, _, _, hp⟩ := IsRf.row_some3 h.row
  go_enter Tryz.func15, Tryz.ntmps15
  go_wp2_with (first
    | (go_at_call 24; refine H1.mono ?_; clear H1; rintro e w1 ⟨rfl, hB1⟩)
    | (go_at_call 25; refine (H2 _ hB1).mono ?_; clear H2; rintro e w2 ⟨S, q, c2, hS, hSl, rfl, hrow, hB2⟩))
  obtain ⟨f, hf⟩ : ∃ f : Ob → Bool, f = fun o => S.getD (findR o.at_ R).toNat false := ⟨_, rfl⟩
  have hfx : ∀ (i : Nat) (x : Ob × Value), R[i]? = some x → S[i]? = some (f x.1) := by
    intro i x hx
    have hlt := (List.getElem?_eq_some_iff.1 hx).1
    rw [hf]
    simp only
    rw [findR_idx hs hx, List.getD, List.getElem?_eq_getElem (by omega)]
    simp
  have hK : Hid (Kp R vs f S) := by
    refine ⟨hs, ⟨HM.out, ?_⟩, hfx, hend⟩
    intro o ho
    obtain ⟨x, hx, rfl⟩ := List.mem_map.1 ho
    obtain ⟨i, hi⟩ := List.mem_iff_getElem?.1 hx
    rw [← hS i x hi, hfx i x hi]
    simp
  clear hf hS
  have hB := hB1.trans (hB2.mono hB1.size)
  obtain ⟨W0, hW0⟩ : ∃ W0, w2.alloc (.cells (madeCells #[.int .i64 0] R.length) 2) = W0 := ⟨_, rfl⟩
  have hB0 : Below w2.heap.size w2 W0 := hW0 ▸ below1 w2 _
  have ht0 : W0.ownsRow w2.heap.size 2 1 (.slice (some ⟨w2.heap.size, 0, none⟩) R.length R.length) R.length ((toRow (R.map Prod.fst) f S R.length 0).map pv) := by
    rw [toRow_zero]
    refine ⟨by simp, .inr ⟨w2.heap.size, R.length, madeCells #[.int .i64 0] R.length, by simp, Nat.le_refl _, hW0 ▸ heap_alloc_new w2 _, by simp, by unfold maxLen; omega, by simp [madeCells], ?_⟩⟩
    rw [madeCells_one]
    simp [pv]
  rw [hW0]
  clear hW0 hmk
  have hs2 := hB2.size
  have hBw : ∀ {wr : World}, Below w2.heap.size w2 wr → Below w.heap.size w wr := fun hB' => hB.trans (hB'.mono hB.size)
  go_loopw [8, 10] (fun t k wr => ∃ i : Nat, k = .int .i64 i ∧ i ≤ R.length ∧ t = .int .i64 (sumO (((R.map Prod.fst).take i).filter f) : Nat) ∧ wr.ownsRow w2.heap.size 2 1 (.slice (some ⟨w2.heap.size, 0, none⟩) R.length R.length) R.length ((toRow (R.map Prod.fst) f S R.length i).map pv) ∧ Below w2.heap.size w2 wr) (fun _ k _ => R.length - (intOf k).toNat)
  case atStart => exact ⟨0, rfl, by omega, by simp [sumO], ht0, hB0⟩
  case round =>
    obtain ⟨i, rfl, hiR, rfl, htor, hBr⟩ := hrel
    clear ht0 hB0
    by_cases hin : i < R.length
    · obtain ⟨x, hxi⟩ : ∃ x, R[i]? = some x := ⟨R[i], by simp [hin]⟩
      have hxm : x ∈ R := List.mem_of_getElem? hxi
      obtain ⟨gi, rfl⟩ := row_where hrow (by omega)
      have d1 : wr.cell? ⟨gi, i, none⟩ = some (.bool (f x.1)) := row_cell (IsRf.row_kept hrow (fun k e => hBr.block k (hrow.lt k e).2)) (by simp [hfx _ _ hxi]) (by omega)
      have hsum := hK.out.sum i
      have htk := take_filter (f := f) (M := R.map Prod.fst) (i := i) (o := x.1) (by simp [hxi])
      obtain ⟨sm, hsm⟩ : ∃ sm, sumO (((R.map Prod.fst).take i).filter f) = sm := ⟨_, rfl⟩
      have HT : Hid _ := And.intro hsm htk
      rw [hsm] at hsum ⊢
      have hwl := (h.bnd x hxm).2.1
      have HX : Hid _ := hxi
      clear hsm htk
      cases hfb : f x.1 with
      | true =>
        rw [hfb] at d1
        have HB : Hid _ := hfb
        obtain ⟨u, hu⟩ : ∃ u, (toRow (R.map Prod.fst) f S R.length i)[i]? = some u := ⟨_, List.getElem?_eq_getElem (by rw [toRow_len]; exact hin)⟩
        have d2 : wr.cell? ⟨w2.heap.size, i, none⟩ = some (.int .i64 u) := row_cell htor (by simp [hu, pv]) hin
        have hfr : wr.frozen? ⟨w2.heap.size, i, none⟩ = false := by
          obtain ⟨cur, hc'⟩ := row_obj htor (k := w2.heap.size) rfl
          exact frozen_of_row wr _ i _ _ hc'
        have hBs : Below w2.heap.size w2 (wr.setCell ⟨w2.heap.size, i, none⟩ (.int .i64 sm)) := hBr.setCell (Nat.le_refl _) _
        have hw := h.below (hBw hBs)
        have hcO := hw.c2
        obtain ⟨gO, rfl⟩ := hp (by omega)
        obtain ⟨o0, o1, o2⟩ := hw.elem hxi
        obtain ⟨hw1, hw2⟩ := hw.wrds x hxm
        obtain ⟨gw, cw, hxv⟩ := wform hw1 hw2
        rw [hxv] at o2
        have hst := (htor.stored i (.int .i64 sm)).1
        have HS : Hid _ := hst
        have HBs : Hid _ := hBs
        clear hfb hu hw1 hw2 hw hfx hxi htor hst hBs
        go_wp2
        go_roundw
        case rel =>
          obtain ⟨rfl, e2⟩ := HT.out
          refine ⟨i + 1, by simp, by omega, ?_, ?_, HBs.out⟩
          · have hb := HB.out
            rw [e2, if_pos hb, sumO_snoc]; simp; omega
          · have e3 : toN (R.map Prod.fst) f S i = sumO (((R.map Prod.fst).take i).filter f) := by
              have h1 := hK.out.is i x HX.out
              have hb := HB.out
              rw [hb] at h1
              unfold toN
              rw [List.getD_eq_getElem?_getD, h1]
              rfl
            rw [← toRow_step hin, e3, List.map_set]
            exact HS.out
        case measure => simp [intOf]; omega
      | false =>
        rw [hfb] at d1
        have HB : Hid _ := hfb
        clear hfb hxi
        go_wp2
        go_roundw
        case rel =>
          obtain ⟨rfl, e2⟩ := HT.out
          have hb := HB.out
          refine ⟨i + 1, by simp, by omega, ?_, ?_, hBr⟩
          · rw [e2, if_neg (by rw [hb]; simp)]; simp
          · rw [← toRow_skip]
            · exact htor
            · rw [hK.out.is i x HX.out, hb]; simp
        case measure => simp [intOf]; omega
    · have hq : ¬ ((i : Int) < (R.length : Int)) := by omega
      obtain rfl : i = R.length := by omega
      have hcol0 : ColS w2 R f S 0 (.slice none 0 0) [] wr := ⟨by simp, World.ownsRow_nil _ _ _ _, by simp, htor, hBr⟩
      have hsz2 := hBr.size
      clear hin hiR htor
      go_wp2
      clear hBr hq
      rename World => wl
      go_loopw [9, 11] (fun l k wr => ∃ (i : Nat) (Rn : List (Ob × Value)), k = .int .i64 i ∧ i ≤ R.length ∧ ColS w2 R f S i l Rn wr) (fun _ k _ => R.length - (intOf k).toNat)
      case atStart => exact ⟨0, [], rfl, by omega, hcol0⟩
      case round =>
        obtain ⟨i, Rn, rfl, hiR, hC⟩ := hrel
        clear hcol0
        have hBr := hC.bel
        have hszr := hBr.size
        by_cases hin : i < R.length
        · obtain ⟨x, hxi⟩ : ∃ x, R[i]? = some x := ⟨R[i], by simp [hin]⟩
          have hxm : x ∈ R := List.mem_of_getElem? hxi
          obtain ⟨gi, rfl⟩ := row_where hrow (by omega)
          have d1 : wr.cell? ⟨gi, i, none⟩ = some (.bool (f x.1)) := row_cell (IsRf.row_kept hrow (fun k e => hBr.block k (hrow.lt k e).2)) (by simp [hfx _ _ hxi]) (by omega)
          have HX : Hid _ := hxi
          cases hfb : f x.1 with
          | true =>
            rw [hfb] at d1
            have HB : Hid _ := hfb
            have hwl := (h.bnd x hxm).2.1
            have hkd := (h.bnd x hxm).2.2
            have hat := (h.bnd x hxm).1
            have d3 : wr.cell? ⟨w2.heap.size, i, none⟩ = some (.int .i64 (toN (R.map Prod.fst) f S i)) := row_cell hC.tor (by simp [toRow_get hin, pv]) hin
            have htn := hK.out.toN_le i
            have hw := h.below (hBw hBr)
            have hcO := hw.c2
            obtain ⟨gO, rfl⟩ := hp (by omega)
            obtain ⟨o0, o1, o2⟩ := hw.elem hxi
            obtain ⟨hw1, hw2⟩ := hw.wrds x hxm
            obtain ⟨gw, cw, hxv⟩ := wform hw1 hw2
            rw [hxv] at o2 hw1
            have hgw := (hw1.lt gw rfl).2
            have HV : Hid _ := hxv
            have HC : Hid _ := hC
            have HWR : Hid _ := hw
            have H3 := fun w' (hB' : Below wr.heap.size wr w') => ritems_in (hw.below hB') hs hxm (h64 x hxm)
            have H4 := fun w' (hB' : Below wr.heap.size wr w') => rpairs_in (hw.below hB') hxm
            unfold agO at H3 H4
            rw [hxv] at H3 H4
            obtain ⟨t, ht⟩ : ∃ t, toN (R.map Prod.fst) f S i = t := ⟨_, rfl⟩
            have HTN : Hid _ := ht
            rw [ht] at d3 htn
            clear hfb hfx hxi hC hw ht hw2 hxv
            go_wp2
            obtain ⟨W1, hW1⟩ : ∃ W1, wr.alloc (.cells #[.int .i64 x.1.at_, .int .u8 x.1.kind, .slice (some ⟨gw, 0, none⟩) x.1.ws.length cw] 85) = W1 := ⟨_, rfl⟩
            have hb1 : W1.heap[wr.heap.size]? = some (.cells #[.int .i64 x.1.at_, .int .u8 x.1.kind, .slice (some ⟨gw, 0, none⟩) x.1.ws.length cw] 85 (0, 0)) := hW1 ▸ heap_alloc_new wr _
            have hs1 : W1.heap.size = wr.heap.size + 1 := by rw [← hW1]; simp
            have hBW1 : Below wr.heap.size wr W1 := hW1 ▸ below1 wr _
            have e1 : W1.cell? ⟨wr.heap.size, 1, none⟩ = some (.int .u8 x.1.kind) := by rw [cell_of_row W1 _ 1 _ _ _ hb1]; rfl
            have e3 : W1.cell? ⟨w2.heap.size, i, none⟩ = some (.int .i64 t) := (hBW1.cell (p := ⟨w2.heap.size, i, none⟩) (World.block_lt_of_cell? wr _ d3)).trans d3
            have e1' : (W1.alloc (.cells #[.int .i64 0, .int .u8 0, .slice none 0 0] 85)).cell? ⟨wr.heap.size, 1, none⟩ = some (.int .u8 x.1.kind) := ((below1 W1 _).cell (p := ⟨wr.heap.size, 1, none⟩) (World.block_lt_of_cell? W1 _ e1)).trans e1
            have e3' : (W1.alloc (.cells #[.int .i64 0, .int .u8 0, .slice none 0 0] 85)).cell? ⟨w2.heap.size, i, none⟩ = some (.int .i64 t) := ((below1 W1 _).cell (p := ⟨w2.heap.size, i, none⟩) (World.block_lt_of_cell? W1 _ e3)).trans e3
            rw [hW1]
            clear hW1 o0 o1 o2 hcO d1
            go_region
            obtain ⟨W2, hW2⟩ : ∃ W2, (W1.alloc (.cells #[.int .i64 t, .int .u8 x.1.kind, .slice none 0 0] 85)).drew = W2 := ⟨_, rfl⟩
            have hn2 : W2.heap[wr.heap.size + 1]? = some (.cells #[.int .i64 t, .int .u8 x.1.kind, .slice none 0 0] 85 (0, 0)) := by
              rw [← hW2, ← hs1]; exact heap_alloc_new W1 _
            have hBW2 : Below wr.heap.size wr W2 := hW2 ▸ below_drewV (hBW1.alloc hBW1.size _)
            have hb2 : W2.heap[wr.heap.size]? = some (.cells #[.int .i64 x.1.at_, .int .u8 x.1.kind, .slice (some ⟨gw, 0, none⟩) x.1.ws.length cw] 85 (0, 0)) := by
              rw [← hW2]; exact (Below.heap_alloc _ _ _ (by omega)).trans hb1
            have m2 : W2.cell? ⟨wr.heap.size + 1, 2, none⟩ = some (.slice none 0 0) := by rw [cell_of_row W2 _ 2 _ _ _ hn2]; rfl
            have b2 : W2.cell? ⟨wr.heap.size, 2, none⟩ = some (.slice (some ⟨gw, 0, none⟩) x.1.ws.length cw) := by rw [cell_of_row W2 _ 2 _ _ _ hb2]; rfl
            rw [hW2]
            have hs22 : wr.heap.size + 1 < W2.heap.size := (Array.getElem?_eq_some_iff.1 hn2).1
            clear hW2 e1 e3 e1' e3' hb1 hs1 hBW1
            obtain ⟨i0, hi, hz0, hz1, hz2⟩ := info_parts info29
            have hwW := row_kept hw1 (fun k e => hBW2.block k (hw1.lt k e).2)
            have hcl := hwW.cells (g := gw) rfl
            have hln : (x.1.ws.map wv).length = x.1.ws.length * 1 := by simp
            have HN2 : Hid _ := And.intro hb2 (And.intro hn2 hBW2)
            clear hb2 hn2 hBW2
            rcases hK.out.items HX.out HB.out with ⟨eI, eW⟩ | ⟨q, eI, hqR, hl2, eW⟩
            · rw [eI] at H3
              have HW : Hid _ := eW
              clear eI eW
              go_wp2_with (first
                | (at_builtin; refine wpList_append_own _ rfl _ _ 83 rfl (wr.heap.size + 2) 71 i0 (.int .u64 0) 1 8 Tryz.underlying83 hi hz0 hz1 hz2 rfl (by decide) (.slice none 0 0) 0 [] rfl (World.ownsRow_nil _ _ _ _) ⟨gw, 0, none⟩ x.1.ws.length _ (x.1.ws.map wv) rfl hln hcl (by intro u hu; obtain ⟨z, _, rfl⟩ := List.mem_map.1 hu; rfl) (by unfold maxLen; omega) (by omega) (by omega) ?_
                   intro v4 w4 hown4 hgrow4 _
                   have hown5 : w4.ownsRow (wr.heap.size + 2) 71 1 v4 x.1.ws.length (x.1.ws.map wv) := by simpa using hown4
                   obtain ⟨p4, c4, rfl, _, _, hp4⟩ := row_formV hown5
                   have hN0 := NewS.start HN2.out.1 HN2.out.2.1 HN2.out.2.2 hown5 hgrow4
                   have q2 : w4.cell? ⟨wr.heap.size + 1, 2, none⟩ = some (.slice none 0 0) := (World.cell?_of_block (a := ⟨wr.heap.size + 1, 2, none⟩) (hgrow4.block (wr.heap.size + 1) hs22 (by simp [Value.ownBlock]))).trans m2
                   have q3 : w4.frozen? ⟨wr.heap.size + 1, 2, none⟩ = false := frozen_of_row w4 _ _ _ _ ((hgrow4.block (wr.heap.size + 1) hs22 (by simp [Value.ownBlock])).trans HN2.out.2.1)
                   have f0 := hN0.b0
                   have f1 := hN0.b1
                   have f2 := hN0.b2
                   clear hown4 hown5 hgrow4)
                | (go_at_call 101; refine (H3 _ hN0.bel).mono ?_; clear H3; rintro e w5 ⟨rfl, hB5⟩; have hN1 := hN0.below hB5; have k0 := hN1.b0; have k1 := hN1.b1; have k2 := hN1.b2)
                | (go_at_call 102; refine (H4 _ hN1.bel).mono ?_; clear H4; rintro e w6 ⟨pl, cl, rfl, hlrow, hB6⟩; have hN2 := hN1.below hB6))
              have hIN : NewS wr x gw cw t w6 (.slice p4 x.1.ws.length c4) (itW (R.map Prod.fst) (dst 0 ((R.map Prod.fst).filter f)) x.1) := by rw [HW.out]; exact hN2
              have hlr : w6.ownsRow wr.heap.size 3 1 (.slice pl (pairsI x.1).length cl) (pairsI x.1).length ((pairsI x.1).map pv) := row_mono2 hlrow (by have := hN1.bel.size; omega)
              clear hN0 hN1 hN2 hlrow q2 q3 f0 f1 f2 k0 k1 k2 m2 b2 hcl hwW hB5 hB6 hi hz0 hz1 hz2
              go_loopw [16] (fun k W => ∃ (pre rest : List Nat), k = .int .i64 pre.length ∧ pairsI x.1 = pre ++ rest ∧ NewS wr x gw cw t W (.slice p4 x.1.ws.length c4) (relP (R.map Prod.fst) (dst 0 ((R.map Prod.fst).filter f)) x.1.ws (itW (R.map Prod.fst) (dst 0 ((R.map Prod.fst).filter f)) x.1) pre) ∧ W.ownsRow wr.heap.size 3 1 (.slice pl (pairsI x.1).length cl) (pairsI x.1).length ((pairsI x.1).map pv)) (fun k _ => (pairsI x.1).length - (intOf k).toNat)
              case atStart => exact ⟨[], pairsI x.1, rfl, rfl, hIN, hlr⟩
              case round =>
                rename World => wi
                obtain ⟨pre, rest, rfl, hPR, hN, hL6⟩ := hrel
                clear hIN hlr
                cases rest with
                | nil =>
                  have hPR' : pairsI x.1 = pre := by simpa using hPR
                  have hq : ¬ ((pre.length : Int) < ((pairsI x.1).length : Int)) := by rw [hPR']; omega
                  have HPR : Hid _ := hPR'
                  have g0 := hN.n0
                  have g1 := hN.n1
                  have g2 := hN.n2
                  have hrW := row_kept HC.out.row (fun k e => hN.bel.block k (HC.out.row.lt k e).2)
                  obtain ⟨i1, hi1, hy0, hy1, hy2⟩ := info_parts infoOb
                  have hRl := HC.out.lenR
                  have hszN := hN.size
                  have HN : Hid _ := hN
                  clear hPR hPR' hN hL6
                  go_wp2_with (first
                    | (at_builtin; refine wpList_append_own _ rfl _ _ 86 rfl w2.heap.size 85 i1 (.agg #[.int .i64 0, .int .u8 0, .slice none 0 0]) 3 40 Tryz.underlying86 hi1 hy0 hy1 hy2 rfl (by decide) _ Rn.length (rcells Rn) rfl (hrW.alloc _) ⟨wi.heap.size, 0, none⟩ 1 1 [.int .i64 t, .int .u8 x.1.kind, .slice p4 x.1.ws.length c4] rfl rfl (World.news_of_block (cs := #[.int .i64 t, .int .u8 x.1.kind, .slice p4 x.1.ws.length c4]) (t := 85) (fr := (0, 0)) (heap_alloc_new wi _)) (by simp [Value.oneCell']) (by unfold maxLen; omega) (by omega) (by simp; omega) ?_; intro v7 w7 hown7 hgrow7 _))
                  go_roundw
                  case rel =>
                    have hN := HN.out
                    rw [← HPR.out, ← HTN.out] at hN
                    have hown8 := hown7
                    rw [← HTN.out] at hown8
                    exact ⟨i + 1, _, by simp, by omega, HC.out.next hK.out HX.out HB.out hN hown8 hgrow7⟩
                  case measure => simp [intOf]; omega
                | cons j rest =>
                  have hjm : j ∈ pairsI x.1 := by rw [hPR]; simp
                  have hj1 := pairsI_lt x.1 j hjm
                  have hlP : pre.length < (pairsI x.1).length := by rw [hPR]; simp
                  have hj2 : (j : Int) < (x.1.ws.length : Int) := by omega
                  have hj3 : (j : Int) + 1 < (x.1.ws.length : Int) := by omega
                  have hj4 : j < x.1.ws.length := by omega
                  have hj6 : IntKind.i64.wrap ((j : Int) + 1) = (j : Int) + 1 := by rw [IntKind.wrap_i64]; omega
                  have hj7 : (0 : Int) ≤ (j : Int) + 1 := by omega
                  have hj5 : j < 1048576 := by omega
                  have hlP' : (pre.length : Int) < ((pairsI x.1).length : Int) := by omega
                  obtain ⟨k0, hk0⟩ : ∃ k0, x.1.ws[j]? = some k0 := ⟨x.1.ws[j]'(by omega), by simp⟩
                  obtain ⟨m0, hm0⟩ : ∃ m0, x.1.ws[j + 1]? = some m0 := ⟨x.1.ws[j + 1]'(by omega), by simp⟩
                  have hk64 := h64 x hxm k0 (List.mem_of_getElem? hk0)
                  have hm64 := h64 x hxm m0 (List.mem_of_getElem? hm0)
                  have hrw := row_kept hw1 (fun k e => hN.bel.block k (hw1.lt k e).2)
                  have c1 := row_cell hrw (show (x.1.ws.map wv)[j]? = some (.int .u64 k0) by simp [hk0, wv]) (by omega)
                  have c2' := row_cell hrw (show (x.1.ws.map wv)[j + 1]? = some (.int .u64 m0) by simp [hm0, wv]) (by omega)
                  have c3 := hN.b2
                  obtain ⟨gl, hgl⟩ := row_where hL6 (by omega)
                  subst hgl
                  have c4' := row_cell hL6 (show ((pairsI x.1).map pv)[pre.length]? = some (.int .i64 j) by rw [hPR]; simp [pv]) hlP
                  have H5 := fun w' => val_in k0 m0 hk64 hm64 w'
                  have H6 := fun w' (hB' : Below wi.heap.size wi w') => rleads_in ((HWR.out.below hN.bel).below hB') hs (valK k0) (valN k0 m0)
                  have HPR : Hid _ := hPR
                  have e1 : (((pre ++ [j]).length : Nat) : Int) = pre.length + 1 := by simp
                  have hgd : x.1.ws.getD j 0 = k0 ∧ x.1.ws.getD (j + 1) 0 = m0 := ⟨by simp [List.getD, hk0], by simp [List.getD, hm0]⟩
                  have hu : ∀ o ∈ R.map Prod.fst, o.at_ < 1048576 := fun o ho => by
                    obtain ⟨y, hy, rfl⟩ := List.mem_map.1 ho
                    exact (h.bnd y hy).1
                  have hrs := relP_snoc (R.map Prod.fst) (dst 0 ((R.map Prod.fst).filter f)) x.1.ws pre (itW (R.map Prod.fst) (dst 0 ((R.map Prod.fst).filter f)) x.1) j
                  rw [hgd.1, hgd.2] at hrs
                  obtain ⟨gN, rfl⟩ := hp4 (by omega)
                  have hpl : (pairsI x.1).length < 1048576 := by have := pairsI_len x.1; omega
                  have HN : Hid _ := hN
                  have HL6 : Hid (wi.ownsRow wr.heap.size 3 1 (.slice (some ⟨gl, 0, none⟩) (pairsI x.1).length cl) (pairsI x.1).length ((pairsI x.1).map pv)) := hL6
                  have hszN := hN.size
                  have htoN := row_kept HC.out.tor (fun k e => hN.bel.block k (HC.out.tor.lt k e).2)
                  clear hPR hrw hk0 hm0
                  by_cases hL : Leads (R.map Prod.fst) k0 m0
                  · rw [if_pos hL] at hrs
                    obtain ⟨q, hq, hqR, htq⟩ := hK.out.pair HX.out HB.out hjm (by rw [hgd.1, hgd.2]; exact hL)
                    rw [hgd.2] at hq htq
                    have e2 : leadI R (valK k0) (valN k0 m0) = q := by
                      have hv : valN k0 m0 = m0 := by
                        obtain ⟨_, h7, o, ho, eo, _⟩ := hL
                        have := hu o ho
                        unfold valN
                        rw [if_pos (by omega)]
                        simp only [wrap64]; omega
                      unfold leadI
                      rw [if_pos ((val_leads hu hm64).2 hL), hv, hq]
                    rw [e2] at H6
                    have htl := hK.out.toN_le q
                    obtain ⟨tq, htq'⟩ : ∃ tq, toN (R.map Prod.fst) f S q = tq := ⟨_, rfl⟩
                    have ct : wi.cell? ⟨w2.heap.size, q, none⟩ = some (.int .i64 tq) := by
                      rw [← htq']
                      exact row_cell htoN (by simp [toRow_get hqR, pv]) hqR
                    rw [htq'] at htl htq
                    have cn := hN.n2
                    obtain ⟨u, hu2⟩ : ∃ u, (relP (R.map Prod.fst) (dst 0 ((R.map Prod.fst).filter f)) x.1.ws (itW (R.map Prod.fst) (dst 0 ((R.map Prod.fst).filter f)) x.1) pre)[j + 1]? = some u := ⟨_, List.getElem?_eq_getElem (by rw [hN.len]; omega)⟩
                    have cu : wi.cell? ⟨gN, j + 1, none⟩ = some (.int .u64 u) := row_cell hN.row (by simp [hu2, wv]) (by omega)
                    obtain ⟨cur, hcur⟩ := row_obj hN.row (k := gN) rfl
                    have cf : wi.frozen? ⟨gN, j + 1, none⟩ = false := frozen_of_row wi _ _ _ _ hcur
                    have HG : Hid _ := And.intro hrs htq
                    have hql : (q : Int) < (R.length : Int) := by omega
                    clear hrs htq hq htq' e2 hL hu2 hgd hu hcur htoN hN hL6
                    go_wp2
                    go_region_held3 (fun W => W.cell? ⟨wr.heap.size, 2, none⟩ = some (.slice (some ⟨gw, 0, none⟩) x.1.ws.length cw) ∧ W.cell? ⟨gl, pre.length, none⟩ = some (.int .i64 j) ∧ W.cell? ⟨gw, j, none⟩ = some (.int .u64 k0) ∧ W.cell? ⟨gw, j + 1, none⟩ = some (.int .u64 m0)) (first | exact ⟨c3, c4', c1, c2'⟩ | exact ⟨f3, f4, f1, f2⟩ | exact ⟨g3, g4, g1, g2⟩ | go_keep)
                      ((first
                        | (go_at_call 104; refine (H5 _).mono ?_; rintro e w7 ⟨rfl, hB7⟩; obtain ⟨hB7', f3, f4, f1, f2⟩ := held_drew (w := wi) hB7 c3 c4' c1 c2')
                        | (go_at_call 103; refine (H6 _ hB7').mono ?_; rintro e w8 ⟨rfl, hB8⟩; obtain ⟨hB8', g3, g4, g1, g2⟩ := held_more hB7' hB8 c3 c4' c1 c2')))
                    have i0' := (hB8'.cell (p := ⟨w2.heap.size, q, none⟩) (World.block_lt_of_cell? wi _ ct)).trans ct
                    have i1' := (hB8'.cell (p := ⟨wr.heap.size + 1, 2, none⟩) (World.block_lt_of_cell? wi _ cn)).trans cn
                    have i2' := (hB8'.cell (p := ⟨gN, j + 1, none⟩) (World.block_lt_of_cell? wi _ cu)).trans cu
                    have i3' := (World.frozen?_of_block (a := ⟨gN, j + 1, none⟩) (hB8'.block gN (World.block_lt_of_cell? wi _ cu))).trans cf
                    clear ct cn cu cf c1 c2' c3 c4' f1 f2 f3 f4
                    go_wp2
                    go_region
                    go_wp2
                    go_roundw
                    case rel =>
                      have hN8 := HN.out.below hB8'
                      have hst := (hN8.set (j + 1) tq).drew
                      refine ⟨pre ++ [j], rest, by rw [e1], by have := HPR.out; simpa using this, ?_, ?_⟩
                      · rw [HG.out.1, ← HG.out.2]
                        exact hst
                      · have hr8 := row_kept HL6.out (fun k e => hB8'.block k (HL6.out.lt k e).2)
                        refine row_kept hr8 (fun k e => heap_setCell_other w8 ⟨gN, j + 1, none⟩ k _ ?_)
                        intro ek
                        obtain ⟨c1x, hc1⟩ := row_obj hr8 e
                        obtain ⟨c2x, hc2⟩ := row_obj hN8.row (k := gN) rfl
                        have ek' : k = gN := ek
                        rw [ek', hc2] at hc1
                        simp at hc1
                    case measure => simp [intOf]; omega
                  · rw [if_neg hL] at hrs
                    have e2 : leadI R (valK k0) (valN k0 m0) = -1 := by
                      unfold leadI
                      rw [if_neg (fun h' => hL ((val_leads hu hm64).1 h'))]
                    rw [e2] at H6
                    have HG : Hid _ := hrs
                    clear hrs e2 hL hgd hu htoN hN hL6
                    go_wp2
                    go_region_held3 (fun W => W.cell? ⟨wr.heap.size, 2, none⟩ = some (.slice (some ⟨gw, 0, none⟩) x.1.ws.length cw) ∧ W.cell? ⟨gl, pre.length, none⟩ = some (.int .i64 j) ∧ W.cell? ⟨gw, j, none⟩ = some (.int .u64 k0) ∧ W.cell? ⟨gw, j + 1, none⟩ = some (.int .u64 m0)) (first | exact ⟨c3, c4', c1, c2'⟩ | exact ⟨f3, f4, f1, f2⟩ | exact ⟨g3, g4, g1, g2⟩ | go_keep)
                      ((first
                        | (go_at_call 104; refine (H5 _).mono ?_; rintro e w7 ⟨rfl, hB7⟩; obtain ⟨hB7', f3, f4, f1, f2⟩ := held_drew (w := wi) hB7 c3 c4' c1 c2')
                        | (go_at_call 103; refine (H6 _ hB7').mono ?_; rintro e w8 ⟨rfl, hB8⟩; obtain ⟨hB8', g3, g4, g1, g2⟩ := held_more hB7' hB8 c3 c4' c1 c2')))
                    go_wp2
                    go_roundw
                    case rel =>
                      refine ⟨pre ++ [j], rest, by rw [e1], by have := HPR.out; simpa using this, ?_, row_kept HL6.out (fun k e => hB8'.block k (HL6.out.lt k e).2)⟩
                      rw [HG.out]
                      exact HN.out.below hB8'
                    case measure => simp [intOf]; omega
            · rw [eI] at H3
              have htl := hK.out.toN_le q
              have ct0 : wr.cell? ⟨w2.heap.size, q, none⟩ = some (.int .i64 (toN (R.map Prod.fst) f S q)) := row_cell HC.out.tor (by simp [toRow_get hqR, pv]) hqR
              obtain ⟨tq, htq⟩ : ∃ tq, toN (R.map Prod.fst) f S q = tq := ⟨_, rfl⟩
              rw [htq] at ct0 htl eW
              have HW : Hid _ := eW
              have hql : (q : Int) < (R.length : Int) := by omega
              clear eI eW htq
              go_wp2_with (first
                | (at_builtin; refine wpList_append_own _ rfl _ _ 83 rfl (wr.heap.size + 2) 71 i0 (.int .u64 0) 1 8 Tryz.underlying83 hi hz0 hz1 hz2 rfl (by decide) (.slice none 0 0) 0 [] rfl (World.ownsRow_nil _ _ _ _) ⟨gw, 0, none⟩ x.1.ws.length _ (x.1.ws.map wv) rfl hln hcl (by intro u hu; obtain ⟨z, _, rfl⟩ := List.mem_map.1 hu; rfl) (by unfold maxLen; omega) (by omega) (by omega) ?_
                   intro v4 w4 hown4 hgrow4 _
                   have hown5 : w4.ownsRow (wr.heap.size + 2) 71 1 v4 x.1.ws.length (x.1.ws.map wv) := by simpa using hown4
                   obtain ⟨p4, c4, rfl, _, _, hp4⟩ := row_formV hown5
                   have hN0 := NewS.start HN2.out.1 HN2.out.2.1 HN2.out.2.2 hown5 hgrow4
                   have q2 : w4.cell? ⟨wr.heap.size + 1, 2, none⟩ = some (.slice none 0 0) := (World.cell?_of_block (a := ⟨wr.heap.size + 1, 2, none⟩) (hgrow4.block (wr.heap.size + 1) hs22 (by simp [Value.ownBlock]))).trans m2
                   have q3 : w4.frozen? ⟨wr.heap.size + 1, 2, none⟩ = false := frozen_of_row w4 _ _ _ _ ((hgrow4.block (wr.heap.size + 1) hs22 (by simp [Value.ownBlock])).trans HN2.out.2.1)
                   have f0 := hN0.b0
                   have f1 := hN0.b1
                   have f2 := hN0.b2
                   clear hown4 hown5 hgrow4)
                | (go_at_call 101; refine (H3 _ hN0.bel).mono ?_; clear H3; rintro e w5 ⟨rfl, hB5⟩; have hN1 := hN0.below hB5; have k0 := hN1.b0; have k1 := hN1.b1; have k2 := hN1.b2))
              obtain ⟨gN, rfl⟩ := hp4 (by omega)
              have n2 := hN1.n2
              have ct5 := (hN1.bel.cell (p := ⟨w2.heap.size, q, none⟩) (World.block_lt_of_cell? wr _ ct0)).trans ct0
              obtain ⟨u, hu2⟩ : ∃ u, x.1.ws[1]? = some u := ⟨_, List.getElem?_eq_getElem (by omega)⟩
              have cu : w5.cell? ⟨gN, 1, none⟩ = some (.int .u64 u) := row_cell hN1.row (by simp [hu2, wv]) (by omega)
              obtain ⟨cur, hcur⟩ := row_obj hN1.row (k := gN) rfl
              have cf : w5.frozen? ⟨gN, 1, none⟩ = false := frozen_of_row w5 gN 1 _ _ hcur
              have hl2' : (1 : Int) < (x.1.ws.length : Int) := by omega
              clear hu2 hcur f0 f1 f2 q2 q3 k0 k1 k2 ct0
              go_region
              have hN1d : NewS wr x gw cw t (w5.setCell ⟨gN, 1, none⟩ (.int .u64 ((tq : Int) + 1))).drew (.slice (some ⟨gN, 0, none⟩) x.1.ws.length c4) (x.1.ws.set 1 (tq + 1)) := by
                have hst := (hN1.set 1 (tq + 1)).drew
                have e9 : ((tq + 1 : Nat) : Int) = (tq : Int) + 1 := by omega
                rw [e9] at hst
                exact hst
              obtain ⟨W5, hW5⟩ : ∃ W5, (w5.setCell ⟨gN, 1, none⟩ (.int .u64 ((tq : Int) + 1))).drew = W5 := ⟨_, rfl⟩
              rw [hW5] at hN1d ⊢
              clear hW5 n2 ct5 cu cf
              have k0 := hN1d.b0
              have k1 := hN1d.b1
              have k2 := hN1d.b2
              go_wp2_with (first
                | (go_at_call 102; refine (H4 _ hN1d.bel).mono ?_; clear H4; rintro e w6 ⟨pl, cl, rfl, hlrow, hB6⟩; have hN2 := hN1d.below hB6))
              have hIN : NewS wr x gw cw t w6 (.slice (some ⟨gN, 0, none⟩) x.1.ws.length c4) (itW (R.map Prod.fst) (dst 0 ((R.map Prod.fst).filter f)) x.1) := by rw [HW.out]; exact hN2
              have hlr : w6.ownsRow wr.heap.size 3 1 (.slice pl (pairsI x.1).length cl) (pairsI x.1).length ((pairsI x.1).map pv) := row_mono2 hlrow (by have := hN1d.bel.size; omega)
              clear hN0 hN1 hN1d hN2 hlrow k0 k1 k2 m2 b2 hcl hwW hB5 hB6 hi hz0 hz1 hz2 hp4
              go_loopw [16] (fun k W => ∃ (pre rest : List Nat), k = .int .i64 pre.length ∧ pairsI x.1 = pre ++ rest ∧ NewS wr x gw cw t W (.slice (some ⟨gN, 0, none⟩) x.1.ws.length c4) (relP (R.map Prod.fst) (dst 0 ((R.map Prod.fst).filter f)) x.1.ws (itW (R.map Prod.fst) (dst 0 ((R.map Prod.fst).filter f)) x.1) pre) ∧ W.ownsRow wr.heap.size 3 1 (.slice pl (pairsI x.1).length cl) (pairsI x.1).length ((pairsI x.1).map pv)) (fun k _ => (pairsI x.1).length - (intOf k).toNat)
              case atStart => exact ⟨[], pairsI x.1, rfl, rfl, hIN, hlr⟩
              case round =>
                rename World => wi
                obtain ⟨pre, rest, rfl, hPR, hN, hL6⟩ := hrel
                clear hIN hlr
                cases rest with
                | nil =>
                  have hPR' : pairsI x.1 = pre := by simpa using hPR
                  have hq : ¬ ((pre.length : Int) < ((pairsI x.1).length : Int)) := by rw [hPR']; omega
                  have HPR : Hid _ := hPR'
                  have g0 := hN.n0
                  have g1 := hN.n1
                  have g2 := hN.n2
                  have hrW := row_kept HC.out.row (fun k e => hN.bel.block k (HC.out.row.lt k e).2)
                  obtain ⟨i1, hi1, hy0, hy1, hy2⟩ := info_parts infoOb
                  have hRl := HC.out.lenR
                  have hszN := hN.size
                  have HN : Hid _ := hN
                  clear hPR hPR' hN hL6
                  go_wp2_with (first
                    | (at_builtin; refine wpList_append_own _ rfl _ _ 86 rfl w2.heap.size 85 i1 (.agg #[.int .i64 0, .int .u8 0, .slice none 0 0]) 3 40 Tryz.underlying86 hi1 hy0 hy1 hy2 rfl (by decide) _ Rn.length (rcells Rn) rfl (hrW.alloc _) ⟨wi.heap.size, 0, none⟩ 1 1 [.int .i64 t, .int .u8 x.1.kind, .slice (some ⟨gN, 0, none⟩) x.1.ws.length c4] rfl rfl (World.news_of_block (cs := #[.int .i64 t, .int .u8 x.1.kind, .slice (some ⟨gN, 0, none⟩) x.1.ws.length c4]) (t := 85) (fr := (0, 0)) (heap_alloc_new wi _)) (by simp [Value.oneCell']) (by unfold maxLen; omega) (by omega) (by simp; omega) ?_; intro v7 w7 hown7 hgrow7 _))
                  go_roundw
                  case rel =>
                    have hN := HN.out
                    rw [← HPR.out, ← HTN.out] at hN
                    have hown8 := hown7
                    rw [← HTN.out] at hown8
                    exact ⟨i + 1, _, by simp, by omega, HC.out.next hK.out HX.out HB.out hN hown8 hgrow7⟩
                  case measure => simp [intOf]; omega
                | cons j rest =>
                  have hjm : j ∈ pairsI x.1 := by rw [hPR]; simp
                  have hj1 := pairsI_lt x.1 j hjm
                  have hlP : pre.length < (pairsI x.1).length := by rw [hPR]; simp
                  have hj2 : (j : Int) < (x.1.ws.length : Int) := by omega
                  have hj3 : (j : Int) + 1 < (x.1.ws.length : Int) := by omega
                  have hj4 : j < x.1.ws.length := by omega
                  have hj6 : IntKind.i64.wrap ((j : Int) + 1) = (j : Int) + 1 := by rw [IntKind.wrap_i64]; omega
                  have hj7 : (0 : Int) ≤ (j : Int) + 1 := by omega
                  have hj5 : j < 1048576 := by omega
                  have hlP' : (pre.length : Int) < ((pairsI x.1).length : Int) := by omega
                  obtain ⟨k0, hk0⟩ : ∃ k0, x.1.ws[j]? = some k0 := ⟨x.1.ws[j]'(by omega), by simp⟩
                  obtain ⟨m0, hm0⟩ : ∃ m0, x.1.ws[j + 1]? = some m0 := ⟨x.1.ws[j + 1]'(by omega), by simp⟩
                  have hk64 := h64 x hxm k0 (List.mem_of_getElem? hk0)
                  have hm64 := h64 x hxm m0 (List.mem_of_getElem? hm0)
                  have hrw := row_kept hw1 (fun k e => hN.bel.block k (hw1.lt k e).2)
                  have c1 := row_cell hrw (show (x.1.ws.map wv)[j]? = some (.int .u64 k0) by simp [hk0, wv]) (by omega)
                  have c2' := row_cell hrw (show (x.1.ws.map wv)[j + 1]? = some (.int .u64 m0) by simp [hm0, wv]) (by omega)
                  have c3 := hN.b2
                  obtain ⟨gl, hgl⟩ := row_where hL6 (by omega)
                  subst hgl
                  have c4' := row_cell hL6 (show ((pairsI x.1).map pv)[pre.length]? = some (.int .i64 j) by rw [hPR]; simp [pv]) hlP
                  have H5 := fun w' => val_in k0 m0 hk64 hm64 w'
                  have H6 := fun w' (hB' : Below wi.heap.size wi w') => rleads_in ((HWR.out.below hN.bel).below hB') hs (valK k0) (valN k0 m0)
                  have HPR : Hid _ := hPR
                  have e1 : (((pre ++ [j]).length : Nat) : Int) = pre.length + 1 := by simp
                  have hgd : x.1.ws.getD j 0 = k0 ∧ x.1.ws.getD (j + 1) 0 = m0 := ⟨by simp [List.getD, hk0], by simp [List.getD, hm0]⟩
                  have hu : ∀ o ∈ R.map Prod.fst, o.at_ < 1048576 := fun o ho => by
                    obtain ⟨y, hy, rfl⟩ := List.mem_map.1 ho
                    exact (h.bnd y hy).1
                  have hrs := relP_snoc (R.map Prod.fst) (dst 0 ((R.map Prod.fst).filter f)) x.1.ws pre (itW (R.map Prod.fst) (dst 0 ((R.map Prod.fst).filter f)) x.1) j
                  rw [hgd.1, hgd.2] at hrs
                  have hpl : (pairsI x.1).length < 1048576 := by have := pairsI_len x.1; omega
                  have HN : Hid _ := hN
                  have HL6 : Hid (wi.ownsRow wr.heap.size 3 1 (.slice (some ⟨gl, 0, none⟩) (pairsI x.1).length cl) (pairsI x.1).length ((pairsI x.1).map pv)) := hL6
                  have hszN := hN.size
                  have htoN := row_kept HC.out.tor (fun k e => hN.bel.block k (HC.out.tor.lt k e).2)
                  clear hPR hrw hk0 hm0
                  by_cases hL : Leads (R.map Prod.fst) k0 m0
                  · rw [if_pos hL] at hrs
                    obtain ⟨q, hq, hqR, htq⟩ := hK.out.pair HX.out HB.out hjm (by rw [hgd.1, hgd.2]; exact hL)
                    rw [hgd.2] at hq htq
                    have e2 : leadI R (valK k0) (valN k0 m0) = q := by
                      have hv : valN k0 m0 = m0 := by
                        obtain ⟨_, h7, o, ho, eo, _⟩ := hL
                        have := hu o ho
                        unfold valN
                        rw [if_pos (by omega)]
                        simp only [wrap64]; omega
                      unfold leadI
                      rw [if_pos ((val_leads hu hm64).2 hL), hv, hq]
                    rw [e2] at H6
                    have htl := hK.out.toN_le q
                    obtain ⟨tq, htq'⟩ : ∃ tq, toN (R.map Prod.fst) f S q = tq := ⟨_, rfl⟩
                    have ct : wi.cell? ⟨w2.heap.size, q, none⟩ = some (.int .i64 tq) := by
                      rw [← htq']
                      exact row_cell htoN (by simp [toRow_get hqR, pv]) hqR
                    rw [htq'] at htl htq
                    have cn := hN.n2
                    obtain ⟨u, hu2⟩ : ∃ u, (relP (R.map Prod.fst) (dst 0 ((R.map Prod.fst).filter f)) x.1.ws (itW (R.map Prod.fst) (dst 0 ((R.map Prod.fst).filter f)) x.1) pre)[j + 1]? = some u := ⟨_, List.getElem?_eq_getElem (by rw [hN.len]; omega)⟩
                    have cu : wi.cell? ⟨gN, j + 1, none⟩ = some (.int .u64 u) := row_cell hN.row (by simp [hu2, wv]) (by omega)
                    obtain ⟨cur, hcur⟩ := row_obj hN.row (k := gN) rfl
                    have cf : wi.frozen? ⟨gN, j + 1, none⟩ = false := frozen_of_row wi _ _ _ _ hcur
                    have HG : Hid _ := And.intro hrs htq
                    have hql : (q : Int) < (R.length : Int) := by omega
                    clear hrs htq hq htq' e2 hL hu2 hgd hu hcur htoN hN hL6
                    go_wp2
                    go_region_held3 (fun W => W.cell? ⟨wr.heap.size, 2, none⟩ = some (.slice (some ⟨gw, 0, none⟩) x.1.ws.length cw) ∧ W.cell? ⟨gl, pre.length, none⟩ = some (.int .i64 j) ∧ W.cell? ⟨gw, j, none⟩ = some (.int .u64 k0) ∧ W.cell? ⟨gw, j + 1, none⟩ = some (.int .u64 m0)) (first | exact ⟨c3, c4', c1, c2'⟩ | exact ⟨f3, f4, f1, f2⟩ | exact ⟨g3, g4, g1, g2⟩ | go_keep)
                      ((first
                        | (go_at_call 104; refine (H5 _).mono ?_; rintro e w7 ⟨rfl, hB7⟩; obtain ⟨hB7', f3, f4, f1, f2⟩ := held_drew (w := wi) hB7 c3 c4' c1 c2')
                        | (go_at_call 103; refine (H6 _ hB7').mono ?_; rintro e w8 ⟨rfl, hB8⟩; obtain ⟨hB8', g3, g4, g1, g2⟩ := held_more hB7' hB8 c3 c4' c1 c2')))
                    have i0' := (hB8'.cell (p := ⟨w2.heap.size, q, none⟩) (World.block_lt_of_cell? wi _ ct)).trans ct
                    have i1' := (hB8'.cell (p := ⟨wr.heap.size + 1, 2, none⟩) (World.block_lt_of_cell? wi _ cn)).trans cn
                    have i2' := (hB8'.cell (p := ⟨gN, j + 1, none⟩) (World.block_lt_of_cell? wi _ cu)).trans cu
                    have i3' := (World.frozen?_of_block (a := ⟨gN, j + 1, none⟩) (hB8'.block gN (World.block_lt_of_cell? wi _ cu))).trans cf
                    clear ct cn cu cf c1 c2' c3 c4' f1 f2 f3 f4
                    go_wp2
                    go_region
                    go_wp2
                    go_roundw
                    case rel =>
                      have hN8 := HN.out.below hB8'
                      have hst := (hN8.set (j + 1) tq).drew
                      refine ⟨pre ++ [j], rest, by rw [e1], by have := HPR.out; simpa using this, ?_, ?_⟩
                      · rw [HG.out.1, ← HG.out.2]
                        exact hst
                      · have hr8 := row_kept HL6.out (fun k e => hB8'.block k (HL6.out.lt k e).2)
                        refine row_kept hr8 (fun k e => heap_setCell_other w8 ⟨gN, j + 1, none⟩ k _ ?_)
                        intro ek
                        obtain ⟨c1x, hc1⟩ := row_obj hr8 e
                        obtain ⟨c2x, hc2⟩ := row_obj hN8.row (k := gN) rfl
                        have ek' : k = gN := ek
                        rw [ek', hc2] at hc1
                        simp at hc1
                    case measure => simp [intOf]; omega
                  · rw [if_neg hL] at hrs
                    have e2 : leadI R (valK k0) (valN k0 m0) = -1 := by
                      unfold leadI
                      rw [if_neg (fun h' => hL ((val_leads hu hm64).1 h'))]
                    rw [e2] at H6
                    have HG : Hid _ := hrs
                    clear hrs e2 hL hgd hu htoN hN hL6
                    go_wp2
                    go_region_held3 (fun W => W.cell? ⟨wr.heap.size, 2, none⟩ = some (.slice (some ⟨gw, 0, none⟩) x.1.ws.length cw) ∧ W.cell? ⟨gl, pre.length, none⟩ = some (.int .i64 j) ∧ W.cell? ⟨gw, j, none⟩ = some (.int .u64 k0) ∧ W.cell? ⟨gw, j + 1, none⟩ = some (.int .u64 m0)) (first | exact ⟨c3, c4', c1, c2'⟩ | exact ⟨f3, f4, f1, f2⟩ | exact ⟨g3, g4, g1, g2⟩ | go_keep)
                      ((first
                        | (go_at_call 104; refine (H5 _).mono ?_; rintro e w7 ⟨rfl, hB7⟩; obtain ⟨hB7', f3, f4, f1, f2⟩ := held_drew (w := wi) hB7 c3 c4' c1 c2')
                        | (go_at_call 103; refine (H6 _ hB7').mono ?_; rintro e w8 ⟨rfl, hB8⟩; obtain ⟨hB8', g3, g4, g1, g2⟩ := held_more hB7' hB8 c3 c4' c1 c2')))
                    go_wp2
                    go_roundw
                    case rel =>
                      refine ⟨pre ++ [j], rest, by rw [e1], by have := HPR.out; simpa using this, ?_, row_kept HL6.out (fun k e => hB8'.block k (HL6.out.lt k e).2)⟩
                      rw [HG.out]
                      exact HN.out.below hB8'
                    case measure => simp [intOf]; omega
          | false =>
            rw [hfb] at d1
            have hnx := hC.skip HX.out hfb
            have HC : Hid _ := hnx
            clear hfb hxi hC hnx
            go_wp2
            go_roundw
            case rel => exact ⟨i + 1, Rn, by simp, by omega, HC.out⟩
            case measure => simp [intOf]; omega
        · have hq : ¬ ((i : Int) < (R.length : Int)) := by omega
          obtain rfl : i = R.length := by omega
          clear hin hiR
          obtain ⟨ql, cl, hlv, _, _, _⟩ := row_formV hC.row
          subst hlv
          have hsum := hK.out.sum R.length
          have htake : ((R.map Prod.fst).take R.length).filter f = (R.map Prod.fst).filter f := by rw [List.take_of_length_le (by simp)]
          rw [htake] at hsum ⊢
          obtain ⟨i2, hi2, hx0, hx1, hx2⟩ := info_parts infoV
          have hmay := HM.out
          clear hfx htake
          go_wp2
          rename World => wm
          go_loopw [18, 19] (fun out k W => ∃ (pre rest : List Vl), k = .int .i64 pre.length ∧ vs = pre ++ rest ∧ OwnVals wm.heap.size out (pre.map (newRoot (dst 0 ((R.map Prod.fst).filter f)))) W ∧ Below wm.heap.size wm W) (fun _ k _ => vs.length - (intOf k).toNat)
          case atStart => exact ⟨[], vs, rfl, rfl, World.ownsRow_nil _ _ _ _, Below.refl _ _⟩
          case round =>
            rename World => W
            obtain ⟨pre, rest, rfl, hVR, hO, hBW⟩ := hrel
            have hBt : Below w2.heap.size w2 W := hC.bel.trans (hBW.mono hC.bel.size)
            have hWr := h.below (hBw hBt)
            have hszW := hBW.size
            cases rest with
            | nil =>
              have hVR' : vs = pre := by simpa using hVR
              have hq : ¬ ((pre.length : Int) < (vs.length : Int)) := by rw [hVR']; omega
              obtain ⟨p9, c9, hov, _, _, _⟩ := row_formV hO
              subst hov
              have b1 := hWr.c1
              have b2 := hWr.c2
              have f1 := hWr.f 1
              have f2 := hWr.f 2
              have hbl := hWr.lt
              have HV : Hid (vs = pre) := hVR'
              have hr := fun w' e => rc_end h hK.out hB hC hBW hO (w' := w') e
              have HE : Hid _ := hr
              clear hVR hVR' hO hr hmay hWr
              go_wp2
              go_ret2
              obtain ⟨r1, r2, r3, r4⟩ := HE.out _ rfl
              rw [← HV.out] at r1
              refine ⟨_, ?_, f, hK.out.rch, r1, _, Rn, r2, r3, r4⟩
              rw [HV.out]
              simp
            | cons v rest =>
              have hvm : v ∈ vs := by rw [hVR]; simp
              have hlV : pre.length < vs.length := by rw [hVR]; simp
              have hlV' : (pre.length : Int) < (vs.length : Int) := by omega
              obtain ⟨b0, off, rfl, c0, c1⟩ := (hv.below (hBw hBt)) pre.length v (by rw [hVR]; simp)
              have H7 := fun w' (hB' : Below W.heap.size W w') => rleads_in (hWr.below hB') hs v.k v.n
              obtain ⟨an, han⟩ : ∃ an, (pre.map (newRoot (dst 0 ((R.map Prod.fst).filter f)))).length = an := ⟨_, rfl⟩
              have hO' := hO
              unfold OwnVals at hO'
              rw [han] at hO'
              have hanl : an = pre.length := by rw [← han]; simp
              have HA : Hid _ := han
              have HVR : Hid _ := hVR
              have e1 : (((pre ++ [v]).length : Nat) : Int) = pre.length + 1 := by simp
              have htoN := row_kept hC.tor (fun k e => hBW.block k (hC.tor.lt k e).2)
              have hk8v := hk8 v hvm
              have hmv := hmay v hvm
              clear hVR hO han hWr
              by_cases hL : Leads (R.map Prod.fst) v.k v.n
              · obtain ⟨q, hq, hqR, htq⟩ := hK.out.root hvm hL
                have e2 : leadI R v.k v.n = q := by unfold leadI; rw [if_pos hL, hq]
                rw [e2] at H7
                have htl := hK.out.toN_le q
                obtain ⟨tq, htq'⟩ : ∃ tq, toN (R.map Prod.fst) f S q = tq := ⟨_, rfl⟩
                have ct : W.cell? ⟨w2.heap.size, q, none⟩ = some (.int .i64 tq) := by
                  rw [← htq']
                  exact row_cell htoN (by simp [toRow_get hqR, pv]) hqR
                rw [htq'] at htl htq
                have hnr : newRoot (dst 0 ((R.map Prod.fst).filter f)) v = ⟨v.k, (tq : Int)⟩ := by
                  unfold newRoot
                  rw [if_pos ⟨hL.1, hL.2.1⟩, htq]
                have HNR : Hid _ := hnr
                have hql : (q : Int) < (R.length : Int) := by omega
                clear hnr htq hq htq' e2 hL htoN hmv hanl
                have hanl : an = pre.length := by rw [← HA.out]; simp
                go_wp2_with (first
                  | (go_at_call 103; refine (H7 _ (below1 _ _)).mono ?_; clear H7; rintro e w7 ⟨rfl, hB7⟩
                     have hs7 := hB7.size
                     simp only [World.size_alloc] at hs7
                     have hbx : w7.heap[W.heap.size]? = some (.cells #[.int .u8 v.k, .int .i64 v.n] 76 (0, 0)) := (hB7.block W.heap.size (by simp)).trans (heap_alloc_new W _)
                     obtain ⟨⟨x0, x1⟩, y0, y1⟩ := cell_row2V hbx
                     have hB7w : Below W.heap.size W w7 := (below1 W _).trans (hB7.mono (by simp))
                     have ct7 := (hB7w.cell (p := ⟨w2.heap.size, q, none⟩) (World.block_lt_of_cell? W _ ct)).trans ct
                     have hO8 := row_kept (row_kept hO' (fun k e => hB7w.block k (hO'.lt k e).2)) (w' := w7.setCell ⟨W.heap.size, 1, none⟩ (.int .i64 tq)) (fun k e => heap_setCell_other w7 ⟨W.heap.size, 1, none⟩ k _ (by have := (hO'.lt k e).2; show k ≠ W.heap.size; omega))
                     have hnew : ∀ o, ((w7.setCell ⟨W.heap.size, 1, none⟩ (.int .i64 tq)).alloc o).heap[w7.heap.size]? = some o := fun o => by have := heap_alloc_new (w7.setCell ⟨W.heap.size, 1, none⟩ (.int .i64 tq)) o; simpa using this
                     clear hbx)
                  | (at_builtin; refine wpList_append_own _ rfl _ _ 23 rfl wm.heap.size 76 i2 (.agg #[.int .u8 0, .int .i64 0]) 2 16 Tryz.underlying23 hi2 hx0 hx1 hx2 rfl (by decide) _ an (vcells (pre.map (newRoot (dst 0 ((R.map Prod.fst).filter f))))) rfl (hO8.alloc _) ⟨w7.heap.size, 0, none⟩ 1 1 [.int .u8 v.k, .int .i64 tq] rfl rfl (World.news_of_block (cs := #[.int .u8 v.k, .int .i64 tq]) (t := 76) (fr := (0, 0)) (hnew _)) (by simp [Value.oneCell']) (by unfold maxLen; omega) (by omega) (by simp; omega) ?_; intro v9 w9 hown9 hgrow9 _))
                go_roundw
                case rel =>
                  refine ⟨pre ++ [v], rest, by rw [e1], by have := HVR.out; simpa using this, ?_, ?_⟩
                  · unfold OwnVals
                    have ha := HA.out
                    rw [List.map_append, List.length_append, ha, vcells_append]
                    simp only [List.map_cons, List.map_nil, List.length_cons, List.length_nil]
                    rw [HNR.out]
                    exact hown9
                  · have q1 : Below wm.heap.size wm w7 := hBW.trans (hB7w.mono hBW.size)
                    have q2 : Below wm.heap.size wm (w7.setCell ⟨W.heap.size, 1, none⟩ (.int .i64 tq)) := q1.setCell (show wm.heap.size ≤ W.heap.size from hszW) _
                    exact (q2.alloc q2.size _).trans (rbelow_grown hgrow9 (fun k e => (hO'.lt k e).1) (by simp; omega))
                case measure => simp [intOf]; omega
              · have e2 : leadI R v.k v.n = -1 := by unfold leadI; rw [if_neg hL]
                rw [e2] at H7
                have hnr : newRoot (dst 0 ((R.map Prod.fst).filter f)) v = v := by
                  unfold newRoot
                  rw [if_neg (fun h' => hL (hmv.2 h'.1))]
                have HNR : Hid _ := hnr
                clear hnr e2 hL htoN hmv
                go_wp2_with (first
                  | (go_at_call 103; refine (H7 _ (below1 _ _)).mono ?_; clear H7; rintro e w7 ⟨rfl, hB7⟩
                     have hs7 := hB7.size
                     simp only [World.size_alloc] at hs7
                     have hbx : w7.heap[W.heap.size]? = some (.cells #[.int .u8 v.k, .int .i64 v.n] 76 (0, 0)) := (hB7.block W.heap.size (by simp)).trans (heap_alloc_new W _)
                     obtain ⟨⟨x0, x1⟩, y0, y1⟩ := cell_row2V hbx
                     have hB7w : Below W.heap.size W w7 := (below1 W _).trans (hB7.mono (by simp))
                     have hO8 := row_kept hO' (fun k e => hB7w.block k (hO'.lt k e).2)
                     clear hbx)
                  | (at_builtin; refine wpList_append_own _ rfl _ _ 23 rfl wm.heap.size 76 i2 (.agg #[.int .u8 0, .int .i64 0]) 2 16 Tryz.underlying23 hi2 hx0 hx1 hx2 rfl (by decide) _ an (vcells (pre.map (newRoot (dst 0 ((R.map Prod.fst).filter f))))) rfl (hO8.alloc _) ⟨w7.heap.size, 0, none⟩ 1 1 [.int .u8 v.k, .int .i64 v.n] rfl rfl (World.news_of_block (cs := #[.int .u8 v.k, .int .i64 v.n]) (t := 76) (fr := (0, 0)) (heap_alloc_new w7 _)) (by simp [Value.oneCell']) (by unfold maxLen; omega) (by omega) (by simp; omega) ?_; intro v9 w9 hown9 hgrow9 _))
                go_roundw
                case rel =>
                  refine ⟨pre ++ [v], rest, by rw [e1], by have := HVR.out; simpa using this, ?_, ?_⟩
                  · unfold OwnVals
                    have ha := HA.out
                    rw [List.map_append, List.length_append, ha, vcells_append]
                    simp only [List.map_cons, List.map_nil, List.length_cons, List.length_nil]
                    rw [HNR.out]
                    exact hown9
                  · have q1 : Below wm.heap.size wm w7 := hBW.trans (hB7w.mono hBW.size)
                    exact (q1.alloc q1.size _).trans (rbelow_grown hgrow9 (fun k e => (hO'.lt k e).1) (by simp; omega))
                case measure => simp [intOf]; omega

end Go.Proofs.YtampilfebmfhaaaGreatDoor
