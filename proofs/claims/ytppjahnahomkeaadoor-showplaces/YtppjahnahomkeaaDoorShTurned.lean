/- law04's turned. -/
import Derived.Test.YtppjahnahomkeaaDoorShTurn
import Derived.Deep.AppendLies
namespace Go.Proofs.YtppjahnahomkeaaDoor
set_option linter.unusedVariables false
set_option linter.unusedSimpArgs false
open Go.RowKit

variable {w : World}

theorem hB_cell {n : Nat} {w w' : World} {a : Addr} (h : Below n w w') (hlt : a.block < n) : w'.cell? a = w.cell? a := h.cell hlt

theorem keep3 {W : World} {a b c : Addr} {x y z v : Value} {g i : Nat} (h : W.cell? a = some x ∧ W.cell? b = some y ∧ W.cell? c = some z) (h1 : a.block ≠ g) (h2 : b.block ≠ g) (h3 : c.block ≠ g) :
    (W.setCell ⟨g, i, none⟩ v).cell? a = some x ∧ (W.setCell ⟨g, i, none⟩ v).cell? b = some y ∧ (W.setCell ⟨g, i, none⟩ v).cell? c = some z :=
  ⟨(World.cell?_of_block (heap_setCell_other W ⟨g, i, none⟩ _ v h1)).trans h.1, (World.cell?_of_block (heap_setCell_other W ⟨g, i, none⟩ _ v h2)).trans h.2.1, (World.cell?_of_block (heap_setCell_other W ⟨g, i, none⟩ _ v h3)).trans h.2.2⟩

theorem vals_one (w1 : World) (x : Vl) : Vals (w1.alloc (.cells #[.int .u8 x.k, .int .i64 x.n] 26)) (some ⟨w1.heap.size, 0, none⟩) [x] :=
  vals_block (heap_alloc_new w1 _) (fun j v hj => by
    have h0 : j = 0 := by have := (List.getElem?_eq_some_iff.1 hj).1; simp at this; exact this
    subst h0
    simp at hj; subst hj
    exact ⟨rfl, rfl⟩)

theorem own_one {W : World} {base : Nat} {v : Value} {n : Nat} {pre : List Vl} {u : Vl} {m : Nat} (h : W.ownsRow base 26 2 v (m + [tv n u].length) (vcells (pre.map (tv n)) ++ vcells [tv n u])) : ∃ q c, v = .slice q (m + 1) c ∧ W.ownsRow base 26 2 (.slice q (m + 1) c) (m + 1) (vcells ((pre ++ [u]).map (tv n))) := by
  rw [← vcells_append] at h
  have e : pre.map (tv n) ++ [tv n u] = (pre ++ [u]).map (tv n) := by simp
  rw [e] at h
  rcases h.2 with ⟨hv, h0⟩ | ⟨g, cap, cur, rfl, _⟩
  · simp at h0
  · exact ⟨_, cap, rfl, h⟩

theorem set2_rowV {W : World} {g : Nat} {a b x y : Value} {t : TypeId} (h : W.heap[g]? = some (.cells #[a, b] t (0, 0))) : ((W.setCell ⟨g, 0, none⟩ x).setCell ⟨g, 1, none⟩ y).heap[g]? = some (.cells #[x, y] t (0, 0)) := by
  have h1 := heap_setCell_same W g 0 _ t x h
  have h2 := heap_setCell_same _ g 1 _ t y h1
  simpa using h2

set_option maxRecDepth 20000 in
set_option maxHeartbeats 4000000 in
theorem turned_in {p : Option Addr} {S : List Om} (c : Nat) (hs : IsSt w p S) (hlen : S.length ≤ 1048576) (hls : ∀ o ∈ S, o.l.length ≤ 1000000) (v : Vl) :
    Calls Tryd.prog 13 #[.slice p S.length c, .agg #[.int .u8 v.k, .int .i64 v.n]] w fun e w' => ∃ q cc, e = .returned (.tuple #[.slice q S.length cc, .agg #[.int .u8 (tv S.length v).k, .int .i64 (tv S.length v).n]]) ∧ IsSt w' q (tS S) ∧ Below w.heap.size w w' := by
  have hB0 := below3' w (.cells #[.int .u8 v.k, .int .i64 v.n] 26) (.cells #[.int .u8 0, .int .i64 0] 26) (.cells #[.int .i64 S.length] 2)
  have hk0 := heap3_0 w (.cells #[.int .u8 v.k, .int .i64 v.n] 26) (.cells #[.int .u8 0, .int .i64 0] 26) (.cells #[.int .i64 S.length] 2)
  have hk1 := heap3_1 w (.cells #[.int .u8 v.k, .int .i64 v.n] 26) (.cells #[.int .u8 0, .int .i64 0] 26) (.cells #[.int .i64 S.length] 2)
  have hk2 := heap3_2 w (.cells #[.int .u8 v.k, .int .i64 v.n] 26) (.cells #[.int .u8 0, .int .i64 0] 26) (.cells #[.int .i64 S.length] 2)
  have hsz0 : (((w.alloc (.cells #[.int .u8 v.k, .int .i64 v.n] 26)).alloc (.cells #[.int .u8 0, .int .i64 0] 26)).alloc (.cells #[.int .i64 S.length] 2)).heap.size = w.heap.size + 3 := by simp
  obtain ⟨i0, hi0, hz0, hz1, hz2⟩ := info_parts infoV
  obtain ⟨j0, hj0, hy0, hy1, hy2⟩ := info_parts infoO2
  go_enter Tryd.func13, Tryd.ntmps13
  go_wp2
  generalize hWA : ((w.alloc (.cells #[.int .u8 v.k, .int .i64 v.n] 26)).alloc (.cells #[.int .u8 0, .int .i64 0] 26)).alloc (.cells #[.int .i64 S.length] 2) = WA at *
  clear hWA
  go_loopw [8, 9] (fun t k wr => ∃ ts : List Ov, k = .int .i64 ((S.length : Int) - 1 - ts.length) ∧ ts.length ≤ S.length ∧ ts.map Ov.o = (tS S).take ts.length ∧ wr.ownsRow WA.heap.size 39 5 t ts.length (ovcells ts) ∧ (∀ x ∈ ts, wr.ownsRow WA.heap.size 26 2 x.sl x.o.l.length (vcells x.o.l)) ∧ Below WA.heap.size WA wr) (fun _ k _ => (intOf k + 1).toNat)
  case atStart => exact ⟨[], by simp, by simp, by simp, World.ownsRow_nil _ _ _ _, by simp, Below.refl _ _⟩
  case round =>
    obtain ⟨wo, hwo⟩ : ∃ x, x = wr := ⟨_, rfl⟩
    subst hwo
    obtain ⟨ts, rfl, hle, hmap, hrow, hvs, hB⟩ := hrel
    have hbw : Below w.heap.size w wo := hB0.trans (hB.mono (by omega))
    have hn0 := (hB.block w.heap.size (by omega)).trans hk0
    have hn1 := (hB.block (w.heap.size + 1) (by omega)).trans hk1
    have hn2 := (hB.block (w.heap.size + 1 + 1) (by omega)).trans hk2
    have hsz := hB.size
    by_cases hend : ts.length = S.length
    · have hi : (S.length : Int) - 1 - (ts.length : Int) = -1 := by omega
      rw [hi]
      have H1 := turn1_in S.length hlen v (w.heap.size + 1 + 1) hn2
      obtain ⟨q, cc, rfl, hst⟩ := st_of_ov hrow hvs
      rw [hend]
      rw [hend, List.take_of_length_le (by rw [tS_len]; omega)] at hmap
      rw [hend] at hrow
      obtain ⟨v0, v1⟩ := cell_rowV hn0
      have HH : Hid _ := And.intro hend (And.intro hi (And.intro hrow (And.intro hvs (And.intro hmap hsz0))))
      have hl1 : w.heap.size + 1 < wo.heap.size := by omega
      have hl2 : w.heap.size ≤ wo.heap.size := by omega
      clear hi hend hrow hvs hmap hst hsz0
      go_wp2_with (first
        | (go_at_call 24; (with_reducible refine H1.mono ?_); clear H1; rintro e w2 ⟨rfl, hB2⟩; have hm1 := (hB2.block (w.heap.size + 1) hl1).trans hn1; obtain ⟨u0, u1⟩ := cell_rowV hm1; have z0 := frozen_of_row _ _ 0 _ _ hm1; have z1 := frozen_of_row _ _ 1 _ _ hm1))
      show bodyPost Tryd.prog Tryd.f13 _ _ _ _
      refine bodyPost_ret (results_tmp_row (by rfl) _ _ (w.heap.size + 1) 26 #[.int .u8 (tv S.length v).k, .int .i64 (tv S.length v).n] (0, 0) _ (by rfl) (set2_rowV hm1) Tryd.underlying26 (by rfl) infoV3) (by rfl) ?_
      have hb2 : Below w.heap.size w w2 := hbw.trans (hB2.mono hl2)
      refine ⟨q, cc, rfl, ?_, below_set (below_set hb2 (by omega) _) (by omega) _⟩
      obtain ⟨hend, -, hrow, hvs, hmap, hsz0⟩ := HH.out
      have key : ∀ {e s n : Nat} {x : Value} {xs : List Value}, wo.ownsRow WA.heap.size e s x n xs → ((w2.setCell ⟨w.heap.size + 1, 0, none⟩ (.int .u8 (tv S.length v).k)).setCell ⟨w.heap.size + 1, 1, none⟩ (.int .i64 (tv S.length v).n)).ownsRow WA.heap.size e s x n xs := fun {e s n x xs} h => row_kept (row_below h hB2) (fun k ek => by
        have h1 := (h.lt k ek).1
        rw [heap_setCell_other _ ⟨w.heap.size + 1, 1, none⟩ _ _ (by dsimp only; omega), heap_setCell_other _ ⟨w.heap.size + 1, 0, none⟩ _ _ (by dsimp only; omega)])
      rw [← hend] at hrow
      obtain ⟨q', c', e', hst⟩ := st_of_ov (key hrow) (fun x hx => key (hvs x hx))
      cases e'
      rw [hmap] at hst
      exact hst
    · have hlt : ts.length < S.length := by omega
      obtain ⟨o, ho⟩ : ∃ o, S[S.length - 1 - ts.length]? = some o := ⟨S[S.length - 1 - ts.length], by simp⟩
      obtain ⟨j, hj⟩ : ∃ j, j = S.length - 1 - ts.length := ⟨_, rfl⟩
      have hi : (S.length : Int) - 1 - (ts.length : Int) = (j : Int) := by omega
      have hjn : (j : Int) < (S.length : Int) := by omega
      have hsn := tS_snoc hlt ho
      rw [← hj] at ho
      have hoS := List.mem_of_getElem? ho
      have hol := hls o hoS
      obtain ⟨b0, off, rfl, c0, c1, ⟨qo, co, c2, hvo, hqo⟩, c3, c4⟩ := hs.look hbw ho
      rw [hi]
      have HH : Hid _ := And.intro hj (And.intro hi (And.intro hsn (And.intro ho hsz0)))
      have hb0l : b0 < wo.heap.size := World.block_lt_of_cell? _ _ c0
      have hl2 : w.heap.size + 1 + 1 < wo.heap.size := by omega
      clear hj hi hsn ho hend hsz0
      have hneg : ¬ ((j : Int) < 0) := by omega
      have hnn : S.length ≤ 1048576 := hlen
      have hB1 := below1 wo (.cells #[.int .u8 o.k, .string o.s, .slice none 0 0, .int .i64 o.room, .int .i64 o.fn] 39)
      have hbb := heap_alloc_new wo (.cells #[.int .u8 o.k, .string o.s, .slice none 0 0, .int .i64 o.room, .int .i64 o.fn] 39)
      go_wp2
      go_loopw [11] (fun k wr => ∃ (pre rest : List Vl) (q : Option Addr) (cq : Nat), k = .int .i64 pre.length ∧ o.l = pre ++ rest ∧ wr.heap[wo.heap.size]? = some (.cells #[.int .u8 o.k, .string o.s, .slice q pre.length cq, .int .i64 o.room, .int .i64 o.fn] 39 (0, 0)) ∧ wr.ownsRow (wo.heap.size + 1) 26 2 (.slice q pre.length cq) pre.length (vcells (pre.map (tv S.length))) ∧ Below wo.heap.size wo wr) (fun k _ => o.l.length - (intOf k).toNat)
      case atStart => exact ⟨[], o.l, none, 0, rfl, rfl, hbb, World.ownsRow_nil _ _ _ _, hB1⟩
      case round =>
        obtain ⟨pre, rest, q, cq, rfl, hR, hblk, hrv, hBi⟩ := hrel
        have hbi : Below w.heap.size w wr := hbw.trans (hBi.mono hbw.size)
        obtain ⟨c0, c1, c2, c3, c4⟩ : wr.cell? ⟨b0, off + j * 5, none⟩ = some (.int .u8 o.k) ∧ wr.cell? ⟨b0, off + j * 5 + 1, none⟩ = some (.string o.s) ∧ wr.cell? ⟨b0, off + j * 5 + 2, none⟩ = some (.slice qo o.l.length co) ∧ wr.cell? ⟨b0, off + j * 5 + 3, none⟩ = some (.int .i64 o.room) ∧ wr.cell? ⟨b0, off + j * 5 + 4, none⟩ = some (.int .i64 o.fn) := by
          have hlt := World.block_lt_of_cell? _ _ c0
          exact ⟨(hBi.cell (p := ⟨b0, off + j * 5, none⟩) hlt).trans c0, (hBi.cell (p := ⟨b0, off + j * 5 + 1, none⟩) hlt).trans c1, (hBi.cell (p := ⟨b0, off + j * 5 + 2, none⟩) hlt).trans c2, (hBi.cell (p := ⟨b0, off + j * 5 + 3, none⟩) hlt).trans c3, (hBi.cell (p := ⟨b0, off + j * 5 + 4, none⟩) hlt).trans c4⟩
        obtain ⟨⟨e0, e1, e2, e3, e4⟩, ⟨f0, f1, f2, f3, f4⟩⟩ := cell_row5 hblk
        have hszi := hBi.size
        cases rest with
        | nil =>
          have hR' : o.l = pre := by simpa using hR
          have hq : ¬ ((pre.length : Int) < (o.l.length : Int)) := by rw [hR']; omega
          have hrow2 := row_below hrow hBi
          have HR : Hid _ := And.intro hR' (And.intro hmap (And.intro hrow hvs))
          clear hR hR' hmap hvs hrow
          have hsz2 := hBi.size
          go_wp2_with (first
            | (at_builtin; go_loud (refine wpList_append_own _ rfl _ _ 23 rfl WA.heap.size 39 j0 (.agg #[.int .u8 0, .string ⟨#[]⟩, .slice none 0 0, .int .i64 0, .int .i64 0]) 5 64 Tryd.underlying23 hj0 hy0 hy1 hy2 rfl (by decide) _ ts.length _ rfl (hrow2.alloc _) ⟨wr.heap.size, 0, none⟩ 1 1 [.int .u8 o.k, .string o.s, .slice q pre.length cq, .int .i64 o.room, .int .i64 o.fn] rfl rfl (World.news_of_block (cs := #[.int .u8 o.k, .string o.s, .slice q pre.length cq, .int .i64 o.room, .int .i64 o.fn]) (t := 39) (fr := (0, 0)) (heap_alloc_new wr _)) (by simp [Value.oneCell']) (by unfold maxLen; omega) (by omega) (by simp; omega) ?_; intro v4 w4 hown4 hgrow4 _)))
          go_roundw
          case rel =>
            obtain ⟨hR', hmap, hrow, hvs⟩ := HR.out
            obtain ⟨hj, hi, hsn, -, hsz0⟩ := HH.out
            have e1 : (ts ++ [(⟨tO S.length o, .slice q pre.length cq⟩ : Ov)]).length = ts.length + 1 := by simp
            have key : ∀ {y : Ov}, wr.ownsRow WA.heap.size 26 2 y.sl y.o.l.length (vcells y.o.l) → w4.ownsRow WA.heap.size 26 2 y.sl y.o.l.length (vcells y.o.l) := fun {y} h1 => by
              refine row_kept h1 (fun k ek => (hgrow4.block _ (by have := (h1.lt k ek).2; simp; omega) (fun e => ?_)).trans (Below.heap_alloc _ _ _ (h1.lt k ek).2))
              obtain ⟨cur, hc⟩ := row_obj hrow2 e.symm
              obtain ⟨cur', hc'⟩ := row_obj h1 ek
              rw [hc] at hc'
              cases hc'
            refine ⟨ts ++ [⟨tO S.length o, .slice q pre.length cq⟩], ?_, by rw [e1]; omega, ?_, ?_, ?_, ?_⟩
            · rw [e1]
              congr 1
              omega
            · rw [e1, hsn, List.map_append, hmap]; rfl
            · rw [e1, ovcells_append]
              simpa [ovcells, ovcell, tO] using hown4
            · intro x hx
              rcases List.mem_append.1 hx with hx | hx
              · exact key (row_below (hvs x hx) hBi)
              · simp at hx; subst hx
                refine key ?_
                have e2 : (tO S.length o).l = pre.map (tv S.length) := by rw [← hR']; rfl
                rw [e2, List.length_map]
                exact row_mono2 hrv (by omega)
            · exact ((hB.trans (hBi.mono hsz)).alloc (by omega) _).trans (rbelow_grown hgrow4 (fun k e => (hrow2.lt k e).1) (by simp; omega))
          case measure => simp [intOf]
        | cons u rest =>
          have hlR : pre.length < o.l.length := by rw [hR]; simp
          have hlR' : (pre.length : Int) < (o.l.length : Int) := by omega
          obtain ⟨vb, voff, rfl, d0', d1'⟩ := hvo pre.length u (by rw [hR]; simp)
          have hvlt : vb < w.heap.size := World.block_lt_of_cell? _ _ d0'
          have d0 := (hB_cell hbi hvlt).trans d0'
          have d1 := (hB_cell hbi hvlt).trans d1'
          have hwle := hbw.size
          have hblt : wo.heap.size < wr.heap.size := (Array.getElem?_eq_some_iff.1 hblk).1
          have H1 := fun (W : World) (h : Below wr.heap.size wr W) => turn1_in (w := W) S.length hnn u (w.heap.size + 1 + 1) ((h.block _ (by omega)).trans ((hBi.block _ hl2).trans hn2))
          have HR : Hid _ := hR
          clear hR
          have F := fun (W : World) (h : Below (wo.heap.size + 1) wr W) => show (W.cell? ⟨b0, off + j * 5 + 2, none⟩ = some (.slice (some ⟨vb, voff, none⟩) o.l.length co) ∧ W.cell? ⟨vb, voff + pre.length * 2, none⟩ = some (.int .u8 u.k) ∧ W.cell? ⟨vb, voff + pre.length * 2 + 1, none⟩ = some (.int .i64 u.n)) ∧ W.heap[wo.heap.size]? = some (.cells #[.int .u8 o.k, .string o.s, .slice q pre.length cq, .int .i64 o.room, .int .i64 o.fn] 39 (0, 0)) from
            ⟨⟨(hB_cell h (by dsimp only; omega)).trans c2, (hB_cell h (by dsimp only; omega)).trans d0, (hB_cell h (by dsimp only; omega)).trans d1⟩, (h.block wo.heap.size (by omega)).trans hblk⟩
          have hle0 : wo.heap.size + 1 ≤ wr.heap.size := hblt
          have hpl : (pre ++ [u]).length = pre.length + 1 := by simp
          have HPL : Hid _ := hpl
          clear hpl
          have hq1 : b0 ≠ wo.heap.size := by omega
          have hq2 : vb ≠ wo.heap.size := by omega
          have e2d : wr.drew.cell? ⟨wo.heap.size, 2, none⟩ = some (.slice q pre.length cq) := e2
          go_wp2_with (first | fail)
          go_region_law (first
              | (refine step_append_lies _ (by rfl) _ _ _ (by rfl) (wo.heap.size + 1) 26 i0 _ 2 16 Tryd.underlying37 hi0 hz0 hz1 hz2 rfl (by omega) (.slice q pre.length cq) pre.length (vcells (pre.map (tv S.length))) (by rfl) (by first | exact (row_below hrv hB3).alloc _ | exact ((row_below hrv hB3).alloc _).drew) ⟨w1.heap.size, 0, none⟩ 1 1 [.int .u8 (tv S.length u).k, .int .i64 (tv S.length u).n] (by rfl) rfl (World.news_of_block (cs := #[.int .u8 (tv S.length u).k, .int .i64 (tv S.length u).n]) (t := 26) (fr := (0, 0)) (heap_alloc_new w1 _)) (by simp [Value.oneCell']) (by omega) (by unfold maxLen; omega) (by omega) (by simp; omega) (w1.heap.size + 1) (by simp) ?_; intro g4 c4 w4 ho4 hg4 hat4 hlt4
                 have hB4 : Below (wo.heap.size + 1) wr w4 := ((hB3.mono hle0).alloc (by omega) _).trans (rbelow_grown (W := w1.alloc (.cells #[.int .u8 (tv S.length u).k, .int .i64 (tv S.length u).n] 26)) (by first | exact hg4 | exact ⟨hg4.os, hg4.tape, hg4.output, hg4.size, hg4.block⟩) (fun k e => (hrv.lt k e).1) (by simp; omega))
                 obtain ⟨⟨F4a, F4b, F4c⟩, hblk4⟩ := F w4 hB4
                 obtain ⟨⟨x0, x1, x2, x3, x4⟩, ⟨y0, y1, y2, y3, y4⟩⟩ := cell_row5 hblk4)
              | (go_simp; go_at_call 24; (first | (with_reducible refine (H1 _ (below_drew (Below.refl _ _))).mono ?_) | (with_reducible refine (H1 _ (Below.refl _ _)).mono ?_)); rintro e w1 ⟨rfl, hB2⟩; have hB3 : Below wr.heap.size wr w1 := (below_drew (Below.refl wr.heap.size wr)).trans hB2; obtain ⟨⟨F1a, F1b, F1c⟩, hblk2⟩ := F w1 (hB3.mono hle0); obtain ⟨⟨p0, p1, p2, p3, p4⟩, -⟩ := cell_row5 hblk2; have hzz := hB3.size; have p2d : w1.drew.cell? ⟨wo.heap.size, 2, none⟩ = some (.slice q pre.length cq) := p2; have hbl1 : wo.heap.size < w1.heap.size := Nat.lt_of_lt_of_le hblt hzz; have p2a : (w1.alloc (.cells #[.int .u8 (tv S.length u).k, .int .i64 (tv S.length u).n] 26)).cell? ⟨wo.heap.size, 2, none⟩ = some (.slice q pre.length cq) := (World.cell?_of_block (a := ⟨wo.heap.size, 2, none⟩) (Below.heap_alloc w1 _ wo.heap.size hbl1)).trans p2; (try dsimp only [Oper.upon])))
          all_goals
            go_wp2
            go_roundw
            case rel =>
              have hgne : g4 ≠ wo.heap.size := by
                have := (ho4.lt g4 rfl).1
                omega
              have e9 : pre.map (tv S.length) ++ [tv S.length u] = (pre ++ [u]).map (tv S.length) := by simp
              refine ⟨pre ++ [u], rest, some ⟨g4, 0, none⟩, c4, by simp, by rw [HR.out]; simp, ?_, ?_, ?_⟩
              · rw [HPL.out]
                have := heap_setCell_same _ wo.heap.size 2 _ 39 (.slice (some ⟨g4, 0, none⟩) (pre.length + 1) c4) hblk4
                simpa using this
              · rw [HPL.out, ← e9, vcells_append]
                refine row_kept (w := w4) ho4 (fun k e => ?_)
                simp [Value.ownBlock] at e
                subst e
                exact heap_setCell_other _ ⟨wo.heap.size, 2, none⟩ _ _ hgne
              · exact below_set (hBi.trans (hB4.mono (by omega))) (Nat.le_refl _) _
            case measure => simp [intOf]; omega

end Go.Proofs.YtppjahnahomkeaaDoor
