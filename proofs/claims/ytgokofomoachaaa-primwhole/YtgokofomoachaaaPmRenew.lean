/- renewed: an object in new memory. -/
import Derived.Test.YtgokofomoachaaaPmCopy
import Derived.Deep.RegionLaw
namespace Go.Proofs.Ytgokofomoachaaa
set_option linter.unusedVariables false
set_option linter.unusedSimpArgs false
open Go.RowKit

variable {w : World}

/-- An object as a value. -/
def poV (o : Om) (lv : Value) : Value := .agg #[.int .u8 o.k, .string o.s, lv, .int .i64 o.room, .int .i64 o.fn]

theorem set23_row {W : World} {g : Nat} {a b c d e : Value} {t : TypeId} (h : W.heap[g]? = some (.cells #[a, b, c, d, e] t (0, 0))) (x1 x2 : Value) : ((W.setCell ⟨g, 1, none⟩ x1).setCell ⟨g, 2, none⟩ x2).heap[g]? = some (.cells #[a, x1, x2, d, e] t (0, 0)) := by
  have h2 := heap_setCell_same W g 1 _ t x1 h
  have h3 := heap_setCell_same _ g 2 _ t x2 h2
  simpa using h3

theorem set_set_other {W : World} {g k : Nat} (x1 x2 : Value) (h : k ≠ g) : ((W.setCell ⟨g, 1, none⟩ x1).setCell ⟨g, 2, none⟩ x2).heap[k]? = W.heap[k]? := by
  rw [heap_setCell_other _ ⟨g, 2, none⟩ _ _ h, heap_setCell_other _ ⟨g, 1, none⟩ _ _ h]

set_option maxRecDepth 20000 in
set_option maxHeartbeats 1000000 in
theorem renewed_in (o : Om) {q : Option Addr} (c : Nat) (hv : Vals w q o.l) (hl : o.l.length ≤ 1000000) (hs : o.s.size ≤ 1048576) :
    Calls Try.prog 18 #[objV o q c] w fun e w' => ∃ lv, e = .returned (poV o lv) ∧ w'.ownsRow w.heap.size 26 2 lv o.l.length (vcells o.l) ∧ Below w.heap.size w w' := by
  unfold objV poV
  have H1 := fun (W : World) => clone_in o.s hs W
  have H2 := fun (W : World) (h : Below w.heap.size w W) => cloneV_in c (hv.below h) hl
  have hA := below2' w (.cells #[.int .u8 o.k, .string o.s, .slice q o.l.length c, .int .i64 o.room, .int .i64 o.fn] 39) (.cells #[.int .u8 0, .string ⟨#[]⟩, .slice none 0 0, .int .i64 0, .int .i64 0] 39)
  have hb0 := (Below.heap_alloc _ (.cells #[.int .u8 0, .string ⟨#[]⟩, .slice none 0 0, .int .i64 0, .int .i64 0] 39) w.heap.size (by simp)).trans (heap_alloc_new w (.cells #[.int .u8 o.k, .string o.s, .slice q o.l.length c, .int .i64 o.room, .int .i64 o.fn] 39))
  have hc0 := cell_row5 hb0
  go_enter Try.func18, Try.ntmps18
  go_wp2_with fail
  generalize hW : (w.alloc (.cells #[.int .u8 o.k, .string o.s, .slice q o.l.length c, .int .i64 o.room, .int .i64 o.fn] 39)).alloc (.cells #[.int .u8 0, .string ⟨#[]⟩, .slice none 0 0, .int .i64 0, .int .i64 0] 39) = W at *
  have hb1 : W.heap[w.heap.size + 1]? = some (.cells #[.int .u8 0, .string ⟨#[]⟩, .slice none 0 0, .int .i64 0, .int .i64 0] 39) := by rw [← hW]; exact heap_two w _ _
  have hsz : W.heap.size = w.heap.size + 2 := by rw [← hW]; simp
  have HSZ : Hid _ := hsz
  clear hW hsz
  have hlt0 := (Array.getElem?_eq_some_iff.1 hb0).1
  have hlt1 := (Array.getElem?_eq_some_iff.1 hb1).1
  obtain ⟨⟨c0, c1, c2, c3, c4⟩, g0, g1, g2, g3, g4⟩ := hc0
  have hAd : Below w.heap.size w W.drew := below_drew hA
  have hb0d : W.drew.heap[w.heap.size]? = some (.cells #[.int .u8 o.k, .string o.s, .slice q o.l.length c, .int .i64 o.room, .int .i64 o.fn] 39) := hb0
  have hlt0d : w.heap.size < W.drew.heap.size := hlt0
  go_region_law (first
    | (go_simp; go_at_call 48; (with_reducible refine (H1 W.drew).mono ?_); rintro e w1 ⟨rfl, hB1⟩; have hq0 := (hB1.block _ hlt0d).trans hb0d; obtain ⟨⟨c0, c1, c2, c3, c4⟩, g0, g1, g2, g3, g4⟩ := cell_row5 hq0; (try dsimp only [Oper.upon]))
    | (go_simp; go_at_call 49; (with_reducible refine (H2 w1 (hAd.trans (hB1.mono hAd.size))).mono ?_); rintro e w2 ⟨lv, rfl, hown, hB2⟩; obtain ⟨pl, cl, rfl, -⟩ := own_slice hown; have hq1 := (hB2.block _ (Array.getElem?_eq_some_iff.1 hq0).1).trans hq0; obtain ⟨⟨c0, c1, c2, c3, c4⟩, g0, g1, g2, g3, g4⟩ := cell_row5 hq1; (try dsimp only [Oper.upon]))
    | (go_simp; go_at_call 49; (with_reducible refine (H2 W.drew hAd).mono ?_); rintro e w2 ⟨lv, rfl, hown, hB2⟩; obtain ⟨pl, cl, rfl, -⟩ := own_slice hown; have hq2 := (hB2.block _ hlt0d).trans hb0d; obtain ⟨⟨c0, c1, c2, c3, c4⟩, g0, g1, g2, g3, g4⟩ := cell_row5 hq2; (try dsimp only [Oper.upon]))
    | (go_simp; go_at_call 48; (with_reducible refine (H1 w2).mono ?_); rintro e w1 ⟨rfl, hB1⟩; have hq3 := (hB1.block _ (Array.getElem?_eq_some_iff.1 hq2).1).trans hq2; obtain ⟨⟨c0, c1, c2, c3, c4⟩, g0, g1, g2, g3, g4⟩ := cell_row5 hq3; (try dsimp only [Oper.upon])))
  all_goals
    first
    | (obtain ⟨hB3, hown3, hl3⟩ := And.intro (hAd.trans ((hB1.trans (hB2.mono hB1.size)).mono hAd.size)) (And.intro (row_mono2 hown (show w.heap.size ≤ _ from Nat.le_trans hAd.size hB1.size)) (set23_row hq1 (.string o.s) (.slice pl o.l.length cl)))
       have hr3 : w2.heap[w.heap.size + 1]? = _ := ((hB1.trans (hB2.mono hB1.size)).block _ hlt1).trans hb1
       generalize hw3 : (w2.setCell ⟨w.heap.size, 1, none⟩ (.string o.s)).setCell ⟨w.heap.size, 2, none⟩ (.slice pl o.l.length cl) = w3 at *
       have ho3 : ∀ k, k ≠ w.heap.size → w3.heap[k]? = w2.heap[k]? := fun k hk => by rw [← hw3]; exact set_set_other _ _ hk
       have hsz3 : w3.heap.size = w2.heap.size := by rw [← hw3]; simp [World.setCell]
       have hBB : Below w.heap.size w w3 := by rw [← hw3]; exact below_set (below_set hB3 (Nat.le_refl _) _) (Nat.le_refl _) _)
    | (obtain ⟨hB3, hown3, hl3⟩ := And.intro (hAd.trans ((hB2.trans (hB1.mono hB2.size)).mono hAd.size)) (And.intro (row_mono2 (row_below hown hB1) (show w.heap.size ≤ _ from hAd.size)) (set23_row hq3 (.string o.s) (.slice pl o.l.length cl)))
       have hr3 : w1.heap[w.heap.size + 1]? = _ := ((hB2.trans (hB1.mono hB2.size)).block _ hlt1).trans hb1
       generalize hw3 : (w1.setCell ⟨w.heap.size, 1, none⟩ (.string o.s)).setCell ⟨w.heap.size, 2, none⟩ (.slice pl o.l.length cl) = w3 at *
       have ho3 : ∀ k, k ≠ w.heap.size → w3.heap[k]? = w1.heap[k]? := fun k hk => by rw [← hw3]; exact set_set_other _ _ hk
       have hsz3 : w3.heap.size = w1.heap.size := by rw [← hw3]; simp [World.setCell]
       have hBB : Below w.heap.size w w3 := by rw [← hw3]; exact below_set (below_set hB3 (Nat.le_refl _) _) (Nat.le_refl _) _)
    have hr4 := (ho3 (w.heap.size + 1) (by omega)).trans hr3
    have hown4 : w3.ownsRow w.heap.size 26 2 (.slice pl o.l.length cl) o.l.length (vcells o.l) := row_kept hown3 (fun k e => ho3 k (fun hk => by
      obtain ⟨cur, hcur⟩ := row_obj hown3 e
      subst hk
      first | (rw [hq1] at hcur; cases hcur) | (rw [hq3] at hcur; cases hcur)))
    have HO : Hid _ := And.intro hown4 hBB
    obtain ⟨⟨x0, x1, x2, x3, x4⟩, -⟩ := cell_row5 hl3
    obtain ⟨⟨z0, z1, z2, z3, z4⟩, y0, y1, y2, y3, y4⟩ := cell_row5 hr4
    have HRR : Hid _ := hr4
    clear hw3 ho3 hsz3 hBB hown4 hown3 hown hB3 hB1 hB2 hl3 hr4 hr3
    go_wp2
    refine bodyPost_ret (results_cell_row (by rfl) _ _ (w.heap.size + 1) 39 _ _ _ (by rfl) (set5_row HRR.out) Try.underlying39 (by rfl) infoO) (by rfl) ?_
    refine ⟨.slice pl o.l.length cl, rfl, row_kept HO.out.1 (fun k e => ?_), below_set5 HO.out.2 (by omega) _ _ _ _ _⟩
    have hgne : k ≠ w.heap.size + 1 := fun hk => by
      obtain ⟨cur, hcur⟩ := row_obj HO.out.1 e
      subst hk
      rw [HRR.out] at hcur; cases hcur
    rw [heap_setCell_other _ ⟨w.heap.size + 1, 4, none⟩ _ _ hgne, heap_setCell_other _ ⟨w.heap.size + 1, 3, none⟩ _ _ hgne, heap_setCell_other _ ⟨w.heap.size + 1, 2, none⟩ _ _ hgne, heap_setCell_other _ ⟨w.heap.size + 1, 1, none⟩ _ _ hgne, heap_setCell_other _ ⟨w.heap.size + 1, 0, none⟩ _ _ hgne]

end Go.Proofs.Ytgokofomoachaaa
