/- Clones: of values, of objects; renewed, copyOf. -/
import Derived.Test.YtgokofomoachaaaGreatDoorPmMem
import Derived.Test.YtgokofomoachaaaGreatDoorShelf
import Derived.Lib.LazyBuf
import Derived.Deep.RegionLaw
namespace Go.Proofs.YtgokofomoachaaaGreatDoor
set_option linter.unusedVariables false
set_option linter.unusedSimpArgs false
open Go.RowKit

variable {w : World}

theorem eqlNilV (w : World) (a : Option Addr) (l c : Nat) : (binOp .eql 47 (.slice a l c) (.slice none 0 0)).run Tryz.prog w = .ok (.bool a.isNone) w := run_eql_slice_nil w _ _ a l c Tryz.underlying47

theorem eqlNilS (w : World) (a : Option Addr) (l c : Nat) : (binOp .eql 23 (.slice a l c) (.slice none 0 0)).run Tryz.prog w = .ok (.bool a.isNone) w := run_eql_slice_nil w _ _ a l c Tryz.underlying23

/-- A slice of no length is still a row. -/
theorem ownsRow_empty (w : World) (base e s : Nat) (hb : base ≤ w.heap.size) : (w.alloc (.cells #[] e)).ownsRow base e s (.slice (some ⟨w.heap.size, 0, none⟩) 0 0) 0 [] :=
  ⟨by simp, .inr ⟨w.heap.size, 0, #[], rfl, hb, heap_alloc_new w _, Nat.le_refl _, by unfold maxLen; omega, by simp, by simp⟩⟩

theorem Vals.nil {p : Option Addr} {vs : List Vl} (hv : Vals w p vs) (h : p = none) : vs = [] := by
  cases vs with
  | nil => rfl
  | cons u r =>
    obtain ⟨b0, off, e, _⟩ := hv 0 u (by simp)
    rw [h] at e; cases e

set_option maxRecDepth 20000 in
set_option maxHeartbeats 1000000 in
theorem cloneV_in {p : Option Addr} {vs : List Vl} (c : Nat) (hv : Vals w p vs) (hlen : vs.length ≤ 1000000) :
    Calls Tryz.prog 242 #[.slice p vs.length c] w fun e w' => ∃ v, e = .returned v ∧ w'.ownsRow w.heap.size 27 2 v vs.length (vcells vs) ∧ Below w.heap.size w w' := by
  cases p with
  | none =>
    have hz := hv.nil rfl
    subst hz
    have hnil := fun w => eqlNilV w none 0 c
    simp only [Option.isNone_none] at hnil
    clear hv hlen
    go_enter Tryz.func242, Tryz.ntmps242
    go_wp2
    go_ret
    exact ⟨_, rfl, World.ownsRow_nil _ _ _ _, Below.refl _ _⟩
  | some ad =>
    have hl : (vcells vs).length = vs.length * 2 := vcells_len vs
    have hn : ∀ (w' : World), Below w.heap.size w w' → ∀ j u, (vcells vs)[j]? = some u → w'.cell? (ad.add j) = some u := by
      intro w' hB j u hj
      obtain ⟨i, y, hy, hu⟩ := vcells_at vs j u hj
      obtain ⟨b0, off, e, h1, h2⟩ := (hv.below hB) i y hy
      cases e
      rcases hu with ⟨rfl, rfl⟩ | ⟨rfl, rfl⟩
      · rw [Addr.add_lit]; exact h1
      · rw [Addr.add_lit, ← Nat.add_assoc]; exact h2
    obtain ⟨i0, hi, hz0, hz1, hz2⟩ := info_parts infoV
    have hnil := fun w => eqlNilV w (some ad) vs.length c
    simp only [Option.isNone_some] at hnil
    go_enter Tryz.func242, Tryz.ntmps242
    go_wp2_with (first
      | (at_builtin; refine wpList_append_own _ rfl _ _ 47 rfl w.heap.size 27 i0 (.agg #[.int .u8 0, .int .i64 0]) 2 16 Tryz.underlying47 hi hz0 hz1 hz2 rfl (by decide) _ 0 [] rfl (ownsRow_empty w _ _ _ (Nat.le_refl _)) ad vs.length c (vcells vs) rfl hl (hn _ (below1 _ _)) (vcells_one vs) (by unfold maxLen; omega) (by omega) (by simp) ?_; intro v4 w4 hown4 hgrow4 _))
    go_ret
    refine ⟨v4, rfl, ?_, (below1 w _).trans (rbelow_grown hgrow4 (fun q e => by cases e; exact Nat.le_refl _) (by simp))⟩
    simpa using hown4

set_option maxRecDepth 20000 in
set_option maxHeartbeats 1000000 in
theorem cloneS_in {p : Option Addr} {ts : List Po} (c : Nat) (hc : ∀ j u, (pcells ts)[j]? = some u → ∃ b0 off, p = some ⟨b0, off, none⟩ ∧ w.cell? ⟨b0, off + j, none⟩ = some u) (hsl : ∀ x ∈ ts, x.sl) (hlen : ts.length ≤ 1048576) :
    Calls Tryz.prog 187 #[.slice p ts.length c] w fun e w' => ∃ v, e = .returned v ∧ w'.ownsRow w.heap.size 96 5 v ts.length (pcells ts) ∧ Below w.heap.size w w' := by
  cases p with
  | none =>
    have hz : ts = [] := by
      cases ts with
      | nil => rfl
      | cons x r => obtain ⟨b0, off, e, -⟩ := hc 0 (.int .u8 x.o.k) (by simp [pcells, pcell]); cases e
    subst hz
    have hnil := fun w => eqlNilS w none 0 c
    simp only [Option.isNone_none] at hnil
    clear hc hlen hsl
    go_enter Tryz.func187, Tryz.ntmps187
    go_wp2
    go_ret
    exact ⟨_, rfl, World.ownsRow_nil _ _ _ _, Below.refl _ _⟩
  | some ad =>
    have hl : (pcells ts).length = ts.length * 5 := pcells_len ts
    have hn : ∀ (w' : World), Below w.heap.size w w' → ∀ j u, (pcells ts)[j]? = some u → w'.cell? (ad.add j) = some u := by
      intro w' hB j u hj
      obtain ⟨b0, off, e, h1⟩ := hc j u hj
      cases e
      rw [Addr.add_lit]
      exact (hB.cell (p := ⟨b0, off + j, none⟩) (World.block_lt_of_cell? w _ h1)).trans h1
    obtain ⟨i0, hi, hz0, hz1, hz2⟩ := info_parts infoO5
    have hnil := fun w => eqlNilS w (some ad) ts.length c
    simp only [Option.isNone_some] at hnil
    have hone := pcells_one hsl
    clear hc hsl
    go_enter Tryz.func187, Tryz.ntmps187
    go_wp2_with (first
      | (at_builtin; refine wpList_append_own _ rfl _ _ 23 rfl w.heap.size 96 i0 (.agg #[.int .u8 0, .string ⟨#[]⟩, .slice none 0 0, .int .i64 0, .int .i64 0]) 5 64 Tryz.underlying23 hi hz0 hz1 hz2 rfl (by decide) _ 0 [] rfl (ownsRow_empty w _ _ _ (Nat.le_refl _)) ad ts.length c (pcells ts) rfl hl (hn _ (below1 _ _)) hone (by unfold maxLen; omega) (by omega) (by simp) ?_; intro v4 w4 hown4 hgrow4 _))
    go_ret
    refine ⟨v4, rfl, ?_, (below1 w _).trans (rbelow_grown hgrow4 (fun q e => by cases e; exact Nat.le_refl _) (by simp))⟩
    simpa using hown4

theorem clone_in (s : ByteArray) (hs : s.size ≤ 1048576) (w : World) : Calls Tryz.prog 241 #[.string s] w fun e w' => e = .returned (.string s) ∧ Below w.heap.size w w' := by
  have H := Tryz.stringslite_Clone s w (by omega)
  go_enter Tryz.func241, Tryz.ntmps241
  go_wp2_with (first
    | (go_at_call 263; refine H.mono ?_; clear H; rintro e w1 ⟨rfl, hB⟩))
  go_ret
  exact ⟨rfl, hB⟩

end Go.Proofs.YtgokofomoachaaaGreatDoor

namespace Go.Proofs.YtgokofomoachaaaGreatDoor
set_option linter.unusedVariables false
set_option linter.unusedSimpArgs false
open Go.RowKit

variable {w : World}

/-- An object as a value. -/
def poV (o : Om) (lv : Value) : Value := .agg #[.int .u8 o.k, .string o.s, lv, .int .i64 o.room, .int .i64 o.fn]

theorem set23_row {W : World} {g : Nat} {a b c d e : Value} {t : TypeId} (h : W.heap[g]? = some (.cells #[a, b, c, d, e] t (0, 0))) (x1 x2 : Value) : ((W.setCell ⟨g, 1, none⟩ x1).setCell ⟨g, 2, none⟩ x2).heap[g]? = some (.cells #[a, x1, x2, d, e] t (0, 0)) := by
  have h2 := heap_setCell_same W g 1 _ t x1 h
  have h3 := heap_setCell_same _ g 2 _ t x2 h2
  simpa using h3

theorem set_set_other {W : World} {g k : Nat} (x1 x2 : Value) (h : k ≠ g) : ((W.setCell ⟨g, 1, none⟩ x1).setCell ⟨g, 2, none⟩ x2).heap[k]? = W.heap[k]? := by
  rw [heap_setCell_other _ ⟨g, 2, none⟩ _ _ h, heap_setCell_other _ ⟨g, 1, none⟩ _ _ h]

set_option maxRecDepth 20000 in
set_option maxHeartbeats 1000000 in
theorem renewed_in (o : Om) {q : Option Addr} (c : Nat) (hv : Vals w q o.l) (hl : o.l.length ≤ 1000000) (hs : o.s.size ≤ 1048576) :
    Calls Tryz.prog 156 #[objV o q c] w fun e w' => ∃ lv, e = .returned (poV o lv) ∧ w'.ownsRow w.heap.size 27 2 lv o.l.length (vcells o.l) ∧ Below w.heap.size w w' := by
  unfold objV poV
  have H1 := fun (W : World) => clone_in o.s hs W
  have H2 := fun (W : World) (h : Below w.heap.size w W) => cloneV_in c (hv.below h) hl
  have hA := below2' w (.cells #[.int .u8 o.k, .string o.s, .slice q o.l.length c, .int .i64 o.room, .int .i64 o.fn] 96) (.cells #[.int .u8 0, .string ⟨#[]⟩, .slice none 0 0, .int .i64 0, .int .i64 0] 96)
  have hb0 := (Below.heap_alloc _ (.cells #[.int .u8 0, .string ⟨#[]⟩, .slice none 0 0, .int .i64 0, .int .i64 0] 96) w.heap.size (by simp)).trans (heap_alloc_new w (.cells #[.int .u8 o.k, .string o.s, .slice q o.l.length c, .int .i64 o.room, .int .i64 o.fn] 96))
  have hc0 := cell_row5 hb0
  go_enter Tryz.func156, Tryz.ntmps156
  go_wp2_with fail
  generalize hW : (w.alloc (.cells #[.int .u8 o.k, .string o.s, .slice q o.l.length c, .int .i64 o.room, .int .i64 o.fn] 96)).alloc (.cells #[.int .u8 0, .string ⟨#[]⟩, .slice none 0 0, .int .i64 0, .int .i64 0] 96) = W at *
  have hb1 : W.heap[w.heap.size + 1]? = some (.cells #[.int .u8 0, .string ⟨#[]⟩, .slice none 0 0, .int .i64 0, .int .i64 0] 96) := by rw [← hW]; exact heap_two w _ _
  have hsz : W.heap.size = w.heap.size + 2 := by rw [← hW]; simp
  have HSZ : Hid _ := hsz
  clear hW hsz
  have hlt0 := (Array.getElem?_eq_some_iff.1 hb0).1
  have hlt1 := (Array.getElem?_eq_some_iff.1 hb1).1
  obtain ⟨⟨c0, c1, c2, c3, c4⟩, g0, g1, g2, g3, g4⟩ := hc0
  have hAd : Below w.heap.size w W.drew := below_drew hA
  have hb0d : W.drew.heap[w.heap.size]? = some (.cells #[.int .u8 o.k, .string o.s, .slice q o.l.length c, .int .i64 o.room, .int .i64 o.fn] 96) := hb0
  have hlt0d : w.heap.size < W.drew.heap.size := hlt0
  go_region_law (first
    | (go_simp; go_at_call 241; (with_reducible refine (H1 W.drew).mono ?_); rintro e w1 ⟨rfl, hB1⟩; have hq0 := (hB1.block _ hlt0d).trans hb0d; obtain ⟨⟨c0, c1, c2, c3, c4⟩, g0, g1, g2, g3, g4⟩ := cell_row5 hq0; (try dsimp only [Oper.upon]))
    | (go_simp; go_at_call 242; (with_reducible refine (H2 w1 (hAd.trans (hB1.mono hAd.size))).mono ?_); rintro e w2 ⟨lv, rfl, hown, hB2⟩; obtain ⟨pl, cl, rfl, -⟩ := own_slice hown; have hq1 := (hB2.block _ (Array.getElem?_eq_some_iff.1 hq0).1).trans hq0; obtain ⟨⟨c0, c1, c2, c3, c4⟩, g0, g1, g2, g3, g4⟩ := cell_row5 hq1; (try dsimp only [Oper.upon]))
    | (go_simp; go_at_call 242; (with_reducible refine (H2 W.drew hAd).mono ?_); rintro e w2 ⟨lv, rfl, hown, hB2⟩; obtain ⟨pl, cl, rfl, -⟩ := own_slice hown; have hq2 := (hB2.block _ hlt0d).trans hb0d; obtain ⟨⟨c0, c1, c2, c3, c4⟩, g0, g1, g2, g3, g4⟩ := cell_row5 hq2; (try dsimp only [Oper.upon]))
    | (go_simp; go_at_call 241; (with_reducible refine (H1 w2).mono ?_); rintro e w1 ⟨rfl, hB1⟩; have hq3 := (hB1.block _ (Array.getElem?_eq_some_iff.1 hq2).1).trans hq2; obtain ⟨⟨c0, c1, c2, c3, c4⟩, g0, g1, g2, g3, g4⟩ := cell_row5 hq3; (try dsimp only [Oper.upon])))
  all_goals
    first
    | (obtain ⟨hB3, hown3, hl3⟩ := And.intro (hAd.trans ((hB1.trans (hB2.mono hB1.size)).mono hAd.size)) (And.intro (row_mono2 hown (show w.heap.size ≤ _ from Nat.le_trans hAd.size hB1.size)) (set23_row hq1 (.string o.s) (.slice pl o.l.length cl)))
       have hr3 : w2.heap[w.heap.size + 1]? = _ := ((hB1.trans (hB2.mono hB1.size)).block _ hlt1).trans hb1
       generalize hw3 : (w2.setCell ⟨w.heap.size, 1, none⟩ (.string o.s)).setCell ⟨w.heap.size, 2, none⟩ (.slice pl o.l.length cl) = w3 at *
       have ho3 : ∀ k, k ≠ w.heap.size → w3.heap[k]? = w2.heap[k]? := fun k hk => by rw [← hw3]; exact set_set_other _ _ hk
       have hsz3 : w3.heap.size = w2.heap.size := by rw [← hw3]; simp [World.setCell]
       have hBB : Below w.heap.size w w3 := by rw [← hw3]; exact below_set (below_set hB3 (Nat.le_refl _) _) (Nat.le_refl _) _)
    | (obtain ⟨hB3, hown3, hl3⟩ := And.intro (hAd.trans ((hB2.trans (hB1.mono hB2.size)).mono hAd.size)) (And.intro (row_mono2 (row_below hown hB1) (show w.heap.size ≤ _ from hAd.size)) (set23_row hq3 (.string o.s) (.slice pl o.l.length cl)))
       have hr3 : w1.heap[w.heap.size + 1]? = _ := ((hB2.trans (hB1.mono hB2.size)).block _ hlt1).trans hb1
       generalize hw3 : (w1.setCell ⟨w.heap.size, 1, none⟩ (.string o.s)).setCell ⟨w.heap.size, 2, none⟩ (.slice pl o.l.length cl) = w3 at *
       have ho3 : ∀ k, k ≠ w.heap.size → w3.heap[k]? = w1.heap[k]? := fun k hk => by rw [← hw3]; exact set_set_other _ _ hk
       have hsz3 : w3.heap.size = w1.heap.size := by rw [← hw3]; simp [World.setCell]
       have hBB : Below w.heap.size w w3 := by rw [← hw3]; exact below_set (below_set hB3 (Nat.le_refl _) _) (Nat.le_refl _) _)
    have hr4 := (ho3 (w.heap.size + 1) (by omega)).trans hr3
    have hown4 : w3.ownsRow w.heap.size 27 2 (.slice pl o.l.length cl) o.l.length (vcells o.l) := row_kept hown3 (fun k e => ho3 k (fun hk => by
      obtain ⟨cur, hcur⟩ := row_obj hown3 e
      subst hk
      first | (rw [hq1] at hcur; cases hcur) | (rw [hq3] at hcur; cases hcur)))
    have HO : Hid _ := And.intro hown4 hBB
    obtain ⟨⟨x0, x1, x2, x3, x4⟩, -⟩ := cell_row5 hl3
    obtain ⟨⟨z0, z1, z2, z3, z4⟩, y0, y1, y2, y3, y4⟩ := cell_row5 hr4
    have HRR : Hid _ := hr4
    clear hw3 ho3 hsz3 hBB hown4 hown3 hown hB3 hB1 hB2 hl3 hr4 hr3
    go_wp2
    refine bodyPost_ret (results_cell_row (by rfl) _ _ (w.heap.size + 1) 96 _ _ _ (by rfl) (set5_row HRR.out) Tryz.underlying96 (by rfl) infoO) (by rfl) ?_
    refine ⟨.slice pl o.l.length cl, rfl, row_kept HO.out.1 (fun k e => ?_), below_set5 HO.out.2 (by omega) _ _ _ _ _⟩
    have hgne : k ≠ w.heap.size + 1 := fun hk => by
      obtain ⟨cur, hcur⟩ := row_obj HO.out.1 e
      subst hk
      rw [HRR.out] at hcur; cases hcur
    rw [heap_setCell_other _ ⟨w.heap.size + 1, 4, none⟩ _ _ hgne, heap_setCell_other _ ⟨w.heap.size + 1, 3, none⟩ _ _ hgne, heap_setCell_other _ ⟨w.heap.size + 1, 2, none⟩ _ _ hgne, heap_setCell_other _ ⟨w.heap.size + 1, 1, none⟩ _ _ hgne, heap_setCell_other _ ⟨w.heap.size + 1, 0, none⟩ _ _ hgne]

end Go.Proofs.YtgokofomoachaaaGreatDoor
