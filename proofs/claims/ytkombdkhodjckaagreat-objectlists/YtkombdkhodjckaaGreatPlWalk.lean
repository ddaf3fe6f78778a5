/- Plain's tour over one row: walk. -/
import Derived.Test.YtkombdkhodjckaaGreatPlMeet
import Derived.RegionTactic
import Derived.BigRegion
namespace Go.Proofs.YtkombdkhodjckaaGreat
set_option linter.unusedVariables false
set_option linter.unusedSimpArgs false
open Go.RowKit Go.Maps

variable {n₀ bh b lim used : Nat} {vw vb : Value} {w₀ w : World} {M : List Ob} {at_ room inn : Nat} {vs : List Vl}

def todoLen (g : Nat) (w : World) : Nat := match w.cell? ⟨g, 2, none⟩ with
  | some (.slice _ n _) => n
  | _ => 0

/-- While the tour goes. -/
structure Wk (w₀ w W : World) (g bh mb B3 at_ : Nat) (x : Bd) : Prop where
  met : Met1 W mb at_ x
  box : W.heap[B3]? = some (.cells #[.int .u8 4, .int .i64 at_] 29 (0, 0))
  bel : Below w₀.heap.size w₀ W
  oth : ∀ k, k < B3 → k ≠ g → k ≠ mb → W.heap[k]? = w.heap[k]?
  siz : B3 < W.heap.size

theorem Wk.below {W W' : World} {g mb B3 : Nat} {x : Bd} (h : Wk w₀ w W g bh mb B3 at_ x) (hB : Below W.heap.size W W') : Wk w₀ w W' g bh mb B3 at_ x :=
  ⟨h.met.kept (hB.block _ h.met.lt), (hB.block _ h.siz).trans h.box, h.bel.trans (hB.mono h.bel.size), fun k hk h1 h2 => (hB.block k (Nat.lt_trans hk h.siz)).trans (h.oth k hk h1 h2), Nat.lt_of_lt_of_le h.siz hB.size⟩

set_option maxRecDepth 20000 in
set_option maxHeartbeats 4000000 in
theorem walk_row (r : Rw M at_ 4 vs room inn) (h : Hp n₀ bh b vw vb w₀ lim used M) (hl : vs.length ≤ 65536) (ha : at_ ≤ 1048576) (hx : Bd.fits ⟨vs.length, room, inn⟩) (hv : ∀ v ∈ vs, v.k < 3 ∧ MayHeld M v.k v.n) (hB0 : Below w₀.heap.size w₀ w) {g mb : Nat} (hg0 : w₀.heap.size ≤ g) (hm0 : w₀.heap.size ≤ mb) (ht : Tour w g bh mb (.slice none 0 0)) (hm : Met0 w mb) :
    Calls Tryz.prog 28 #[.pointer (some ⟨g, 0, none⟩), .agg #[.int .u8 4, .int .i64 at_]] w fun e w' => e = .returned (.bool true) ∧ ∃ todo, Tour w' g bh mb todo ∧ Met1 w' mb at_ ⟨vs.length, room, inn⟩ ∧ Below w₀.heap.size w₀ w' ∧ (∀ k, k < w.heap.size → k ≠ g → k ≠ mb → w'.heap[k]? = w.heap[k]?) ∧ w.heap.size ≤ w'.heap.size := by
  have hb1 := below1 w (.cells #[.int .u8 4, .int .i64 at_] 29)
  have hgl := ht.lt
  have hml := hm.lt
  have hws := hB0.size
  have hgm : g ≠ mb := fun e => by
    obtain ⟨es, cl, hq⟩ := hm.isMap
    have ht' : w.heap[g]? = _ := ht
    rw [e, hq] at ht'
    cases ht'
  have H1 := meet_first r h hl ha hx (hB0.trans (hb1.mono hB0.size)) hg0 hm0 (ht.below hb1) (hm.kept (hb1.block _ hm.lt))
  have H2 := fun W (todo : Value) (hB : Below w₀.heap.size w₀ W) (hT : Tour W g bh mb todo) (hM : Met1 W mb at_ ⟨vs.length, room, inn⟩) => through_plain r (h.below hB) (by omega) ha hx hv hT hM
  obtain ⟨x, hxx⟩ : ∃ x : Bd, (⟨vs.length, room, inn⟩ : Bd) = x := ⟨_, rfl⟩
  rw [hxx] at H1 H2 ⊢
  have vb1 := heap_alloc_new w (.cells #[.int .u8 4, .int .i64 at_] 29)
  clear r h hl hx hv ht hm hxx
  go_enter Tryz.func28, Tryz.ntmps28
  go_wp2_with (first
    | (go_at_call 65; refine H1.mono ?_; clear H1; rintro e w2 ⟨rfl, gt, ct, t2, m2, row2, bel2, siz2, oth2⟩))
  have wk : Wk w₀ w w2 g bh mb w.heap.size at_ x := ⟨m2, (oth2 w.heap.size (by simp) (by omega) (by omega)).trans vb1, bel2, fun k hk h1 h2 => (oth2 k (by simp; omega) h1 h2).trans (hb1.block k hk), by simp at siz2; omega⟩
  have q0 := row2.cellAt 0 (by omega)
  have q1 := row2.cellAt 1 (by omega)
  simp only [List.getElem?_cons_zero, List.getElem?_cons_succ] at q0 q1
  have hgt : gt ≠ g ∧ gt ≠ w.heap.size ∧ gt < w2.heap.size := by
    have := row2.lt gt rfl
    have hs : (w.alloc (.cells #[.int .u8 4, .int .i64 at_] 29)).heap.size = w.heap.size + 1 := by simp
    rw [hs] at this
    exact ⟨by omega, by omega, this.2⟩
  clear oth2 row2 vb1 m2 bel2 siz2 hB0
  obtain ⟨B3, hB3⟩ : ∃ B3, w.heap.size = B3 := ⟨_, rfl⟩
  have HB3 : Hid (w.heap.size = B3) := hB3
  rw [hB3] at wk hgl hml hgt hws ⊢
  clear hB3 hb1
  go_loopw [5] (fun s5 wr => s5 = .bool true ∧ Wk w₀ w wr g bh mb B3 at_ x ∧ ((Tour wr g bh mb (.slice (some ⟨gt, 0, none⟩) 1 ct) ∧ wr.cell? ⟨gt, 0, none⟩ = some (.int .u8 4) ∧ wr.cell? ⟨gt, 1, none⟩ = some (.int .i64 at_)) ∨ Tour wr g bh mb (.slice (some ⟨gt, 0, none⟩) 0 ct))) (fun _ wr => todoLen g wr)
  case atStart => exact ⟨rfl, wk, .inl ⟨t2, q0, q1⟩⟩
  case round =>
    clear wk t2 q0 q1
    obtain ⟨rfl, wk, ⟨t3, q0, q1⟩ | t3⟩ := hrel
    · obtain ⟨⟨z0, z1, z2⟩, zf0, zf1, zf2⟩ := t3.cells
      obtain ⟨⟨y0, y1⟩, yf0, yf1⟩ := cell_row2f wk.box
      go_wp2_with (first | fail)
      have z2d : wr.drew.cell? ⟨g, 2, none⟩ = some (.slice (some ⟨gt, 0, none⟩) 1 ct) := z2
      have q0d : wr.drew.cell? ⟨gt, 0, none⟩ = some (.int .u8 4) := q0
      have q1d : wr.drew.cell? ⟨gt, 1, none⟩ = some (.int .i64 at_) := q1
      go_region
      all_goals
        obtain ⟨W4, hW4⟩ : ∃ W4, ((wr.setCell ⟨B3, 0, none⟩ (.int .u8 4)).setCell ⟨B3, 1, none⟩ (.int .i64 at_)).setCell ⟨g, 2, none⟩ (.slice (some ⟨gt, 0, none⟩) 0 ct) = W4 := ⟨_, rfl⟩
        rw [hW4]
        have hk4 : ∀ k, k ≠ B3 → k ≠ g → W4.heap[k]? = wr.heap[k]? := fun k h1 h2 => by
          rw [← hW4, heap_setCell_other _ ⟨g, 2, none⟩ k _ h2, heap_setCell_other _ ⟨B3, 1, none⟩ k _ h1, heap_setCell_other _ ⟨B3, 0, none⟩ k _ h1]
        have b4 : W4.heap[B3]? = some (.cells #[.int .u8 4, .int .i64 at_] 29 (0, 0)) := by
          rw [← hW4, heap_setCell_other _ ⟨g, 2, none⟩ B3 _ (by simp only; omega)]
          exact set2_row wk.box
        have t4 : Tour W4 g bh mb (.slice (some ⟨gt, 0, none⟩) 0 ct) := by
          have t3' : Tour ((wr.setCell ⟨B3, 0, none⟩ (.int .u8 4)).setCell ⟨B3, 1, none⟩ (.int .i64 at_)) g bh mb (.slice (some ⟨gt, 0, none⟩) 1 ct) := t3.kept (by rw [heap_setCell_other _ ⟨B3, 1, none⟩ g _ (by simp only; omega), heap_setCell_other _ ⟨B3, 0, none⟩ g _ (by simp only; omega)])
          have := heap_setCell_same _ g 2 _ _ (.slice (some ⟨gt, 0, none⟩) 0 ct) t3'
          rw [hW4] at this
          simpa [Tour] using this
        have hs4 : W4.heap.size = wr.heap.size := by rw [← hW4]; simp [World.setCell]
        have wk4 : Wk w₀ w W4 g bh mb B3 at_ x := ⟨wk.met.kept (hk4 mb (by omega) (fun e => hgm e.symm)), b4, by
            have hbb := wk.bel
            refine ⟨?_, ?_, ?_, by rw [hs4]; exact hbb.size, fun k hk => (hk4 k (by omega) (by omega)).trans (hbb.block k hk)⟩
            · rw [← hW4]; exact hbb.os
            · rw [← hW4]; exact hbb.tape
            · rw [← hW4]; exact hbb.output, fun k hk h1 h2 => (hk4 k (by omega) h1).trans (wk.oth k hk h1 h2), by rw [hs4]; exact wk.siz⟩
        have H3 := H2 W4.drew _ (below_drew wk4.bel) t4 wk4.met
        obtain ⟨⟨u0, u1⟩, uf0, uf1⟩ := cell_row2f b4
        have tl : todoLen g wr = 1 := by unfold todoLen; rw [z2]
        clear hW4 hk4 z0 z1 z2 zf0 zf1 zf2 y0 y1 yf0 yf1 z2d q0d q1d q0 q1 t3 wk b4
        go_wp2_with (first
          | (go_at_call 66; (with_reducible refine H3.mono ?_); clear H3; rintro e w5 ⟨rfl, hB5⟩))
        have hB5' : Below W4.heap.size W4 w5 := ⟨hB5.os, hB5.tape, hB5.output, hB5.size, hB5.block⟩
        go_roundw
        case rel => exact ⟨rfl, wk4.below hB5', .inr (t4.below hB5')⟩
        case measure =>
          rw [tl]
          unfold todoLen
          rw [(t4.below hB5').cells.1.2.2]
          simp
    · obtain ⟨⟨z0, z1, z2⟩, zf0, zf1, zf2⟩ := t3.cells
      go_wp2_with (first | fail)
      go_ret
      refine ⟨rfl, _, t3, wk.met, wk.bel, ?_, ?_⟩
      · rw [HB3.out]; exact wk.oth
      · rw [HB3.out]; exact Nat.le_of_lt wk.siz

end Go.Proofs.YtkombdkhodjckaaGreat
