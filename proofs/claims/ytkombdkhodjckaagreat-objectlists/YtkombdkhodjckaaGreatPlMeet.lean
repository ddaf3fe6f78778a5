/- Plain's tour: the first object is met. -/
import Derived.Test.YtkombdkhodjckaaGreatPlNum
import Derived.Deep.RegionLaw
import Derived.Deep.AppendLies
import Derived.Deep.Cut
namespace Go.Proofs.YtkombdkhodjckaaGreat
set_option linter.unusedVariables false
set_option linter.unusedSimpArgs false
open Go.RowKit Go.Maps

variable {n₀ bh b lim used : Nat} {vw vb : Value} {w₀ w : World} {M : List Ob} {at_ room inn : Nat} {vs : List Vl}

/-- While a first object is met. -/
structure Mt (w₀ w W : World) (g bh mb B3 at_ : Nat) : Prop where
  tour : Tour W g bh mb (.slice none 0 0)
  met : Met0 W mb
  box : W.heap[B3]? = some (.cells #[.int .u8 4, .int .i64 at_] 29 (0, 0))
  bel : Below w₀.heap.size w₀ W
  siz : B3 < W.heap.size
  oth : ∀ k, k < B3 → k ≠ g → k ≠ mb → W.heap[k]? = w.heap[k]?

theorem Mt.below {W W' : World} {g mb B3 : Nat} (h : Mt w₀ w W g bh mb B3 at_) (hB : Below W.heap.size W W') : Mt w₀ w W' g bh mb B3 at_ :=
  ⟨h.tour.below hB, h.met.kept (hB.block _ h.met.lt), (hB.block _ h.siz).trans h.box, h.bel.trans (hB.mono h.bel.size), Nat.lt_of_lt_of_le h.siz hB.size, fun k hk h1 h2 => (hB.block k (Nat.lt_trans hk h.siz)).trans (h.oth k hk h1 h2)⟩

set_option maxRecDepth 20000 in
set_option maxHeartbeats 2000000 in
theorem meet_first (r : Rw M at_ 4 vs room inn) (h : Hp n₀ bh b vw vb w₀ lim used M) (hl : vs.length ≤ 65536) (ha : at_ ≤ 1048576) (hx : Bd.fits ⟨vs.length, room, inn⟩) (hB0 : Below w₀.heap.size w₀ w) {g mb : Nat} (hg0 : w₀.heap.size ≤ g) (hm0 : w₀.heap.size ≤ mb) (ht : Tour w g bh mb (.slice none 0 0)) (hm : Met0 w mb) :
    Calls Tryz.prog 65 #[.pointer (some ⟨g, 0, none⟩), .agg #[.int .u8 4, .int .i64 at_]] w fun e w' => e = .returned (.bool true) ∧ ∃ gt ct, Tour w' g bh mb (.slice (some ⟨gt, 0, none⟩) 1 ct) ∧ Met1 w' mb at_ ⟨vs.length, room, inn⟩ ∧ w'.ownsRow w.heap.size 29 2 (.slice (some ⟨gt, 0, none⟩) 1 ct) 1 [.int .u8 4, .int .i64 at_] ∧ Below w₀.heap.size w₀ w' ∧ w.heap.size ≤ w'.heap.size ∧ (∀ k, k < w.heap.size → k ≠ g → k ≠ mb → w'.heap[k]? = w.heap[k]?) := by
  have hte := otells_in 4
  simp only [show ((4 : Nat) : Int) = 4 from rfl, show decide (3 ≤ 4 ∧ 4 ≤ 7) = true from rfl] at hte
  have hb1 := below1 w (.cells #[.int .u8 4, .int .i64 at_] 29)
  have hgm : g ≠ mb := fun e => by
    obtain ⟨es, cl, hq⟩ := hm.isMap
    have ht' : w.heap[g]? = _ := ht
    rw [e, hq] at ht'
    cases ht'
  obtain ⟨N, hN⟩ : ∃ N, vs.length = N := ⟨_, rfl⟩
  have HF := fun W (hB : Below w₀.heap.size w₀ W) => r.find4 (h.below hB) hl
  unfold mem at HF
  rw [hN] at HF hx ⊢
  have tw := ht.below hb1
  have mw := hm.kept (hb1.block _ hm.lt)
  have vw1 := heap_alloc_new w (.cells #[.int .u8 4, .int .i64 at_] 29)
  have hBw := hB0.trans (hb1.mono hB0.size)
  have hsz : w.heap.size < (w.alloc (.cells #[.int .u8 4, .int .i64 at_] 29)).heap.size := by simp
  have hgl := ht.lt
  have hml := hm.lt
  have HB1 : Hid _ := hb1
  clear ht hm hN r hl
  go_enter Tryz.func65, Tryz.ntmps65
  go_wp2_with (first
    | (go_at_call 70; refine (hte _).mono ?_; rintro e w' ⟨rfl, hw'⟩; obtain rfl := hw'.symm))
  obtain ⟨W1, hW1⟩ : ∃ W1, w.alloc (.cells #[.int .u8 4, .int .i64 at_] 29) = W1 := ⟨_, rfl⟩
  rw [hW1] at tw mw vw1 hBw hsz ⊢
  obtain ⟨B3, hB3⟩ : ∃ B3, w.heap.size = B3 := ⟨_, rfl⟩
  have HW1 : Hid (w.alloc (.cells #[.int .u8 4, .int .i64 at_] 29) = W1) := hW1
  have HB3 : Hid (w.heap.size = B3) := hB3
  rw [hB3] at vw1 hsz hgl hml ⊢
  clear hW1 hB3 hb1
  have mt : Mt w₀ w W1 g bh mb B3 at_ := ⟨tw, mw, vw1, hBw, hsz, fun k hk _ _ => by rw [← HW1.out]; exact HB1.out.block k (by rw [HB3.out]; exact hk)⟩
  clear tw mw vw1 hBw hsz
  go_cut [5, 6] from 9 (fun s5 s6 W => s6 = .bool false ∧ Mt w₀ w W g bh mb B3 at_)
  case first =>
    have FCS : ∀ W, Below W1.heap.size W1 W → W.cell? ⟨B3, 1, none⟩ = some (.int .i64 at_) ∧ W.cell? ⟨g, 1, none⟩ = some (.map (some mb)) ∧ (Instr.lookup 64 (.map (some mb)) (.int .i64 (at_ : Int)) true).run Tryz.prog W = .ok (.tuple #[.agg #[.int .i64 0, .int .i64 0, .int .i64 0, .int .i64 0], .bool false]) W := fun W hB => by
      have m := mt.below hB
      exact ⟨(cell_row2 m.box).2, m.tour.cells.1.2.1, m.met.look ha W rfl⟩
    have hD1 := below_drew (Below.refl W1.heap.size W1)
    have hD2 := below_drew (below1 W1 (.cells #[.int .i64 0, .int .i64 0, .int .i64 0, .int .i64 0] 58))
    have S0 := FCS _ hD1
    have S1 := FCS _ hD2
    go_region_held3 (fun W => W.cell? ⟨B3, 1, none⟩ = some (.int .i64 at_) ∧ W.cell? ⟨g, 1, none⟩ = some (.map (some mb)) ∧ (Instr.lookup 64 (.map (some mb)) (.int .i64 (at_ : Int)) true).run Tryz.prog W = .ok (.tuple #[.agg #[.int .i64 0, .int .i64 0, .int .i64 0, .int .i64 0], .bool false]) W) (first | with_reducible exact S0 | with_reducible exact S1 | go_keep) (fail)
    all_goals
      go_wp2_with (first | fail)
      go_meet
      case rel => exact ⟨rfl, mt.below hD2⟩
  case rest =>
    obtain ⟨rfl, mt⟩ := hcut
    rename World => W2
    go_wp2_with (first | fail)
    go_cut [7, 8] from 9 (fun s7 s8 W => s8 = .bool true ∧ ∃ B7 : Nat, s7 = .pointer (some ⟨B7, 0, none⟩) ∧ W.heap[B7]? = some (.cells #[.int .i64 N, .int .i64 room, .int .i64 inn, .int .i64 0] 58 (0, 0)) ∧ Mt w₀ w W g bh mb B3 at_)
    case first =>
      have FCS : ∀ W, Below W2.heap.size W2 W → W.cell? ⟨B3, 0, none⟩ = some (.int .u8 4) ∧ W.cell? ⟨B3, 1, none⟩ = some (.int .i64 at_) ∧ W.cell? ⟨g, 0, none⟩ = some (.pointer (some ⟨bh, 0, none⟩)) := fun W hB => by
        have m := mt.below hB
        exact ⟨(cell_row2 m.box).1, (cell_row2 m.box).2, m.tour.cells.1.1⟩
      have hD1 := below_drew (Below.refl W2.heap.size W2)
      have hD2 := below_drew (below1 W2 (.cells #[.int .i64 0, .int .i64 0, .int .i64 0, .int .i64 0] 58))
      have S0 := FCS _ hD1
      have S1 := FCS _ hD2
      go_region_held3 (fun W => W.cell? ⟨B3, 0, none⟩ = some (.int .u8 4) ∧ W.cell? ⟨B3, 1, none⟩ = some (.int .i64 at_) ∧ W.cell? ⟨g, 0, none⟩ = some (.pointer (some ⟨bh, 0, none⟩))) (first | with_reducible exact S0 | with_reducible exact S1 | with_reducible exact S3 | with_reducible exact S4 | go_keep) ((first
        | (go_at_call 57; (with_reducible refine (HF (W2.alloc (.cells #[.int .i64 0, .int .i64 0, .int .i64 0, .int .i64 0] 58)).drew (mt.below hD2).bel).mono ?_); rintro e w3 ⟨rfl, hB3⟩; have hC3 := hD2.trans (hB3.mono hD2.size); have S3 := FCS _ hC3; have m3 := (hB3.block W2.heap.size (by simp [World.drew])).trans (heap_alloc_new W2 (.cells #[.int .i64 0, .int .i64 0, .int .i64 0, .int .i64 0] 58)); obtain ⟨⟨q0, q1, q2, q3⟩, f0, f1, f2, f3⟩ := cell_row4 m3; have hC4 := below_set4 hC3 (Nat.le_refl _) (.int .i64 N) (.int .i64 room) (.int .i64 inn) (.int .i64 0); have S4 := FCS _ hC4)
        | (go_at_call 57; (with_reducible refine (HF W2.drew (mt.below hD1).bel).mono ?_); rintro e w3 ⟨rfl, hB3⟩; have hC3 := hD1.trans (hB3.mono hD1.size); have S3 := FCS _ hC3; have hC4 := hC3.trans ((below1 w3 (.cells #[.int .i64 N, .int .i64 room, .int .i64 inn, .int .i64 0] 58)).mono hC3.size); have S4 := FCS _ hC4)))
      all_goals
        go_wp2_with (first | fail)
        go_meet
        case rel => first
          | exact ⟨rfl, _, rfl, set4_row m3, mt.below hC4⟩
          | exact ⟨rfl, _, rfl, heap_alloc_new w3 _, mt.below hC4⟩
    case rest =>
      obtain ⟨rfl, B7, rfl, b7, mt⟩ := hcut
      rename World => W3
      obtain ⟨⟨x0, x1, x2, x3⟩, _⟩ := cell_row4 b7
      obtain ⟨w5, hrun5, hM5, hg5⟩ := mt.met.put ha hx W3.drew rfl
      unfold Bd.agg at hrun5
      have S0 : W3.drew.cell? ⟨g, 1, none⟩ = some (.map (some mb)) ∧ W3.drew.cell? ⟨B3, 1, none⟩ = some (.int .i64 at_) ∧ (W3.drew.cell? ⟨B7, 0, none⟩ = some (.int .i64 N) ∧ W3.drew.cell? ⟨B7, 1, none⟩ = some (.int .i64 room) ∧ W3.drew.cell? ⟨B7, 2, none⟩ = some (.int .i64 inn) ∧ W3.drew.cell? ⟨B7, 3, none⟩ = some (.int .i64 0)) := ⟨mt.tour.cells.1.2.1, (cell_row2 mt.box).2, x0, x1, x2, x3⟩
      have hg5' : ∀ k, k < W3.heap.size → k ≠ mb → w5.heap[k]? = W3.heap[k]? := fun k hk hne => hg5.block k hk (fun e => hne (by simpa using e))
      have t5 : Tour w5 g bh mb (.slice none 0 0) := mt.tour.kept (hg5' g mt.tour.lt hgm)
      have hB3m : B3 ≠ mb := fun e => by
        obtain ⟨es, cl, hq⟩ := mt.met.isMap
        have := mt.box
        rw [e, hq] at this
        cases this
      have v5 := (hg5' B3 mt.siz hB3m).trans mt.box
      have hB5 : Below w₀.heap.size w₀ w5 := mt.bel.trans ⟨hg5.os, hg5.tape, hg5.output, hg5.size, fun k hk => hg5' k (Nat.lt_of_lt_of_le hk mt.bel.size) (by omega)⟩
      have hs5 : W3.heap.size ≤ w5.heap.size := hg5.size
      have hB7m : B7 ≠ mb := fun e => by
        obtain ⟨es, cl, hq⟩ := mt.met.isMap
        rw [e, hq] at b7
        cases b7
      obtain ⟨⟨y0, y1, y2, y3⟩, _⟩ := cell_row4 ((hg5' B7 (Array.getElem?_eq_some_iff.1 b7).1 hB7m).trans b7)
      have S5 : w5.cell? ⟨g, 1, none⟩ = some (.map (some mb)) ∧ w5.cell? ⟨B3, 1, none⟩ = some (.int .i64 at_) ∧ (w5.cell? ⟨B7, 0, none⟩ = some (.int .i64 N) ∧ w5.cell? ⟨B7, 1, none⟩ = some (.int .i64 room) ∧ w5.cell? ⟨B7, 2, none⟩ = some (.int .i64 inn) ∧ w5.cell? ⟨B7, 3, none⟩ = some (.int .i64 0)) := ⟨t5.cells.1.2.1, (cell_row2 v5).2, y0, y1, y2, y3⟩
      go_wp2_with (first | fail)
      go_region_held3 (fun W => W.cell? ⟨g, 1, none⟩ = some (.map (some mb)) ∧ W.cell? ⟨B3, 1, none⟩ = some (.int .i64 at_) ∧ (W.cell? ⟨B7, 0, none⟩ = some (.int .i64 N) ∧ W.cell? ⟨B7, 1, none⟩ = some (.int .i64 room) ∧ W.cell? ⟨B7, 2, none⟩ = some (.int .i64 inn) ∧ W.cell? ⟨B7, 3, none⟩ = some (.int .i64 0))) (first | with_reducible exact S0 | with_reducible exact S5 | go_keep) (fail)
      obtain ⟨⟨z0, z1, z2⟩, zf0, zf1, zf2⟩ := t5.cells
      have ⟨v50, v51⟩ := cell_row2 v5
      obtain ⟨i0, hi0, hz0, hz1, hz2⟩ := info_parts infoV
      have hbs : B3 ≤ w5.heap.size := Nat.le_of_lt (Nat.lt_of_lt_of_le mt.siz hs5)
      have z2d : w5.drew.cell? ⟨g, 2, none⟩ = some (.slice none 0 0) := z2
      have v50d : w5.drew.cell? ⟨B3, 0, none⟩ = some (.int .u8 4) := v50
      have v51d : w5.drew.cell? ⟨B3, 1, none⟩ = some (.int .i64 at_) := v51
      have MT : Hid (Mt w₀ w W3 g bh mb B3 at_) := mt
      have hgl5 := t5.lt
      clear mt S0 S5 hg5 y0 y1 y2 y3 x0 x1 x2 x3 hrun5 b7 hB7m
      go_wp2_with (first | fail)
      go_region_law (first
        | (refine step_append_lies _ (by rfl) _ _ _ (by rfl) B3 29 i0 _ 2 16 Tryz.underlying26 hi0 hz0 hz1 hz2 rfl (by omega) (.slice none 0 0) 0 [] (by rfl) (World.ownsRow_nil _ _ _ _) ⟨w5.heap.size, 0, none⟩ 1 1 [.int .u8 4, .int .i64 at_] (by rfl) rfl (World.news_of_block (cs := #[.int .u8 4, .int .i64 at_]) (t := 29) (fr := (0, 0)) (heap_alloc_new w5 _)) (by simp [Value.oneCell']) (by omega) (by unfold maxLen; omega) (by omega) (by simp; omega) (w5.heap.size + 1) (by simp) ?_
           intro g6 c6 w6 ho6 hg6 hat6 hlt6
           have hk6 : ∀ k, k < w5.heap.size → w6.heap[k]? = w5.heap[k]? := (fun k hk => (hg6.block k (by simp; omega) (by simp [Value.ownBlock])).trans ((below1 w5 (.cells #[.int .u8 4, .int .i64 at_] 29)).block k hk))
           have t6 := t5.kept (hk6 g hgl5)
           obtain ⟨⟨y0, y1, y2⟩, yf0, yf1, yf2⟩ := t6.cells))
      all_goals
        go_wp2
        go_ret
        have hs6 : w5.heap.size + 1 ≤ w6.heap.size := by have := hg6.size; simpa using this
        have hne6 : g6 ≠ g := by
          rcases hat6 with e | e
          · cases e
          · omega
        have hml5 := hM5.lt
        have hb0 := MT.out.bel.size
        refine ⟨rfl, g6, c6, ?_, hM5.kept ((heap_setCell_other w6 ⟨g, 2, none⟩ mb _ (fun e => hgm e.symm)).trans (hk6 mb hml5)), ?_, ?_, ?_, ?_⟩
        · have := heap_setCell_same w6 g 2 _ _ (.slice (some ⟨g6, 0, none⟩) 1 c6) t6
          simpa [Tour] using this
        · rw [HB3.out]
          refine row_kept ho6 (fun k e => heap_setCell_other w6 ⟨g, 2, none⟩ k _ (fun e2 => ?_))
          simp [Value.ownBlock] at e
          exact hne6 (e.trans e2)
        · refine hB5.trans ⟨hg6.os, hg6.tape, hg6.output, ?_, fun k hk => ?_⟩
          · simp [World.setCell]; omega
          · exact (heap_setCell_other w6 ⟨g, 2, none⟩ k _ (by simp only; omega)).trans (hk6 k (by omega))
        · rw [HB3.out]
          simp [World.setCell]; omega
        · intro k hk h1 h2
          have hk3 : k < B3 := by rw [← HB3.out]; exact hk
          have hk0 : k < W3.heap.size := Nat.lt_trans hk3 MT.out.siz
          exact (heap_setCell_other w6 ⟨g, 2, none⟩ k _ h1).trans ((hk6 k (by omega)).trans ((hg5' k hk0 h2).trans (MT.out.oth k hk3 h1 h2)))

end Go.Proofs.YtkombdkhodjckaaGreat
