/- Plain's object: a row of plain values, plainly. -/
import Derived.Test.YtkombdkhodjckaaGreatPlNum
import Derived.Deep.Cut
namespace Go.Proofs.YtkombdkhodjckaaGreat
set_option linter.unusedVariables false
set_option linter.unusedSimpArgs false
open Go.RowKit Go.Maps

variable {n₀ bh b lim used : Nat} {vw vb : Value} {w : World} {M : List Ob} {at_ room inn : Nat} {vs : List Vl}

theorem infoObj : (Tryz.prog.info? 43).map (·.size) = some 5 := by kernel_rfl

theorem cell_row5f {W : World} {g : Nat} {x y z u v : Value} {t : TypeId} (h : W.heap[g]? = some (.cells #[x, y, z, u, v] t (0, 0))) : (W.cell? ⟨g, 0, none⟩ = some x ∧ W.cell? ⟨g, 1, none⟩ = some y ∧ W.cell? ⟨g, 2, none⟩ = some z ∧ W.cell? ⟨g, 3, none⟩ = some u ∧ W.cell? ⟨g, 4, none⟩ = some v) ∧ W.frozen? ⟨g, 0, none⟩ = false ∧ W.frozen? ⟨g, 1, none⟩ = false ∧ W.frozen? ⟨g, 2, none⟩ = false ∧ W.frozen? ⟨g, 3, none⟩ = false ∧ W.frozen? ⟨g, 4, none⟩ = false := by
  refine ⟨⟨?_, ?_, ?_, ?_, ?_⟩, frozen_of_row W g 0 _ _ h, frozen_of_row W g 1 _ _ h, frozen_of_row W g 2 _ _ h, frozen_of_row W g 3 _ _ h, frozen_of_row W g 4 _ _ h⟩ <;> simp [World.cell?, h]

theorem set5_row {W : World} {g : Nat} {a b c d e x y z u v : Value} {t : TypeId} (h : W.heap[g]? = some (.cells #[a, b, c, d, e] t (0, 0))) : (((((W.setCell ⟨g, 0, none⟩ x).setCell ⟨g, 1, none⟩ y).setCell ⟨g, 2, none⟩ z).setCell ⟨g, 3, none⟩ u).setCell ⟨g, 4, none⟩ v).heap[g]? = some (.cells #[x, y, z, u, v] t (0, 0)) := by
  have h1 := heap_setCell_same W g 0 _ t x h
  have h2 := heap_setCell_same _ g 1 _ t y h1
  have h3 := heap_setCell_same _ g 2 _ t z h2
  have h4 := heap_setCell_same _ g 3 _ t u h3
  have h5 := heap_setCell_same _ g 4 _ t v h4
  simpa using h5

theorem list_set_self {α : Type} {l : List α} {j : Nat} {u : α} (h : l[j]? = some u) : l.set j u = l := by
  apply List.ext_getElem?
  intro k
  rw [List.getElem?_set]
  split
  · rename_i e; subst e
    split
    · exact h.symm
    · rename_i e2
      have := (List.getElem?_eq_some_iff.1 h).1
      omega
  · rfl

set_option maxRecDepth 20000 in
set_option maxHeartbeats 4000000 in
theorem object_row (r : Rw M at_ 4 vs room inn) (h : Hp n₀ bh b vw vb w lim used M) (hl : vs.length ≤ 65536) (ha : at_ ≤ 1048576) (hx : Bd.fits ⟨vs.length, room, inn⟩) (hv : ∀ v ∈ vs, v.k < 3) {g mb nb : Nat} {todo : Value} (ht : Tour w g bh mb todo) (hm : Met1 w mb at_ ⟨vs.length, room, inn⟩) :
    Calls Tryz.prog 69 #[.pointer (some ⟨g, 0, none⟩), .int .i64 at_, .map (some nb)] w fun e w' => ∃ pL cL, e = .returned (.agg #[.int .u8 4, .string ⟨#[]⟩, .slice pL vs.length cL, .int .i64 room, .int .i64 0]) ∧ Below w.heap.size w w' := by
  have hb1 := below1 w (.cells #[.int .u8 0, .string ⟨#[]⟩, .slice none 0 0, .int .i64 0, .int .i64 0] 43)
  have hrun := hm.look ha hx (w.alloc (.cells #[.int .u8 0, .string ⟨#[]⟩, .slice none 0 0, .int .i64 0, .int .i64 0] 43)) (hb1.block _ hm.lt)
  unfold Bd.agg at hrun
  obtain ⟨o, ho, ho1, ho2⟩ := r.ob
  have HK := fun W (hB : Below w.heap.size w W) => kind_at (h.below hB) ho
  rw [ho1, ho2] at HK
  simp only [show ((4 : Nat) : Int) = 4 from rfl] at HK
  have HV := fun W (hB : Below w.heap.size w W) => r.values (h.below hB) (by omega)
  unfold mem at HV
  obtain ⟨N, hN⟩ : ∃ N, vs.length = N := ⟨_, rfl⟩
  have HN : Hid (vs.length = N) := hN
  rw [hN] at HV hrun ⊢
  have hb2 := below2' w (.cells #[.int .u8 0, .string ⟨#[]⟩, .slice none 0 0, .int .i64 0, .int .i64 0] 43) (.cells #[.int .i64 N, .int .i64 room, .int .i64 inn, .int .i64 0] 58)
  obtain ⟨⟨a0, a1, a2⟩, _⟩ := (ht.below hb1).cells
  obtain ⟨⟨b0, b1, b2⟩, _⟩ := (ht.below hb2).cells
  clear hN ho1 ho2 r hx hm ho
  go_enter Tryz.func69, Tryz.ntmps69
  go_wp2_with (first
    | (go_at_call 101; go_loud (refine (HK _ hb2).mono ?_; clear HK; rintro e w' ⟨rfl, hw'⟩; obtain rfl := hw'.symm)))
  have hb3 : Below w.heap.size w (((w.alloc (.cells #[.int .u8 0, .string ⟨#[]⟩, .slice none 0 0, .int .i64 0, .int .i64 0] 43)).alloc (.cells #[.int .i64 N, .int .i64 room, .int .i64 inn, .int .i64 0] 58)).alloc (.cells #[.int .u8 4, .string ⟨#[]⟩, .slice none 0 0, .int .i64 room, .int .i64 0] 43)) := allocs_below [_, _, _] w
  have g3 := allocs_get [Obj.cells #[.int .u8 0, .string ⟨#[]⟩, .slice none 0 0, .int .i64 0, .int .i64 0] 43, .cells #[.int .i64 N, .int .i64 room, .int .i64 inn, .int .i64 0] 58, .cells #[.int .u8 4, .string ⟨#[]⟩, .slice none 0 0, .int .i64 room, .int .i64 0] 43] w
  have r6 : (((w.alloc (.cells #[.int .u8 0, .string ⟨#[]⟩, .slice none 0 0, .int .i64 0, .int .i64 0] 43)).alloc (.cells #[.int .i64 N, .int .i64 room, .int .i64 inn, .int .i64 0] 58)).alloc (.cells #[.int .u8 4, .string ⟨#[]⟩, .slice none 0 0, .int .i64 room, .int .i64 0] 43)).heap[w.heap.size]? = some (.cells #[.int .u8 0, .string ⟨#[]⟩, .slice none 0 0, .int .i64 0, .int .i64 0] 43 (0, 0)) := g3 0 _ rfl
  have r7 : (((w.alloc (.cells #[.int .u8 0, .string ⟨#[]⟩, .slice none 0 0, .int .i64 0, .int .i64 0] 43)).alloc (.cells #[.int .i64 N, .int .i64 room, .int .i64 inn, .int .i64 0] 58)).alloc (.cells #[.int .u8 4, .string ⟨#[]⟩, .slice none 0 0, .int .i64 room, .int .i64 0] 43)).heap[w.heap.size + 1]? = some (.cells #[.int .i64 N, .int .i64 room, .int .i64 inn, .int .i64 0] 58 (0, 0)) := g3 1 _ rfl
  have r10 : (((w.alloc (.cells #[.int .u8 0, .string ⟨#[]⟩, .slice none 0 0, .int .i64 0, .int .i64 0] 43)).alloc (.cells #[.int .i64 N, .int .i64 room, .int .i64 inn, .int .i64 0] 58)).alloc (.cells #[.int .u8 4, .string ⟨#[]⟩, .slice none 0 0, .int .i64 room, .int .i64 0] 43)).heap[w.heap.size + 1 + 1]? = some (.cells #[.int .u8 4, .string ⟨#[]⟩, .slice none 0 0, .int .i64 room, .int .i64 0] 43 (0, 0)) := g3 2 _ rfl
  have hs3 : (((w.alloc (.cells #[.int .u8 0, .string ⟨#[]⟩, .slice none 0 0, .int .i64 0, .int .i64 0] 43)).alloc (.cells #[.int .i64 N, .int .i64 room, .int .i64 inn, .int .i64 0] 58)).alloc (.cells #[.int .u8 4, .string ⟨#[]⟩, .slice none 0 0, .int .i64 room, .int .i64 0] 43)).heap.size = w.heap.size + 3 := by simp
  have t3 := ht.below hb3
  have hgl := ht.lt
  clear g3 hb1 hb2 a0 a1 a2 b0 b1 b2 hrun ht
  generalize (((w.alloc (.cells #[.int .u8 0, .string ⟨#[]⟩, .slice none 0 0, .int .i64 0, .int .i64 0] 43)).alloc (.cells #[.int .i64 N, .int .i64 room, .int .i64 inn, .int .i64 0] 58)).alloc (.cells #[.int .u8 4, .string ⟨#[]⟩, .slice none 0 0, .int .i64 room, .int .i64 0] 43)) = W3 at hb3 r6 r7 r10 hs3 t3 ⊢
  obtain ⟨B6, hB6⟩ : ∃ B, w.heap.size = B := ⟨_, rfl⟩
  have HB6 : Hid (w.heap.size = B6) := hB6
  obtain ⟨B7, hB7⟩ : ∃ B, B6 + 1 = B := ⟨_, rfl⟩
  obtain ⟨B10, hB10⟩ : ∃ B, B7 + 1 = B := ⟨_, rfl⟩
  rw [hB6] at r6 r7 r10 hs3 hgl ⊢
  rw [hB7] at r7 r10 ⊢
  rw [hB10] at r10 ⊢
  have hn : B6 < B7 ∧ B7 < B10 ∧ B10 < W3.heap.size ∧ g < B6 ∧ B10 + 1 = W3.heap.size := by omega
  clear hB6 hB7 hB10 hs3 hgl
  have FCS : ∀ W : World, W.heap[g]? = W3.heap[g]? → W.heap[B7]? = W3.heap[B7]? → W.cell? ⟨g, 0, none⟩ = some (.pointer (some ⟨bh, 0, none⟩)) ∧ W.cell? ⟨B7, 0, none⟩ = some (.int .i64 N) ∧ W.cell? ⟨B7, 1, none⟩ = some (.int .i64 room) ∧ W.cell? ⟨B7, 2, none⟩ = some (.int .i64 inn) ∧ W.cell? ⟨B7, 3, none⟩ = some (.int .i64 0) := fun W h1 h2 => by
    obtain ⟨⟨x0, x1, x2, x3⟩, _⟩ := cell_row4 (h2.trans r7)
    exact ⟨(t3.kept h1).cells.1.1, x0, x1, x2, x3⟩
  have S0 := FCS W3.drew rfl rfl
  have hD := below_drew (Below.refl W3.heap.size W3)
  have HV0 := HV W3.drew (below_drew hb3)
  clear HV
  go_cut [] from 55 (fun W => ∃ p c, W.heap[B6]? = some (.cells #[.int .u8 0, .string ⟨#[]⟩, .slice none 0 0, .int .i64 0, .int .i64 0] 43 (0, 0)) ∧ W.heap[B10]? = some (.cells #[.int .u8 4, .string ⟨#[]⟩, .slice p N c, .int .i64 room, .int .i64 0] 43 (0, 0)) ∧ W.ownsRow (B10 + 1) 29 2 (.slice p N c) N (vcells vs) ∧ Below w.heap.size w W)
  case first =>
    go_region_held3 (fun W => W.cell? ⟨g, 0, none⟩ = some (.pointer (some ⟨bh, 0, none⟩)) ∧ W.cell? ⟨B7, 0, none⟩ = some (.int .i64 N) ∧ W.cell? ⟨B7, 1, none⟩ = some (.int .i64 room) ∧ W.cell? ⟨B7, 2, none⟩ = some (.int .i64 inn) ∧ W.cell? ⟨B7, 3, none⟩ = some (.int .i64 0)) (first | with_reducible exact S0 | with_reducible exact S4 | with_reducible exact S5 | go_keep) ((first
      | (go_at_call 25; (with_reducible refine HV0.mono ?_); rintro e w4 ⟨p, c, rfl, hrow, hB4⟩
         have hB4' := hD.trans (hB4.mono hD.size)
         have S4 := FCS w4 (hB4'.block g (by omega)) (hB4'.block B7 (by omega))
         have q10 := (hB4'.block B10 (by omega)).trans r10
         obtain ⟨⟨x0, x1, x2, x3, x4⟩, f0, f1, f2, f3, f4⟩ := cell_row5f q10
         have S5 := FCS (w4.setCell ⟨B10, 2, none⟩ (.slice p N c)) ((heap_setCell_other w4 ⟨B10, 2, none⟩ g _ (by simp only; omega)).trans (hB4'.block g (by omega))) ((heap_setCell_other w4 ⟨B10, 2, none⟩ B7 _ (by simp only; omega)).trans (hB4'.block B7 (by omega))))))
    all_goals
      go_wp2_with (first | fail)
      go_meet
      case rel =>
        refine ⟨p, c, (heap_setCell_other w4 ⟨B10, 2, none⟩ B6 _ (by simp only; omega)).trans ((hB4'.block B6 (by omega)).trans r6), ?_, ?_, ?_⟩
        · have := heap_setCell_same w4 B10 2 _ _ (.slice p N c) q10
          simpa using this
        · refine row_kept (row_mono2 (base' := B10 + 1) hrow (by rw [hn.2.2.2.2]; exact Nat.le_refl _)) (fun k e => heap_setCell_other w4 ⟨B10, 2, none⟩ k _ (fun e2 => ?_))
          have := (hrow.lt k e).1
          have e3 : k = B10 := e2
          have e4 : W3.drew.heap.size = W3.heap.size := rfl
          omega
        · have hz : w.heap.size ≤ B10 := by rw [HB6.out]; omega
          exact below_set (hb3.trans (hB4'.mono hb3.size)) hz _
  case rest =>
    obtain ⟨p, c, q6, q10, hrow, hBw⟩ := hcut
    rename World => W5
    clear S0 HV0 hD FCS r6 r7 r10 t3 hb3
    have hN6 : (N : Int) ≤ 65536 := by have := HN.out; omega
    obtain ⟨⟨y0, y1, y2, y3, y4⟩, _⟩ := cell_row5f q10
    go_wp2_with (first | fail)
    clear y0 y1 y2 y3 y4
    go_loopw [65] (fun t wr => ∃ i : Nat, t = .int .i64 i ∧ i ≤ N ∧ wr.heap[B6]? = some (.cells #[.int .u8 0, .string ⟨#[]⟩, .slice none 0 0, .int .i64 0, .int .i64 0] 43 (0, 0)) ∧ wr.heap[B10]? = some (.cells #[.int .u8 4, .string ⟨#[]⟩, .slice p N c, .int .i64 room, .int .i64 0] 43 (0, 0)) ∧ wr.ownsRow (B10 + 1) 29 2 (.slice p N c) N (vcells vs) ∧ Below w.heap.size w wr) (fun t _ => N - (Go.RowKit.intOf t).toNat)
    case atStart => exact ⟨0, rfl, by omega, q6, q10, hrow, hBw⟩
    case round =>
      clear q6 q10 hrow hBw
      obtain ⟨i, rfl, hi, q6, q10, hrow, hB⟩ := hrel
      have s10 := (Array.getElem?_eq_some_iff.1 q10).1
      by_cases hiN : i < N
      · have hiN' : (i : Int) < (N : Int) := by omega
        obtain ⟨v, hvi⟩ : ∃ v, vs[i]? = some v := ⟨vs[i]'(by rw [HN.out]; exact hiN), by simp⟩
        have hvk := hv v (List.mem_of_getElem? hvi)
        obtain ⟨gL, rfl⟩ := row_some2 hrow (by omega)
        have hgL := hrow.lt gL rfl
        obtain ⟨d0, d1⟩ := vcells_get vs i v hvi
        have e : ∀ k, (⟨gL, 0, none⟩ : Addr).add k = ⟨gL, k, none⟩ := fun k => by cases k <;> simp [Addr.add]
        have c0 := hrow.cells (g := gL) rfl _ _ d0
        have c1 := hrow.cells (g := gL) rfl _ _ d1
        rw [e] at c0 c1
        have hbv := below1 wr (.cells #[.int .u8 v.k, .int .i64 v.n] 29)
        have vbx := heap_alloc_new wr (.cells #[.int .u8 v.k, .int .i64 v.n] 29)
        have q10v := alloc_keeps q10 (.cells #[.int .u8 v.k, .int .i64 v.n] 29)
        have q6v := alloc_keeps q6 (.cells #[.int .u8 v.k, .int .i64 v.n] 29)
        have hrowv := hrow.alloc (.cells #[.int .u8 v.k, .int .i64 v.n] 29)
        have fz0 := hrowv.frozenAt (i * 2)
        have fz1 := hrowv.frozenAt (i * 2 + 1)
        have HVi : Hid (vs[i]? = some v) := hvi
        clear e hvi
        have FCS : ∀ W : World, W.heap[B10]? = (wr.alloc (.cells #[.int .u8 v.k, .int .i64 v.n] 29)).heap[B10]? → W.heap[wr.heap.size]? = (wr.alloc (.cells #[.int .u8 v.k, .int .i64 v.n] 29)).heap[wr.heap.size]? → W.cell? ⟨B10, 2, none⟩ = some (.slice (some ⟨gL, 0, none⟩) N c) ∧ W.cell? ⟨wr.heap.size, 0, none⟩ = some (.int .u8 v.k) ∧ W.cell? ⟨wr.heap.size, 1, none⟩ = some (.int .i64 v.n) := fun W h1 h2 =>
          ⟨(cell_row5f (h1.trans q10v)).1.2.2.1, (cell_row2 (h2.trans vbx)).1, (cell_row2 (h2.trans vbx)).2⟩
        have S0 := FCS (wr.alloc (.cells #[.int .u8 v.k, .int .i64 v.n] 29)).drew rfl rfl
        have HP := numval_plain nb v.k v.n hvk (wr.alloc (.cells #[.int .u8 v.k, .int .i64 v.n] 29)).drew
        have hDv := below_drew (Below.refl (wr.alloc (.cells #[.int .u8 v.k, .int .i64 v.n] 29)).heap.size (wr.alloc (.cells #[.int .u8 v.k, .int .i64 v.n] 29)))
        have hsv : (wr.alloc (.cells #[.int .u8 v.k, .int .i64 v.n] 29)).heap.size = wr.heap.size + 1 := by simp
        go_wp2_with (first | fail)
        go_region_held3 (fun W => W.cell? ⟨B10, 2, none⟩ = some (.slice (some ⟨gL, 0, none⟩) N c) ∧ W.cell? ⟨wr.heap.size, 0, none⟩ = some (.int .u8 v.k) ∧ W.cell? ⟨wr.heap.size, 1, none⟩ = some (.int .i64 v.n)) (first | with_reducible exact S0 | with_reducible exact S5 | with_reducible exact S6 | go_keep) ((first
          | (go_at_call 32; (with_reducible refine HP.mono ?_); rintro e w5 ⟨rfl, hB5⟩
             have hB5' := hDv.trans (hB5.mono hDv.size)
             have S5 := FCS w5 (hB5'.block B10 (by omega)) (hB5'.block wr.heap.size (by omega))
             have hrow5 := row_kept hrowv (fun k e => hB5'.block k (hrowv.lt k e).2)
             have g0 := (hrow5.cellAt (i * 2) (by omega)).trans d0
             have g1 := (hrow5.cellAt (i * 2 + 1) (by omega)).trans d1
             have fa := hrow5.frozenAt (i * 2)
             have fb := hrow5.frozenAt (i * 2 + 1)
             have S6 := FCS ((w5.setCell ⟨gL, i * 2, none⟩ (.int .u8 v.k)).setCell ⟨gL, i * 2 + 1, none⟩ (.int .i64 v.n)) ((heap_setCell_other _ ⟨gL, i * 2 + 1, none⟩ B10 _ (by simp only; omega)).trans ((heap_setCell_other _ ⟨gL, i * 2, none⟩ B10 _ (by simp only; omega)).trans (hB5'.block B10 (by omega)))) ((heap_setCell_other _ ⟨gL, i * 2 + 1, none⟩ wr.heap.size _ (by simp only; omega)).trans ((heap_setCell_other _ ⟨gL, i * 2, none⟩ wr.heap.size _ (by simp only; omega)).trans (hB5'.block wr.heap.size (by omega)))))))
        all_goals
          go_wp2_with (first | fail)
          refine ⟨?_, by simp [Go.RowKit.intOf]; omega⟩
          have ho : ∀ k, k ≠ gL → ((w5.setCell ⟨gL, i * 2, none⟩ (.int .u8 v.k)).setCell ⟨gL, i * 2 + 1, none⟩ (.int .i64 v.n)).heap[k]? = w5.heap[k]? := fun k hk => (heap_setCell_other _ ⟨gL, i * 2 + 1, none⟩ k _ hk).trans (heap_setCell_other _ ⟨gL, i * 2, none⟩ k _ hk)
          refine ⟨i + 1, by simp, by omega, (ho B6 (by omega)).trans ((hB5'.block B6 (by omega)).trans q6v), (ho B10 (by omega)).trans ((hB5'.block B10 (by omega)).trans q10v), ?_, ?_⟩
          · have s1 := (hrow5.stored (i * 2) (.int .u8 v.k)).1
            rw [list_set_self d0] at s1
            have s2 := (s1.stored (i * 2 + 1) (.int .i64 v.n)).1
            rw [list_set_self d1] at s2
            exact s2
          · have hz : w.heap.size ≤ gL := by rw [HB6.out]; omega
            have hB5w : Below w.heap.size w w5 := hB.trans ((hbv.trans (hB5'.mono hbv.size)).mono hB.size)
            exact below_set (below_set hB5w hz _) hz _
      · have hiN' : ¬ (i : Int) < (N : Int) := by omega
        obtain ⟨⟨y0, y1, y2, y3, y4⟩, yf⟩ := cell_row5f q10
        obtain ⟨⟨z0, z1, z2, z3, z4⟩, zf0, zf1, zf2, zf3, zf4⟩ := cell_row5f q6
        go_wp2_with (first | fail)
        refine bodyPost_ret (results_cell_row (by rfl) _ _ B6 43 _ _ _ (by rfl) (set5_row q6) Tryz.underlying43 (by rfl) infoObj) (by rfl) ?_
        have hz : w.heap.size ≤ B6 := by rw [HB6.out]; exact Nat.le_refl _
        exact ⟨⟨p, c, rfl⟩, below_set (below_set (below_set (below_set (below_set hB hz _) hz _) hz _) hz _) hz _⟩

end Go.Proofs.YtkombdkhodjckaaGreat
