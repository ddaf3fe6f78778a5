/- show's keysDiffer: are no two keys of a Map the same? -/
import Derived.Test.YtgokofomoachaabShDifMath
namespace Go.Proofs.Ytgokofomoachaab
set_option linter.unusedVariables false
set_option linter.unusedSimpArgs false
open Go.RowKit Go.Maps
open Go.WideMaps (KeyLaw)

variable {w : World}

theorem grown_below {w W w2 : World} {b : Nat} (h : W.grownBy w2 (some b)) (hB : Below w.heap.size w W) (hb : w.heap.size ≤ b) : Below w.heap.size w w2 :=
  ⟨h.os.trans hB.os, h.tape.trans hB.tape, h.output.trans hB.output, Nat.le_trans hB.size h.size, fun k hk => (h.block k (Nat.lt_of_lt_of_le hk hB.size) (fun e => by simp at e; omega)).trans (hB.block k hk)⟩

theorem zeroN (u : World) : (zeroValue 3).run Try.prog u = .ok (.int .i64 0) u := zeroI u

/-- What stands before a round. -/
structure DiffR (w : World) (bt : Nat) (S : List Om) (l : List Vl) (i : Nat) (wr : World) : Prop where
  box : wr.heap[w.heap.size]? = some (.cells #[.pointer (some ⟨bt, 0, none⟩)] 102 (0, 0))
  txt : IsSet wr 9 (w.heap.size + 1) i (cntL S ((evens l).take i)).1
  oth : IsSet wr 28 (w.heap.size + 1 + 1) i (cntL S ((evens l).take i)).2
  bel : Below w.heap.size w wr

theorem cnt_take {S : List Om} {l : List Vl} {i : Nat} {v : Vl} (h : l[2 * i]? = some v) : cntL S ((evens l).take (i + 1)) = cntStep S (cntL S ((evens l).take i)) v := by
  rw [← evens_get] at h
  rw [List.take_add_one, h]
  exact cntL_snoc _ _ _

set_option maxRecDepth 20000 in
set_option maxHeartbeats 4000000 in
theorem differ_in {w0 : World} {bt bM c cq : Nat} {vt : Value} {p q : Option Addr} {S : List Om} {l : List Vl} (hs : IsSt w0 p S) (hl : S.length ≤ maxLen) (hstr : ∀ o ∈ S, o.s.size ≤ 1048576) (hv : Vals w0 q l) (hB : Below w0.heap.size w0 w) (hblk : w.heap[bt]? = some (.cells #[.slice p S.length c, .map (some bM), vt] 114 (0, 0)))
    (hll : l.length ≤ 1048576) (hev : l.length % 2 = 0) (hval : ∀ v ∈ l, valP S v ∧ v.fits) (b : Bool) (hb : b = true ↔ keysP S l) :
    Calls Try.prog 78 #[.agg #[.pointer (some ⟨bt, 0, none⟩)], .slice q l.length cq] w fun e w' => e = .returned (.bool b) ∧ Below w.heap.size w w' := by
  have hmm := @run_makeMap Try.prog
  have hbt := (Array.getElem?_eq_some_iff.1 hblk).1
  have hw0 := hB.size
  go_enter Try.func78, Try.ntmps78
  go_wp2
  have st0 : DiffR w bt S l 0 (((w.alloc (.cells #[.pointer (some ⟨bt, 0, none⟩)] 102)).alloc (.map #[] 0)).alloc (.map #[] 0)) := by
    refine ⟨heap3_0 _ _ _ _, ?_, ?_, below3' _ _ _ _⟩
    · have h1 := IsSet.made (w.alloc (.cells #[.pointer (some ⟨bt, 0, none⟩)] 102)) 9
      have h2 := h1.kept (w' := ((w.alloc (.cells #[.pointer (some ⟨bt, 0, none⟩)] 102)).alloc (.map #[] 0)).alloc (.map #[] 0)) (Below.heap_alloc _ _ _ (by simp))
      simpa [cntL] using h2
    · have h1 := IsSet.made ((w.alloc (.cells #[.pointer (some ⟨bt, 0, none⟩)] 102)).alloc (.map #[] 0)) 28
      simpa [cntL] using h1
  go_loopw [7] (fun k wr => ∃ i I : Nat, k = .int .i64 (I : Int) ∧ Hid (I = 2 * i) ∧ I ≤ l.length ∧ Hid (DiffR w bt S l i wr)) (fun k _ => l.length + 1 - (intOf k).toNat)
  case atStart => exact ⟨0, 0, rfl, rfl, by omega, st0⟩
  case round =>
    clear st0
    obtain ⟨i, I, rfl, HI, hI, HD⟩ := hrel
    have hBr : Below w0.heap.size w0 wr := hB.trans (HD.out.bel.mono hB.size)
    have hszr := HD.out.bel.size
    by_cases hIn : I < l.length
    · have hIn' : (I : Int) < (l.length : Int) := by omega
      obtain ⟨v, hvI⟩ : ∃ v, l[I]? = some v := ⟨l[I], by simp⟩
      obtain ⟨b0, off, rfl, c0, c1⟩ := (hv.below hBr) I v hvI
      have hb0l : b0 < w0.heap.size := by
        obtain ⟨b0', off', e', c0', -⟩ := hv I v hvI
        simp at e'
        obtain ⟨rfl, rfl⟩ := e'
        exact World.block_lt_of_cell? w0 _ c0'
      have hvv := hval v (List.mem_of_getElem? hvI)
      have HV : Hid (l[2 * i]? = some v) := by rw [← HI.out]; exact hvI
      have hib : i ≤ 1048576 := by have := HI.out; omega
      have hbl : wr.heap[bt]? = _ := (HD.out.bel.block bt hbt).trans hblk
      have hcel : ∀ (W : World), Below w.heap.size w W → W.cell? ⟨b0, off + I * 2, none⟩ = some (.int .u8 v.k) ∧ W.cell? ⟨b0, off + I * 2 + 1, none⟩ = some (.int .i64 v.n) := fun W h => by
        have h1 := hB.trans (h.mono hB.size)
        obtain ⟨b0', off', e', c0', c1'⟩ := (hv.below h1) I v hvI
        simp at e'
        obtain ⟨rfl, rfl⟩ := e'
        exact ⟨c0', c1'⟩
      have HC : Hid _ := hcel
      have HVI : Hid _ := hvI
      clear hcel hvI
      obtain ⟨t0, -⟩ := cell_row1 HD.out.box
      obtain ⟨⟨s0, s1, s2⟩, -⟩ := cell_row3 hbl
      have hbxl : w.heap.size < wr.heap.size := (Array.getElem?_eq_some_iff.1 HD.out.box).1
      have hbtl : bt < wr.heap.size := by omega
      have hA := below1 wr (.cells #[.int .u8 0, .string ⟨#[]⟩, .slice none 0 0, .int .i64 0, .int .i64 0] 46)
      have hAd : ∀ k, k < wr.heap.size → (wr.alloc (.cells #[.int .u8 0, .string ⟨#[]⟩, .slice none 0 0, .int .i64 0, .int .i64 0] 46)).heap[k]? = wr.heap[k]? := fun k hk => Below.heap_alloc _ _ _ hk
      obtain ⟨t0', -⟩ := cell_row1 ((hAd w.heap.size hbxl).trans HD.out.box)
      obtain ⟨⟨s0', s1', s2'⟩, -⟩ := cell_row3 ((hAd bt hbtl).trans hbl)
      obtain ⟨u0', u1'⟩ := HC.out (wr.alloc (.cells #[.int .u8 0, .string ⟨#[]⟩, .slice none 0 0, .int .i64 0, .int .i64 0] 46)) (HD.out.bel.trans (hA.mono hszr))
      have hnew := heap_alloc_new wr (.cells #[.int .u8 0, .string ⟨#[]⟩, .slice none 0 0, .int .i64 0, .int .i64 0] 46)
      obtain ⟨⟨z0, z1, z2, z3, z4⟩, y0, y1, y2, y3, y4⟩ := cell_row5 hnew
      have ne1 : w.heap.size ≠ wr.heap.size := by omega
      have ne2 : b0 ≠ wr.heap.size := by omega
      have ne3 : bt ≠ wr.heap.size := by omega
      cases hlead : leadO S v with
      | none =>
        have HL := fun (W : World) (h : Below w0.heap.size w0 W) => lead_none (c := c) (hs.below h) hl hlead
        unfold noObj at HL
        go_wp2
        go_region_held3 (fun W => W.cell? ⟨w.heap.size, 0, none⟩ = some (.pointer (some ⟨bt, 0, none⟩)) ∧ W.cell? ⟨bt, 0, none⟩ = some (.slice p S.length c) ∧ W.cell? ⟨b0, off + I * 2, none⟩ = some (.int .u8 v.k) ∧ W.cell? ⟨b0, off + I * 2 + 1, none⟩ = some (.int .i64 v.n)) (first | with_reducible exact ⟨t0, s0, c0, c1⟩ | with_reducible exact ⟨t0', s0', u0', u1'⟩ | with_reducible exact ⟨q0, q1, q2, q3⟩ | with_reducible exact ⟨(cell_set5 ne1).trans q0, (cell_set5 ne3).trans q1, (cell_set5 ne2).trans q2, (cell_set5 ne2).trans q3⟩ | go_keep)
          ((first
            | (go_at_call 76; (with_reducible refine (HL _ (below_drew hBr)).mono ?_); rintro e w3 ⟨hB3, rfl⟩; obtain ⟨q0, -⟩ := cell_row1 ((hB3.block w.heap.size hbxl).trans HD.out.box); obtain ⟨⟨q1, -, -⟩, -⟩ := cell_row3 ((hB3.block bt hbtl).trans hbl); have hBw : Below wr.heap.size wr w3 := (below_drew (Below.refl _ wr)).trans hB3; obtain ⟨q2, q3⟩ := HC.out w3 (HD.out.bel.trans (hBw.mono hszr)))
            | (go_at_call 76; (with_reducible refine (HL _ (below_drew (hBr.trans (hA.mono hBr.size)))).mono ?_); rintro e w3 ⟨hB3, rfl⟩; obtain ⟨q0, -⟩ := cell_row1 ((hB3.block w.heap.size (by simp; omega)).trans ((hAd w.heap.size hbxl).trans HD.out.box)); obtain ⟨⟨q1, -, -⟩, -⟩ := cell_row3 ((hB3.block bt (by simp; omega)).trans ((hAd bt hbtl).trans hbl)); have hn3 := (hB3.block wr.heap.size (by simp)).trans hnew; obtain ⟨⟨g0, g1, g2, g3, g4⟩, f0, f1, f2, f3, f4⟩ := cell_row5 hn3; have hBw : Below wr.heap.size wr w3 := (below_drew hA).trans (hB3.mono (by simp)); obtain ⟨q2, q3⟩ := HC.out w3 (HD.out.bel.trans (hBw.mono hszr)))))
        all_goals
          first
            | (have hob := set5_row (x0 := .int .u8 0) (x1 := .string ⟨#[]⟩) (x2 := .slice none 0 0) (x3 := .int .i64 0) (x4 := .int .i64 0) hn3; have hBF := below_set5 hBw (Nat.le_refl _) (.int .u8 0) (.string ⟨#[]⟩) (.slice none 0 0) (.int .i64 0) (.int .i64 0); generalize hWF : World.setCell _ ⟨wr.heap.size, 4, none⟩ _ = WF at *)
            | (have hob := heap_alloc_new w3 (.cells #[.int .u8 0, .string ⟨#[]⟩, .slice none 0 0, .int .i64 0, .int .i64 0] 46); have hBF : Below wr.heap.size wr (w3.alloc (.cells #[.int .u8 0, .string ⟨#[]⟩, .slice none 0 0, .int .i64 0, .int .i64 0] 46)) := hBw.alloc hBw.size _; generalize hWF : World.alloc w3 _ = WF at *)
          clear hWF HL
          have hBFw : Below w.heap.size w WF := HD.out.bel.trans (hBF.mono hszr)
          obtain ⟨⟨d0, d1, d2, d3, d4⟩, -⟩ := cell_row5 hob
          obtain ⟨x0, x1⟩ := HC.out WF hBFw
          have hT := HD.out.txt.kept (hBF.block _ HD.out.txt.lt)
          have hO := HD.out.oth.kept (hBF.block _ HD.out.oth.lt)
          have hbxF := (hBF.block _ hbxl).trans HD.out.box
          clear hob hBF hBw hB3 hnew z0 z1 z2 z3 z4 y0 y1 y2 y3 y4 t0 s0 s1 s2 t0' s0' s1' s2' u0' u1' q0 q1 q2 q3 c0 c1 hA hAd
          have hcls : clsT S v = none := by unfold clsT; rw [hlead]
          have hkey := keyOf_val hvv.2
          obtain ⟨cc, st, v0, hcc, hlk, w4, hent, hg4, hlk2, hstore⟩ := (hO.kept (w' := WF.drew) rfl).entry (mt := 121) lawVal Try.underlying121 (by omega) hkey zeroN
          have r1 := hlk WF.drew rfl
          have r2 := hlk2 w4 rfl
          obtain ⟨w5, hst5, hset5, hg5⟩ := hstore w4 rfl
          simp only [goInt] at hst5 hent
          have hB4 : Below w.heap.size w w4 := grown_below hg4 (below_drew hBFw) (by omega)
          have hB5 : Below w.heap.size w w5 := grown_below hg5 hB4 (by omega)
          obtain ⟨m0, m1⟩ := HC.out w4 hB4
          obtain ⟨n0, n1⟩ := HC.out w5 hB5
          have hwc : IntKind.i64.wrap ((cc : Int) + 1) = (cc : Int) + 1 := by rw [IntKind.wrap_i64]; omega
          have hT5 : IsSet w5 9 (w.heap.size + 1) i (cntL S ((evens l).take i)).1 := by
            refine hT.kept ?_
            have hTl := hT.lt
            rw [hg5.block (w.heap.size + 1) (Nat.lt_of_lt_of_le hTl hg4.size) (by simp), hg4.block (w.heap.size + 1) hTl (by simp)]; rfl
          have hbx5 : w5.heap[w.heap.size]? = some (.cells #[.pointer (some ⟨bt, 0, none⟩)] 102 (0, 0)) := by
            have hTl := (Array.getElem?_eq_some_iff.1 hbxF).1
            rw [hg5.block (w.heap.size) (Nat.lt_of_lt_of_le hTl hg4.size) (by simp; omega), hg4.block (w.heap.size) hTl (by simp; omega)]; exact hbxF
          have hfin : DiffR w bt S l (i + 1) w5 := by
            refine ⟨hbx5, ?_, ?_, hB5⟩
            · rw [cnt_take HV.out]; unfold cntStep; rw [hcls]; exact hT5.more (by omega)
            · rw [cnt_take HV.out]; unfold cntStep; rw [hcls]; exact hset5
          have HF : Hid _ := hfin
          clear hfin hT5 hbx5 hset5 hg5 hg4 hlk hlk2 hstore hT hO hbxF hcls hB4 hB5 hBFw
          go_wp2
          go_region_held3 (fun W => W.cell? ⟨b0, off + I * 2, none⟩ = some (.int .u8 v.k) ∧ W.cell? ⟨b0, off + I * 2 + 1, none⟩ = some (.int .i64 v.n)) (first | with_reducible exact ⟨x0, x1⟩ | with_reducible exact ⟨m0, m1⟩ | with_reducible exact ⟨n0, n1⟩ | go_keep) (fail)
          all_goals
            go_wp2
            go_roundw
            case rel => exact ⟨i + 1, I + 2, by simp, hid (by have := HI.out; omega), by have := HI.out; omega, HF⟩
            case measure => simp [intOf]; omega
      | some o =>
        have HL := fun (W : World) (h : Below w0.heap.size w0 W) => lead_some (c := c) (hs.below h) hl hlead
        unfold objV at HL
        go_wp2
        go_region_held3 (fun W => W.cell? ⟨w.heap.size, 0, none⟩ = some (.pointer (some ⟨bt, 0, none⟩)) ∧ W.cell? ⟨bt, 0, none⟩ = some (.slice p S.length c) ∧ W.cell? ⟨b0, off + I * 2, none⟩ = some (.int .u8 v.k) ∧ W.cell? ⟨b0, off + I * 2 + 1, none⟩ = some (.int .i64 v.n)) (first | with_reducible exact ⟨t0, s0, c0, c1⟩ | with_reducible exact ⟨t0', s0', u0', u1'⟩ | with_reducible exact ⟨q0, q1, q2, q3⟩ | with_reducible exact ⟨(cell_set5 ne1).trans q0, (cell_set5 ne3).trans q1, (cell_set5 ne2).trans q2, (cell_set5 ne2).trans q3⟩ | go_keep)
          ((first
            | (go_at_call 76; (with_reducible refine (HL _ (below_drew hBr)).mono ?_); rintro e w3 ⟨hB3, qo, co, rfl, hvo⟩; obtain ⟨q0, -⟩ := cell_row1 ((hB3.block w.heap.size hbxl).trans HD.out.box); obtain ⟨⟨q1, -, -⟩, -⟩ := cell_row3 ((hB3.block bt hbtl).trans hbl); have hBw : Below wr.heap.size wr w3 := (below_drew (Below.refl _ wr)).trans hB3; obtain ⟨q2, q3⟩ := HC.out w3 (HD.out.bel.trans (hBw.mono hszr)))
            | (go_at_call 76; (with_reducible refine (HL _ (below_drew (hBr.trans (hA.mono hBr.size)))).mono ?_); rintro e w3 ⟨hB3, qo, co, rfl, hvo⟩; obtain ⟨q0, -⟩ := cell_row1 ((hB3.block w.heap.size (by simp; omega)).trans ((hAd w.heap.size hbxl).trans HD.out.box)); obtain ⟨⟨q1, -, -⟩, -⟩ := cell_row3 ((hB3.block bt (by simp; omega)).trans ((hAd bt hbtl).trans hbl)); have hn3 := (hB3.block wr.heap.size (by simp)).trans hnew; obtain ⟨⟨g0, g1, g2, g3, g4⟩, f0, f1, f2, f3, f4⟩ := cell_row5 hn3; have hBw : Below wr.heap.size wr w3 := (below_drew hA).trans (hB3.mono (by simp)); obtain ⟨q2, q3⟩ := HC.out w3 (HD.out.bel.trans (hBw.mono hszr)))))
        all_goals
          first
            | (have hob := set5_row (x0 := .int .u8 o.k) (x1 := .string o.s) (x2 := .slice qo o.l.length co) (x3 := .int .i64 o.room) (x4 := .int .i64 o.fn) hn3; have hBF := below_set5 hBw (Nat.le_refl _) (.int .u8 o.k) (.string o.s) (.slice qo o.l.length co) (.int .i64 o.room) (.int .i64 o.fn); generalize hWF : World.setCell _ ⟨wr.heap.size, 4, none⟩ _ = WF at *)
            | (have hob := heap_alloc_new w3 (.cells #[.int .u8 o.k, .string o.s, .slice qo o.l.length co, .int .i64 o.room, .int .i64 o.fn] 46); have hBF : Below wr.heap.size wr (w3.alloc (.cells #[.int .u8 o.k, .string o.s, .slice qo o.l.length co, .int .i64 o.room, .int .i64 o.fn] 46)) := hBw.alloc hBw.size _; generalize hWF : World.alloc w3 _ = WF at *)
          clear hWF HL
          have hBFw : Below w.heap.size w WF := HD.out.bel.trans (hBF.mono hszr)
          obtain ⟨⟨d0, d1, d2, d3, d4⟩, -⟩ := cell_row5 hob
          obtain ⟨x0, x1⟩ := HC.out WF hBFw
          have hT := HD.out.txt.kept (hBF.block _ HD.out.txt.lt)
          have hO := HD.out.oth.kept (hBF.block _ HD.out.oth.lt)
          have hbxF := (hBF.block _ hbxl).trans HD.out.box
          clear hob hBF hBw hB3 hnew z0 z1 z2 z3 z4 y0 y1 y2 y3 y4 t0 s0 s1 s2 t0' s0' s1' s2' u0' u1' q0 q1 q2 q3 c0 c1 hA hAd
          by_cases h3 : o.k = 3
          · have hcls : clsT S v = some o.s := by unfold clsT; rw [hlead]; simp [h3]
            have hoS : o ∈ S := by obtain ⟨-, -, -, j, -, -, h⟩ := leadO_some hlead; exact List.mem_of_getElem? h
            have hkey := keyOf_str (s := o.s) (by have := hstr o hoS; unfold maxLen; omega)
            obtain ⟨cc, hcc, hlk, hupd⟩ := hT.count (mt := 120) lawStr Try.underlying120 (by omega) hkey
            have r1 := hlk WF rfl
            obtain ⟨w5, hst5, hset5, hg5⟩ := hupd WF rfl
            have hB5 : Below w.heap.size w w5 := grown_below hg5 hBFw (by omega)
            have hwc : IntKind.i64.wrap ((cc : Int) + 1) = (cc : Int) + 1 := by rw [IntKind.wrap_i64]; omega
            have hfin : DiffR w bt S l (i + 1) w5 := by
              refine ⟨(hg5.block _ (Array.getElem?_eq_some_iff.1 hbxF).1 (by simp)).trans hbxF, ?_, ?_, hB5⟩
              · rw [cnt_take HV.out]; unfold cntStep; rw [hcls]; exact hset5
              · rw [cnt_take HV.out]; unfold cntStep; rw [hcls]; exact (hO.kept (hg5.block _ hO.lt (by simp))).more (by omega)
            have HF : Hid _ := hfin
            clear hfin hset5 hg5 hlk hupd hT hO hbxF hcls hB5 hBFw hoS
            rw [h3] at d0
            go_wp2
            go_roundw
            case rel => exact ⟨i + 1, I + 2, by simp, hid (by have := HI.out; omega), by have := HI.out; omega, HF⟩
            case measure => simp [intOf]; omega
          · have hcls : clsT S v = none := by unfold clsT; rw [hlead]; simp [h3]
            have g3 : ((o.k : Int) == 3) = false := by have : ¬ ((o.k : Int) = 3) := by omega
                                                       simpa using this
            have hkey := keyOf_val hvv.2
            obtain ⟨cc, st, v0, hcc, hlk, w4, hent, hg4, hlk2, hstore⟩ := (hO.kept (w' := WF.drew) rfl).entry (mt := 121) lawVal Try.underlying121 (by omega) hkey zeroN
            have r1 := hlk WF.drew rfl
            have r2 := hlk2 w4 rfl
            obtain ⟨w5, hst5, hset5, hg5⟩ := hstore w4 rfl
            simp only [goInt] at hst5 hent
            have hB4 : Below w.heap.size w w4 := grown_below hg4 (below_drew hBFw) (by omega)
            have hB5 : Below w.heap.size w w5 := grown_below hg5 hB4 (by omega)
            obtain ⟨m0, m1⟩ := HC.out w4 hB4
            obtain ⟨n0, n1⟩ := HC.out w5 hB5
            have hwc : IntKind.i64.wrap ((cc : Int) + 1) = (cc : Int) + 1 := by rw [IntKind.wrap_i64]; omega
            have hT5 : IsSet w5 9 (w.heap.size + 1) i (cntL S ((evens l).take i)).1 := by
              refine hT.kept ?_
              have hTl := hT.lt
              rw [hg5.block (w.heap.size + 1) (Nat.lt_of_lt_of_le hTl hg4.size) (by simp), hg4.block (w.heap.size + 1) hTl (by simp)]; rfl
            have hbx5 : w5.heap[w.heap.size]? = some (.cells #[.pointer (some ⟨bt, 0, none⟩)] 102 (0, 0)) := by
              have hTl := (Array.getElem?_eq_some_iff.1 hbxF).1
              rw [hg5.block (w.heap.size) (Nat.lt_of_lt_of_le hTl hg4.size) (by simp; omega), hg4.block (w.heap.size) hTl (by simp; omega)]; exact hbxF
            have hfin : DiffR w bt S l (i + 1) w5 := by
              refine ⟨hbx5, ?_, ?_, hB5⟩
              · rw [cnt_take HV.out]; unfold cntStep; rw [hcls]; exact hT5.more (by omega)
              · rw [cnt_take HV.out]; unfold cntStep; rw [hcls]; exact hset5
            have HF : Hid _ := hfin
            clear hfin hT5 hbx5 hset5 hg5 hg4 hlk hlk2 hstore hT hO hbxF hcls hB4 hB5 hBFw
            go_wp2
            go_region_held3 (fun W => W.cell? ⟨b0, off + I * 2, none⟩ = some (.int .u8 v.k) ∧ W.cell? ⟨b0, off + I * 2 + 1, none⟩ = some (.int .i64 v.n)) (first | with_reducible exact ⟨x0, x1⟩ | with_reducible exact ⟨m0, m1⟩ | with_reducible exact ⟨n0, n1⟩ | go_keep) (fail)
            all_goals
              go_wp2
              go_roundw
              case rel => exact ⟨i + 1, I + 2, by simp, hid (by have := HI.out; omega), by have := HI.out; omega, HF⟩
              case measure => simp [intOf]; omega
    · have hIn' : ¬ ((I : Int) < (l.length : Int)) := by omega
      have hie : (evens l).take i = evens l := List.take_of_length_le (by have := HI.out; have := evens_len l; omega)
      have hd := HD.out
      have ht := hd.txt
      have ho := hd.oth
      rw [hie] at ht ho
      have l1 := ht.len (mt := 120) Try.underlying120 3
      have l2 := ho.len (mt := 121) Try.underlying121 3
      have hck := count_keys hval
      have hel := evens_len l
      have hle := (cnt_spec S (evens l)).2.2.1
      have HB : Hid _ := hd.bel
      generalize hn1 : (cntL S (evens l)).1.length = n1 at *
      generalize hn2 : (cntL S (evens l)).2.length = n2 at *
      have HE : Hid _ := hel
      have e2 : (l.length : Int) / 2 = ((evens l).length : Nat) := by omega
      generalize hn3 : (evens l).length = n3 at *
      have hb1 : n1 ≤ 1048576 := by omega
      have hb2 : n2 ≤ 1048576 := by omega
      by_cases hk : keysP S l
      · have hbt' := b_true hb hk
        have hs3 : (n1 : Int) + (n2 : Int) = n3 := by have := hck.2 hk; omega
        have hfin : ((n1 : Int) + (n2 : Int) == (l.length : Int) / 2) = true := by rw [e2, hs3]; simp
        subst hbt'
        clear hb hck hel hle hn1 hn2 hn3 HE e2 hs3 hk ht ho hd hie HD
        go_wp2
        go_ret
        refine ⟨?_, HB.out⟩
        first | rfl | (simp_all; done)
      · have hbt' := b_false hb hk
        have hs3 : ¬ ((n1 : Int) + (n2 : Int) = n3) := fun h => hk (hck.1 (by omega))
        have hfin : ((n1 : Int) + (n2 : Int) == (l.length : Int) / 2) = false := by rw [e2]; simpa using hs3
        subst hbt'
        clear hb hck hel hle hn1 hn2 hn3 HE e2 hs3 hk ht ho hd hie HD
        go_wp2
        go_ret
        refine ⟨?_, HB.out⟩
        first | rfl | (simp_all; done)

end Go.Proofs.Ytgokofomoachaab
