/- eachKeyOnce: keys with their values, of those that are alike the first key and the last value. -/
import Derived.Test.YtkombdkhodjckaaGreatObFirst
import Derived.Deep.RegionHeld3
namespace Go.Proofs.YtkombdkhodjckaaGreat
set_option linter.unusedVariables false
set_option linter.unusedSimpArgs false
open Go.RowKit Go.Maps

variable {w : World} {T : Vl → Option ByteArray} {bh : Nat}

theorem TextTold.later {v : Vl} (h : TextTold T bh v w) {w' : World} (hB : Below w.heap.size w w') : TextTold T bh v w' := fun w'' h2 => h w'' (hB.trans (h2.mono hB.size))

def Halted (p : Prop) : Prop := p

theorem halt_here {p : Prop} (h : Halted p) : p := h

def keysOf (acc : List (Vl × Vl)) : List Vl := acc.map (·.1)

theorem row_form2 {base e n : Nat} {t : Value} {xs : List Value} (h : w.ownsRow base e 2 t n xs) : ∃ p c, t = .slice p n c ∧ n ≤ c ∧ c ≤ maxLen := by
  rcases h.2 with ⟨rfl, h0⟩ | ⟨g, cap, cur, rfl, _, _, h1, h2, _⟩
  · exact ⟨none, 0, by rw [h0], by omega, by simp [maxLen]⟩
  · exact ⟨_, cap, rfl, h1, h2⟩

theorem row_some2 {base e n c : Nat} {p : Option Addr} {xs : List Value} (h : w.ownsRow base e 2 (.slice p n c) n xs) (h0 : 0 < n) : ∃ g, p = some ⟨g, 0, none⟩ := by
  rcases h.2 with ⟨h1, h2⟩ | ⟨g, cap, cur, h1, _⟩
  · omega
  · simp at h1; exact ⟨g, h1.1⟩

/-- Where a block of values of one's own lies, it is none of the maps, nor another kind of block. -/
theorem row_typ {base e n : Nat} {t : Value} {xs : List Value} (h : w.ownsRow base e 2 t n xs) {k : Nat} (hk : t.ownBlock = some k) : ∃ cur, w.heap[k]? = some (.cells cur e (0, 0)) := by
  rcases h.2 with ⟨rfl, _⟩ | ⟨g, cap, cur, rfl, _, h1, _⟩
  · cases hk
  · simp [Value.ownBlock] at hk; subst hk; exact ⟨cur, h1⟩

/-- A value is stored into a row of one's own. -/
theorem vrow_put {base g n cp : Nat} {a b : List Vl} {u v : Vl} (h : w.ownsRow base 29 2 (.slice (some ⟨g, 0, none⟩) n cp) n (vcells (a ++ u :: b))) :
    ((w.setCell ⟨g, a.length * 2, none⟩ (.int .u8 v.k)).setCell ⟨g, a.length * 2 + 1, none⟩ (.int .i64 v.n)).ownsRow base 29 2 (.slice (some ⟨g, 0, none⟩) n cp) n (vcells (a ++ v :: b)) := by
  have hl : (vcells (a ++ v :: b)).length = (vcells (a ++ u :: b)).length := by simp [vcells_len]
  rcases h.2 with ⟨h1, _⟩ | ⟨g', cap, cur, h1, hb, hg, hnc, hcm, hcs, htake⟩
  · cases h1
  · simp only [Value.slice.injEq, Option.some.injEq, Addr.mk.injEq, and_true, true_and] at h1
    obtain ⟨rfl, rfl⟩ := h1
    refine ⟨by rw [hl]; exact h.1, .inr ⟨g, cp, (cur.setIfInBounds (a.length * 2) (.int .u8 v.k)).setIfInBounds (a.length * 2 + 1) (.int .i64 v.n), rfl, hb, heap_setCell_same _ g (a.length * 2 + 1) _ _ _ (heap_setCell_same w g (a.length * 2) cur _ _ hg), hnc, hcm, by simpa using hcs, ?_⟩⟩
    rw [Array.toList_setIfInBounds, Array.toList_setIfInBounds, List.take_set, List.take_set, htake]
    exact vcells_set2 a b u v

theorem vrow_cells {base g n cp : Nat} {a b : List Vl} {u : Vl} (h : w.ownsRow base 29 2 (.slice (some ⟨g, 0, none⟩) n cp) n (vcells (a ++ u :: b))) :
    w.cell? ⟨g, a.length * 2, none⟩ = some (.int .u8 u.k) ∧ w.cell? ⟨g, a.length * 2 + 1, none⟩ = some (.int .i64 u.n) ∧ w.frozen? ⟨g, a.length * 2, none⟩ = false ∧ w.frozen? ⟨g, a.length * 2 + 1, none⟩ = false := by
  obtain ⟨g1, g2⟩ := vcells_get (a ++ u :: b) a.length u (by simp)
  have h1 := h.cells (g := g) rfl _ _ g1
  have h2 := h.cells (g := g) rfl _ _ g2
  have e : ∀ k, (⟨g, 0, none⟩ : Addr).add k = ⟨g, k, none⟩ := fun k => by cases k <;> simp [Addr.add]
  rw [e] at h1 h2
  obtain ⟨cur, hc⟩ := row_typ h (k := g) rfl
  exact ⟨h1, h2, frozen_of_row w g _ _ _ hc, frozen_of_row w g _ _ _ hc⟩

theorem grown_set2 {w w' : World} {r : Option Nat} (h : w.grownBy w' r) {g : Nat} (hg : w.heap.size ≤ g) (x y : Value) : w.grownBy ((w'.setCell ⟨g, 0, none⟩ x).setCell ⟨g, 1, none⟩ y) r :=
  ⟨h.os, h.tape, h.output, by simpa [World.setCell] using h.size, fun k hk hr => by
    rw [heap_setCell_other _ ⟨g, 1, none⟩ k _ (by show k ≠ g; omega), heap_setCell_other _ ⟨g, 0, none⟩ k _ (by show k ≠ g; omega)]; exact h.block k hk hr⟩

set_option maxRecDepth 20000 in
set_option maxHeartbeats 4000000 in
theorem eachKeyOnce_in (ps : List (Vl × Vl)) {p : Option Addr} (c : Nat) (hv : Vals w p (flat ps)) (hl : ps.length ≤ 65536) (hf : ∀ q ∈ ps, q.1.fits ∧ q.2.fits) (HT : ∀ q ∈ ps, TextTold T bh q.1 w) (hs : ∀ q ∈ ps, ∀ s, T q.1 = some s → s.size ≤ maxLen) :
    Calls Tryz.prog 44 #[mem bh, .slice p (flat ps).length c] w fun e w' => ∃ v, e = .returned v ∧ w'.ownsRow w.heap.size 29 2 v (flat (once T ps)).length (vcells (flat (once T ps))) ∧ Below w.heap.size w w' := by
  obtain ⟨i0, hi, hz0, hz1, hz2⟩ := info_parts infoV
  have hfl := flat_len ps
  have HV : Hid (Vals w p (flat ps)) := hv
  have HF : Hid (∀ q ∈ ps, q.1.fits ∧ q.2.fits) := hf
  have HTT : Hid (∀ q ∈ ps, TextTold T bh q.1 w) := HT
  have HS : Hid (∀ q ∈ ps, ∀ s, T q.1 = some s → s.size ≤ maxLen) := hs
  clear hv hf HT hs
  have hmm := @run_makeMap Tryz.prog
  unfold mem
  go_enter Tryz.func44, Tryz.ntmps44
  go_wp2
  clear hmm
  have hb3 := below3' w (.cells #[.pointer (some ⟨bh, 0, none⟩)] 54) (.map #[] 0) (.map #[] 0)
  have hX0 : IsTx T (((w.alloc (.cells #[.pointer (some ⟨bh, 0, none⟩)] 54)).alloc (.map #[] 0)).alloc (.map #[] 0)) (w.heap.size + 1) 0 [] := by
    have h1 := IsTx.made T (w.alloc (.cells #[.pointer (some ⟨bh, 0, none⟩)] 54))
    rw [World.size_alloc] at h1
    exact h1.kept (Below.heap_alloc _ _ _ (by simp))
  have hP0 : IsPl (((w.alloc (.cells #[.pointer (some ⟨bh, 0, none⟩)] 54)).alloc (.map #[] 0)).alloc (.map #[] 0)) (w.heap.size + 1 + 1) 0 [] := by
    have h1 := IsPl.made ((w.alloc (.cells #[.pointer (some ⟨bh, 0, none⟩)] 54)).alloc (.map #[] 0))
    rw [World.size_alloc, World.size_alloc] at h1
    exact h1
  go_loopw [5, 8] (fun t iv wr => ∃ (l r : List (Vl × Vl)) (i : Nat), ps = l ++ r ∧ iv = .int .i64 i ∧ i = 2 * l.length ∧ wr.ownsRow w.heap.size 29 2 t (flat (once T l)).length (vcells (flat (once T l))) ∧ IsTx T wr (w.heap.size + 1) l.length (keysOf (once T l)) ∧ IsPl wr (w.heap.size + 1 + 1) l.length (keysOf (once T l)) ∧ Below w.heap.size w wr ∧ wr.heap[w.heap.size]? = some (.cells #[.pointer (some ⟨bh, 0, none⟩)] 54 (0, 0))) (fun _ iv _ => (flat ps).length - (intOf iv).toNat)
  case atStart => exact ⟨[], ps, 0, rfl, rfl, rfl, World.ownsRow_nil _ _ _ _, hX0, hP0, hb3, heap3_0 w _ _ _⟩
  case round =>
    obtain ⟨l, r, i, hps, rfl, hil, hrow, hTx, hPl, hB, hbx⟩ := hrel
    have HIL : Hid (i = 2 * l.length) := hil
    cases r with
    | nil =>
      have hps' : ps = l := by simpa using hps
      have hq : ¬ ((i : Int) < ((flat ps).length : Int)) := by rw [hps', flat_len]; omega
      have HPS : Hid (ps = l) := hps'
      clear hps hps' hil hfl
      go_wp2
      go_ret
      rw [HPS.out]
      exact ⟨_, rfl, hrow, hB⟩
    | cons q r =>
      obtain ⟨k, x⟩ := q
      have hmem : (k, x) ∈ ps := by rw [hps]; simp
      have hlt : (i : Int) < ((flat ps).length : Int) := by rw [hps, flat_len]; simp; omega
      have hg := flat_get (l := l) (r := r) (p := (k, x))
      rw [← hps, ← hil] at hg
      obtain ⟨b0, off, hp0, c0, c1⟩ := (HV.out.below hB) i k hg.1
      subst hp0
      obtain ⟨b0', off', hp0, c2, c3⟩ := (HV.out.below hB) (i + 1) x hg.2
      cases hp0
      have hll : l.length < ps.length := by rw [hps]; simp
      have hKf : ∀ a ∈ keysOf (once T l), a.fits := fun a ha => by
        obtain ⟨y, hy, rfl⟩ := List.mem_map.1 ha
        exact (once_mem T Vl.fits l [] (fun z hz => HF.out z (by rw [hps]; simp [hz])) (by simp) y hy).1
      have HC : ∃ (f : Vl) (K' : List Vl), f.fits ∧ (∀ W, Below wr.heap.size wr W → Calls Tryz.prog 88 #[mem bh, .map (some (w.heap.size + 1)), .agg #[.int .u8 k.k, .int .i64 k.n]] W fun e w' => e = .returned (.agg #[.int .u8 f.k, .int .i64 f.n]) ∧ W.grownBy w' (some (w.heap.size + 1)) ∧ IsTx T w' (w.heap.size + 1) (l.length + 1) K') ∧
          ((∃ l1 y r1, once T l = l1 ++ (f, y) :: r1 ∧ K' = keysOf (once T l) ∧ once T (l ++ [(k, x)]) = l1 ++ (f, x) :: r1) ∨ (f = k ∧ k ∉ keysOf (once T l) ∧ K' = keysOf (once T l) ++ [k] ∧ once T (l ++ [(k, x)]) = once T l ++ [(k, x)])) := by
        have H := fun W (hBW : Below wr.heap.size wr W) => firstLike_in (bh := bh) (v := k) (hTx.kept (hBW.block _ hTx.lt)) (by omega) (HF.out _ hmem).1 hKf (HS.out _ hmem) ((HTT.out _ hmem).later (hB.trans (hBW.mono hB.size)))
        rcases upd_cases T k (once T l) with hno | ⟨l1, y, r1, he, hn1, hy1⟩
        · refine ⟨k, _, (HF.out _ hmem).1, fun W hBW => (H W hBW).2 (fun q hq => ?_), .inr ⟨rfl, fun hk => ?_, rfl, by rw [once_snoc]; exact upd_no hno⟩⟩
          · obtain ⟨z, hz, rfl⟩ := List.mem_map.1 hq; exact hno z hz
          · obtain ⟨z, hz, hz2⟩ := List.mem_map.1 hk; exact hno z hz (by rw [hz2]; exact likeK.refl _ _)
        · refine ⟨y.1, _, hKf _ (by rw [he]; simp [keysOf]), fun W hBW => (H W hBW).1 (keysOf l1) y.1 (keysOf r1) (by rw [he]; simp [keysOf]) (fun q hq => ?_) hy1, .inl ⟨l1, y.2, r1, he, rfl, by rw [once_snoc, he]; exact upd_yes hn1 hy1⟩⟩
          obtain ⟨z, hz, rfl⟩ := List.mem_map.1 hq; exact hn1 z hz
      obtain ⟨f, K', hff, HC, hor⟩ := HC
      unfold mem at HC
      have HPS : Hid (ps = l ++ (k, x) :: r) := hps
      have HOR : Hid _ := hor
      have cb : wr.cell? ⟨w.heap.size, 0, none⟩ = some (.pointer (some ⟨bh, 0, none⟩)) := cell_row1 hbx
      have hb0 : b0 < w.heap.size := by
        have := World.block_lt_of_cell? w _ (HV.out i k hg.1 |>.choose_spec.choose_spec.2.1)
        obtain ⟨b1, o1, e1, g1, _⟩ := HV.out i k hg.1
        cases e1
        exact World.block_lt_of_cell? w _ g1
      have F : ∀ W, wr.grownBy W (some (w.heap.size + 1)) → W.cell? ⟨w.heap.size, 0, none⟩ = some (.pointer (some ⟨bh, 0, none⟩)) ∧ W.cell? ⟨b0, off + i * 2, none⟩ = some (.int .u8 k.k) ∧ W.cell? ⟨b0, off + i * 2 + 1, none⟩ = some (.int .i64 k.n) := fun W hW =>
        ⟨hW.cell cb (by simp), hW.cell c0 (by simp; omega), hW.cell c1 (by simp; omega)⟩
      have hD0 : Below wr.heap.size wr wr.drew := below_drew (Below.refl _ _)
      have hD1 : Below wr.heap.size wr (wr.alloc (.cells #[.int .u8 0, .int .i64 0] 29)).drew := below_drew ((Below.refl _ _).alloc (Nat.le_refl _) _)
      have hGe : wr.grownBy (wr.alloc (.cells #[.int .u8 0, .int .i64 0] 29)).drew (some (w.heap.size + 1)) := grown_below hD1 (Nat.le_refl _)
      have hGd : wr.grownBy wr.drew (some (w.heap.size + 1)) := grown_below hD0 (Nat.le_refl _)
      have hwr3 : w.heap.size + 1 + 1 < wr.heap.size := hPl.lt
      clear hps hil hg hfl hor
      go_wp2_with (first | fail)
      go_region_held3 (fun W => W.cell? ⟨w.heap.size, 0, none⟩ = some (.pointer (some ⟨bh, 0, none⟩)) ∧ W.cell? ⟨b0, off + i * 2, none⟩ = some (.int .u8 k.k) ∧ W.cell? ⟨b0, off + i * 2 + 1, none⟩ = some (.int .i64 k.n))
        (first | with_reducible exact F _ hG | with_reducible exact F _ (grown_set2 hG (Nat.le_refl _) _ _) | with_reducible exact F _ (grown_set2 (hG.trans (World.grownBy_alloc _ _ _)) hG.size _ _) | exact F _ (hG.trans (World.grownBy_alloc _ _ _)) | exact F _ hGe | exact F _ hGd | exact F _ (World.grownBy_alloc wr _ _) | exact F _ (World.grownBy.refl _ _) | go_keep)
        ((first
          | (go_at_call 88; (with_reducible refine (HC _ hD0).mono ?_); rintro e w5 ⟨rfl, hg5, hTx5⟩; have hG : wr.grownBy w5 (some (w.heap.size + 1)) := hGd.trans hg5; obtain ⟨⟨z0, z1⟩, y0, y1⟩ := cell_row2f (heap_alloc_new w5 (.cells #[.int .u8 0, .int .i64 0] 29)))
          | (go_at_call 88; (with_reducible refine (HC _ hD1).mono ?_); rintro e w5 ⟨rfl, hg5, hTx5⟩; have hG : wr.grownBy w5 (some (w.heap.size + 1)) := hGe.trans hg5; have mz := (hg5.block wr.heap.size (by simp [World.drew]) (by intro e; injection e with e; omega)).trans (heap_alloc_new wr (.cells #[.int .u8 0, .int .i64 0] 29)); obtain ⟨⟨z0, z1⟩, y0, y1⟩ := cell_row2f mz)))
      -- BEHIND
      · obtain ⟨W9, hW9⟩ : ∃ W9, w5.alloc (.cells #[.int .u8 f.k, .int .i64 f.n] 29) = W9 := ⟨_, rfl⟩
        have hb9 : W9.heap[w5.heap.size]? = some (.cells #[.int .u8 f.k, .int .i64 f.n] 29 (0, 0)) := hW9 ▸ heap_alloc_new w5 _
        have hG9 : wr.grownBy W9 (some (w.heap.size + 1)) := hW9 ▸ hG.trans (World.grownBy_alloc _ _ _)
        have hT9 : W9.heap[w.heap.size + 1]? = w5.heap[w.heap.size + 1]? := hW9 ▸ Below.heap_alloc _ _ _ hTx5.lt
        have hge : wr.heap.size ≤ w5.heap.size := hG.size
        rw [hW9]
        generalize w5.heap.size = g9 at *
        clear hW9
        have hTx9 : IsTx T W9 (w.heap.size + 1) (l.length + 1) K' := hTx5.kept hT9
        have hPl9 : IsPl W9 (w.heap.size + 1 + 1) l.length (keysOf (once T l)) := hPl.kept (hG9.block _ hPl.lt (by simp))
        have hrow9 : W9.ownsRow w.heap.size 29 2 u5 (flat (once T l)).length (vcells (flat (once T l))) := row_kept hrow (fun q hq => hG9.block q (hrow.lt q hq).2 (by
          intro e
          injection e with e
          obtain ⟨cur, hc⟩ := row_typ hrow hq
          obtain ⟨es, cl, hm⟩ := hTx.isMap
          rw [e, hm] at hc; cases hc))
        have hB9 : Below w.heap.size w W9 := ⟨hG9.os.trans hB.os, hG9.tape.trans hB.tape, hG9.output.trans hB.output, Nat.le_trans hB.size hG9.size, fun q hq => (hG9.block q (by omega) (by intro e; injection e with e; omega)).trans (hB.block q hq)⟩
        have hbx9 : W9.heap[w.heap.size]? = some (.cells #[.pointer (some ⟨bh, 0, none⟩)] 54 (0, 0)) := (hG9.block _ (by omega) (by intro e; injection e with e; omega)).trans hbx
        have c09 := hG9.cell c0 (by simp; omega)
        have c19 := hG9.cell c1 (by simp; omega)
        have c29 := hG9.cell c2 (by simp; omega)
        have c39 := hG9.cell c3 (by simp; omega)
        have ⟨d0, d1⟩ := cell_row2 hb9
        have hW9s : w.heap.size + 1 + 1 < W9.heap.size := hPl9.lt
        have hil9 : i + 1 < (flat ps).length := by rw [HPS.out, flat_len, HIL.out]; simp; omega
        have hil9' : ((i : Int) + 1) < ((flat ps).length : Int) := by omega
        have hps6 : (flat ps).length ≤ 131072 := by rw [flat_len]; omega
        have hlen9 : (flat (once T l)).length ≤ 131072 := by rw [flat_len]; have := once_len T l; omega
        clear hTx5 hPl hrow hTx hbx c0 c1 c2 c3 cb F hD0 hD1 hGd hGe HC z0 z1 y0 y1 hg5 hG hT9
        rcases HOR.out with ⟨l1, y, r1, he, hK', hon⟩ | ⟨hfk, hkn, hK', hon⟩
        · have L := hPl9.look_yes (l := keysOf l1) (r := keysOf r1) (a := f) (by rw [he]; simp [keysOf]) hff W9 rfl
          obtain ⟨at_, hat⟩ : ∃ a, a = 2 * (keysOf l1).length := ⟨_, rfl⟩
          rw [← hat] at L
          have hat2 : at_ + 1 < (flat (once T l)).length := by rw [he, flat_len, hat]; simp [keysOf]; omega
          have hfle : flat (once T l) = (flat l1 ++ [f]) ++ y :: flat r1 := by rw [he, flat_append]; simp [flat]
          have hal : (flat l1 ++ [f]).length = at_ + 1 := by simp [flat_len, hat, keysOf]
          obtain ⟨pg, cp, hu5, _, _⟩ := row_form2 hrow9
          subst hu5
          obtain ⟨gr, hgr⟩ : ∃ gr, pg = some ⟨gr, 0, none⟩ := row_some2 hrow9 (by omega)
          subst hgr
          have hr2 := hrow9
          rw [show vcells (flat (once T l)) = vcells ((flat l1 ++ [f]) ++ y :: flat r1) by rw [hfle]] at hr2
          obtain ⟨q0, q1, q2, q3⟩ := vrow_cells hr2
          have hput := vrow_put (v := x) hr2
          rw [hal] at q0 q1 q2 q3 hput
          have hat2' : ((at_ : Int) + 1) < ((flat (once T l)).length : Int) := by omega
          have hgrB := (hrow9.lt gr rfl)
          have hgt : gr ≠ w.heap.size + 1 ∧ gr ≠ w.heap.size + 1 + 1 ∧ gr ≠ w.heap.size := by
            obtain ⟨cur, hc⟩ := row_typ hrow9 (k := gr) rfl
            obtain ⟨es, cl, hm⟩ := hTx9.isMap
            obtain ⟨es2, cl2, hm2⟩ := hPl9.isMap
            refine ⟨?_, ?_, ?_⟩ <;> rintro rfl
            · rw [hm] at hc; cases hc
            · rw [hm2] at hc; cases hc
            · rw [hbx9] at hc; simp at hc
          have HA : Hid (at_ = 2 * (keysOf l1).length) := hat
          have HE1 : Hid (once T l = l1 ++ (f, y) :: r1) := he
          have HE2 : Hid (K' = keysOf (once T l)) := hK'
          have HE3 : Hid (once T (l ++ [(k, x)]) = l1 ++ (f, x) :: r1) := hon
          have HE4 : Hid (flat (once T l) = (flat l1 ++ [f]) ++ y :: flat r1) := hfle
          clear hat he hK' hon hfle hal hr2
          go_wp2
          go_roundw
          case rel =>
            have e1 : ((i : Int) + 2) = ((i + 2 : Nat) : Int) := by omega
            have hs2 : ∀ q, q ≠ gr → ((W9.setCell ⟨gr, (at_ + 1) * 2, none⟩ (.int .u8 x.k)).setCell ⟨gr, (at_ + 1) * 2 + 1, none⟩ (.int .i64 x.n)).heap[q]? = W9.heap[q]? := fun q hq => by
              rw [heap_setCell_other _ ⟨gr, (at_ + 1) * 2 + 1, none⟩ q _ hq, heap_setCell_other _ ⟨gr, (at_ + 1) * 2, none⟩ q _ hq]
            have hfl2 : flat (l1 ++ (f, x) :: r1) = (flat l1 ++ [f]) ++ x :: flat r1 := by rw [flat_append]; simp [flat]
            have hln2 : ((flat l1 ++ [f]) ++ x :: flat r1).length = (flat (once T l)).length := by rw [HE4.out]; simp
            have hky : keysOf (l1 ++ (f, x) :: r1) = keysOf (once T l) := by rw [HE1.out]; simp [keysOf]
            refine ⟨l ++ [(k, x)], r, i + 2, by have := HPS.out; simpa using this, by rw [e1], by rw [HIL.out]; simp; omega, ?_, ?_, ?_, ?_, ?_⟩
            · rw [HE3.out, hfl2, hln2]; exact hput
            · rw [HE3.out, hky, ← HE2.out, List.length_append]; exact hTx9.kept (hs2 _ (Ne.symm hgt.1))
            · rw [HE3.out, hky, List.length_append]; exact (hPl9.kept (hs2 _ (Ne.symm hgt.2.1))).more (by omega)
            · exact below_set (below_set hB9 hgrB.1 _) hgrB.1 _
            · rw [hs2 _ (Ne.symm hgt.2.2)]; exact hbx9
          case measure => simp [intOf]; omega
        · have L := hPl9.look_no (v := f) hff (by rw [hfk]; exact hkn) W9 rfl
          have hkl : (keysOf (once T l)).length = (once T l).length := by simp [keysOf]
          have hol := once_len T l
          obtain ⟨W10, hrun, hPl10, hg10⟩ := hPl9.put (v := f) (by omega) hff hKf (by rw [hfk]; exact hkn) (by omega) W9 rfl
          rw [show 2 * (keysOf (once T l)).length = (flat (once T l)).length by rw [hkl, flat_len]] at hrun
          have hTx10 : IsTx T W10 (w.heap.size + 1) (l.length + 1) K' := hTx9.kept (hg10.block _ hTx9.lt (by simp))
          have hrow10 : W10.ownsRow w.heap.size 29 2 u5 (flat (once T l)).length (vcells (flat (once T l))) := row_kept hrow9 (fun q hq => hg10.block q (hrow9.lt q hq).2 (by
            intro e
            injection e with e
            obtain ⟨cur, hc⟩ := row_typ hrow9 hq
            obtain ⟨es, cl, hm⟩ := hPl9.isMap
            rw [e, hm] at hc; cases hc))
          have hB10 : Below w.heap.size w W10 := ⟨hg10.os.trans hB9.os, hg10.tape.trans hB9.tape, hg10.output.trans hB9.output, Nat.le_trans hB9.size hg10.size, fun q hq => (hg10.block q (by omega) (by intro e; injection e with e; omega)).trans (hB9.block q hq)⟩
          have hbx10 : W10.heap[w.heap.size]? = some (.cells #[.pointer (some ⟨bh, 0, none⟩)] 54 (0, 0)) := (hg10.block _ (by omega) (by intro e; injection e with e; omega)).trans hbx9
          have k0 := hg10.cell c09 (by simp; omega)
          have k1 := hg10.cell c19 (by simp; omega)
          have k2 := hg10.cell c29 (by simp; omega)
          have k3 := hg10.cell c39 (by simp; omega)
          have hs10 := hB10.size
          obtain ⟨pg, cp, hu5, _, _⟩ := row_form2 hrow10
          subst hu5
          have HK1 : Hid (f = k) := hfk
          have HE2 : Hid (K' = keysOf (once T l) ++ [k]) := hK'
          have HE3 : Hid (once T (l ++ [(k, x)]) = once T l ++ [(k, x)]) := hon
          clear hPl9 hTx9 hrow9 hB9 hbx9 c09 c19 c29 c39 hfk hkn hK' hon hkl hg10
          go_wp2_with (first
            | (at_builtin; refine wpList_append_own _ rfl _ _ 26 rfl w.heap.size 29 i0 (.agg #[.int .u8 0, .int .i64 0]) 2 16 Tryz.underlying26 hi hz0 hz1 hz2 rfl (by decide) _ (flat (once T l)).length _ rfl (hrow10.alloc _) ⟨W10.heap.size, 0, none⟩ 2 2 [.int .u8 k.k, .int .i64 k.n, .int .u8 0, .int .i64 0] rfl rfl (World.news_of_block (cs := #[.int .u8 k.k, .int .i64 k.n, .int .u8 0, .int .i64 0]) (t := 29) (fr := (0, 0)) (heap_alloc_new W10 _)) (by simp [Value.oneCell']) (by unfold maxLen; omega) (by omega) (by simp; omega) ?_; intro v4 w4 hown4 hgrow4 _; refine halt_here ?_))
          unfold Halted
          have hg4 : W10.grownBy w4 (Value.ownBlock (.slice pg (flat (once T l)).length cp)) := (World.grownBy_alloc _ _ _).trans hgrow4
          obtain ⟨p4, c4, hv4, hc4, hc5⟩ := row_form2 hown4
          subst hv4
          obtain ⟨gr, hgr⟩ : ∃ gr, p4 = some ⟨gr, 0, none⟩ := row_some2 hown4 (by omega)
          subst hgr
          have hr2 : w4.ownsRow w.heap.size 29 2 (.slice (some ⟨gr, 0, none⟩) ((flat (once T l)).length + 2) c4) ((flat (once T l)).length + 2) (vcells ((flat (once T l) ++ [k]) ++ ⟨0, 0⟩ :: [])) := by
            have e9 : vcells ((flat (once T l) ++ [k]) ++ ⟨0, 0⟩ :: []) = vcells (flat (once T l)) ++ [.int .u8 k.k, .int .i64 k.n, .int .u8 0, .int .i64 0] := by simp [vcells_append, vcells]
            rw [e9]; exact hown4
          obtain ⟨q0, q1, q2, q3⟩ := vrow_cells hr2
          have hput := vrow_put (v := x) hr2
          have hal : (flat (once T l) ++ [k]).length = (flat (once T l)).length + 1 := by simp
          rw [hal] at q0 q1 q2 q3 hput
          have hgrB := (hr2.lt gr rfl)
          have m2 := hg4.cell k2 (by intro e; have := (hrow10.lt b0 e.symm).1; omega)
          have m3 := hg4.cell k3 (by intro e; have := (hrow10.lt b0 e.symm).1; omega)
          have hno : ∀ (q : Nat) (o : Obj), W10.heap[q]? = some o → (∀ cur, o ≠ .cells cur 29 (0, 0)) → w4.heap[q]? = some o := fun q o ho hn => (hg4.block q (Array.getElem?_eq_some_iff.1 ho).1 (by
            intro e
            obtain ⟨cur, hc⟩ := row_typ hrow10 e.symm
            rw [hc] at ho; cases ho; exact hn cur rfl)).trans ho
          have hbx4 := hno _ _ hbx10 (by intro cur e; cases e)
          have hTx4 : IsTx T w4 (w.heap.size + 1) (l.length + 1) K' := hTx10.kept (by
            obtain ⟨es, cl, hm⟩ := hTx10.isMap
            exact (hno _ _ hm (by intro cur e; cases e)).trans hm.symm)
          have hPl4 : IsPl w4 (w.heap.size + 1 + 1) (l.length + 1) (keysOf (once T l) ++ [f]) := hPl10.kept (by
            obtain ⟨es, cl, hm⟩ := hPl10.isMap
            exact (hno _ _ hm (by intro cur e; cases e)).trans hm.symm)
          have hB4 : Below w.heap.size w w4 := hB10.trans ⟨hg4.os, hg4.tape, hg4.output, hg4.size, fun q hq => hg4.block q (by omega) (fun e => by have := (hrow10.lt q e.symm).1; omega)⟩
          have hgt : gr ≠ w.heap.size + 1 ∧ gr ≠ w.heap.size + 1 + 1 ∧ gr ≠ w.heap.size := by
            obtain ⟨cur, hc⟩ := row_typ hr2 (k := gr) rfl
            obtain ⟨es, cl, hm⟩ := hTx4.isMap
            obtain ⟨es2, cl2, hm2⟩ := hPl4.isMap
            refine ⟨?_, ?_, ?_⟩ <;> rintro rfl
            · rw [hm] at hc; cases hc
            · rw [hm2] at hc; cases hc
            · rw [hbx4] at hc; simp at hc
          clear hrow10 hPl10 hTx10 hB10 hbx10 k0 k1 k2 k3 hown4 hgrow4 hg4 hno hr2 hal d0 d1 hb9
          go_wp2
          go_roundw
          case rel =>
            have e1 : ((i : Int) + 2) = ((i + 2 : Nat) : Int) := by omega
            have hs2 : ∀ q, q ≠ gr → ((w4.setCell ⟨gr, ((flat (once T l)).length + 1) * 2, none⟩ (.int .u8 x.k)).setCell ⟨gr, ((flat (once T l)).length + 1) * 2 + 1, none⟩ (.int .i64 x.n)).heap[q]? = w4.heap[q]? := fun q hq => by
              rw [heap_setCell_other _ ⟨gr, ((flat (once T l)).length + 1) * 2 + 1, none⟩ q _ hq, heap_setCell_other _ ⟨gr, ((flat (once T l)).length + 1) * 2, none⟩ q _ hq]
            have hfl2 : flat (once T l ++ [(k, x)]) = (flat (once T l) ++ [k]) ++ [x] := by rw [flat_append]; simp [flat]
            have hln2 : ((flat (once T l) ++ [k]) ++ [x]).length = (flat (once T l)).length + 2 := by simp
            have hky : keysOf (once T l ++ [(k, x)]) = keysOf (once T l) ++ [k] := by simp [keysOf]
            refine ⟨l ++ [(k, x)], r, i + 2, by have := HPS.out; simpa using this, by rw [e1], by rw [HIL.out]; simp; omega, ?_, ?_, ?_, ?_, ?_⟩
            · rw [HE3.out, hfl2, hln2]; exact hput
            · rw [HE3.out, hky, ← HE2.out, List.length_append]; exact hTx4.kept (hs2 _ (Ne.symm hgt.1))
            · rw [HE3.out, hky, ← HK1.out, List.length_append]; exact hPl4.kept (hs2 _ (Ne.symm hgt.2.1))
            · exact below_set (below_set hB4 hgrB.1 _) hgrB.1 _
            · rw [hs2 _ (Ne.symm hgt.2.2)]; exact hbx4
          case measure => simp [intOf]; omega
      · obtain ⟨W9, hW9⟩ : ∃ W9, ((w5.setCell ⟨wr.heap.size, 0, none⟩ (.int .u8 f.k)).setCell ⟨wr.heap.size, 1, none⟩ (.int .i64 f.n)) = W9 := ⟨_, rfl⟩
        have hb9 : W9.heap[wr.heap.size]? = some (.cells #[.int .u8 f.k, .int .i64 f.n] 29 (0, 0)) := hW9 ▸ set2_row mz
        have hG9 : wr.grownBy W9 (some (w.heap.size + 1)) := hW9 ▸ grown_set2 hG (Nat.le_refl _) _ _
        have hT9 : W9.heap[w.heap.size + 1]? = w5.heap[w.heap.size + 1]? := by
          rw [← hW9, heap_setCell_other _ ⟨wr.heap.size, 1, none⟩ _ _ (by show w.heap.size + 1 ≠ wr.heap.size; omega), heap_setCell_other _ ⟨wr.heap.size, 0, none⟩ _ _ (by show w.heap.size + 1 ≠ wr.heap.size; omega)]
        have hge : wr.heap.size ≤ wr.heap.size := Nat.le_refl _
        rw [hW9]
        obtain ⟨g9, hg9⟩ : ∃ g9, wr.heap.size = g9 := ⟨_, rfl⟩
        rw [hg9] at hb9 ⊢
        clear hW9 mz
        have hTx9 : IsTx T W9 (w.heap.size + 1) (l.length + 1) K' := hTx5.kept hT9
        have hPl9 : IsPl W9 (w.heap.size + 1 + 1) l.length (keysOf (once T l)) := hPl.kept (hG9.block _ hPl.lt (by simp))
        have hrow9 : W9.ownsRow w.heap.size 29 2 u5 (flat (once T l)).length (vcells (flat (once T l))) := row_kept hrow (fun q hq => hG9.block q (hrow.lt q hq).2 (by
          intro e
          injection e with e
          obtain ⟨cur, hc⟩ := row_typ hrow hq
          obtain ⟨es, cl, hm⟩ := hTx.isMap
          rw [e, hm] at hc; cases hc))
        have hB9 : Below w.heap.size w W9 := ⟨hG9.os.trans hB.os, hG9.tape.trans hB.tape, hG9.output.trans hB.output, Nat.le_trans hB.size hG9.size, fun q hq => (hG9.block q (by omega) (by intro e; injection e with e; omega)).trans (hB.block q hq)⟩
        have hbx9 : W9.heap[w.heap.size]? = some (.cells #[.pointer (some ⟨bh, 0, none⟩)] 54 (0, 0)) := (hG9.block _ (by omega) (by intro e; injection e with e; omega)).trans hbx
        have c09 := hG9.cell c0 (by simp; omega)
        have c19 := hG9.cell c1 (by simp; omega)
        have c29 := hG9.cell c2 (by simp; omega)
        have c39 := hG9.cell c3 (by simp; omega)
        have ⟨d0, d1⟩ := cell_row2 hb9
        have hW9s : w.heap.size + 1 + 1 < W9.heap.size := hPl9.lt
        have hil9 : i + 1 < (flat ps).length := by rw [HPS.out, flat_len, HIL.out]; simp; omega
        have hil9' : ((i : Int) + 1) < ((flat ps).length : Int) := by omega
        have hps6 : (flat ps).length ≤ 131072 := by rw [flat_len]; omega
        have hlen9 : (flat (once T l)).length ≤ 131072 := by rw [flat_len]; have := once_len T l; omega
        clear hTx5 hPl hrow hTx hbx c0 c1 c2 c3 cb F hD0 hD1 hGd hGe HC z0 z1 y0 y1 hg5 hG hT9
        rcases HOR.out with ⟨l1, y, r1, he, hK', hon⟩ | ⟨hfk, hkn, hK', hon⟩
        · have L := hPl9.look_yes (l := keysOf l1) (r := keysOf r1) (a := f) (by rw [he]; simp [keysOf]) hff W9 rfl
          obtain ⟨at_, hat⟩ : ∃ a, a = 2 * (keysOf l1).length := ⟨_, rfl⟩
          rw [← hat] at L
          have hat2 : at_ + 1 < (flat (once T l)).length := by rw [he, flat_len, hat]; simp [keysOf]; omega
          have hfle : flat (once T l) = (flat l1 ++ [f]) ++ y :: flat r1 := by rw [he, flat_append]; simp [flat]
          have hal : (flat l1 ++ [f]).length = at_ + 1 := by simp [flat_len, hat, keysOf]
          obtain ⟨pg, cp, hu5, _, _⟩ := row_form2 hrow9
          subst hu5
          obtain ⟨gr, hgr⟩ : ∃ gr, pg = some ⟨gr, 0, none⟩ := row_some2 hrow9 (by omega)
          subst hgr
          have hr2 := hrow9
          rw [show vcells (flat (once T l)) = vcells ((flat l1 ++ [f]) ++ y :: flat r1) by rw [hfle]] at hr2
          obtain ⟨q0, q1, q2, q3⟩ := vrow_cells hr2
          have hput := vrow_put (v := x) hr2
          rw [hal] at q0 q1 q2 q3 hput
          have hat2' : ((at_ : Int) + 1) < ((flat (once T l)).length : Int) := by omega
          have hgrB := (hrow9.lt gr rfl)
          have hgt : gr ≠ w.heap.size + 1 ∧ gr ≠ w.heap.size + 1 + 1 ∧ gr ≠ w.heap.size := by
            obtain ⟨cur, hc⟩ := row_typ hrow9 (k := gr) rfl
            obtain ⟨es, cl, hm⟩ := hTx9.isMap
            obtain ⟨es2, cl2, hm2⟩ := hPl9.isMap
            refine ⟨?_, ?_, ?_⟩ <;> rintro rfl
            · rw [hm] at hc; cases hc
            · rw [hm2] at hc; cases hc
            · rw [hbx9] at hc; simp at hc
          have HA : Hid (at_ = 2 * (keysOf l1).length) := hat
          have HE1 : Hid (once T l = l1 ++ (f, y) :: r1) := he
          have HE2 : Hid (K' = keysOf (once T l)) := hK'
          have HE3 : Hid (once T (l ++ [(k, x)]) = l1 ++ (f, x) :: r1) := hon
          have HE4 : Hid (flat (once T l) = (flat l1 ++ [f]) ++ y :: flat r1) := hfle
          clear hat he hK' hon hfle hal hr2
          go_wp2
          go_roundw
          case rel =>
            have e1 : ((i : Int) + 2) = ((i + 2 : Nat) : Int) := by omega
            have hs2 : ∀ q, q ≠ gr → ((W9.setCell ⟨gr, (at_ + 1) * 2, none⟩ (.int .u8 x.k)).setCell ⟨gr, (at_ + 1) * 2 + 1, none⟩ (.int .i64 x.n)).heap[q]? = W9.heap[q]? := fun q hq => by
              rw [heap_setCell_other _ ⟨gr, (at_ + 1) * 2 + 1, none⟩ q _ hq, heap_setCell_other _ ⟨gr, (at_ + 1) * 2, none⟩ q _ hq]
            have hfl2 : flat (l1 ++ (f, x) :: r1) = (flat l1 ++ [f]) ++ x :: flat r1 := by rw [flat_append]; simp [flat]
            have hln2 : ((flat l1 ++ [f]) ++ x :: flat r1).length = (flat (once T l)).length := by rw [HE4.out]; simp
            have hky : keysOf (l1 ++ (f, x) :: r1) = keysOf (once T l) := by rw [HE1.out]; simp [keysOf]
            refine ⟨l ++ [(k, x)], r, i + 2, by have := HPS.out; simpa using this, by rw [e1], by rw [HIL.out]; simp; omega, ?_, ?_, ?_, ?_, ?_⟩
            · rw [HE3.out, hfl2, hln2]; exact hput
            · rw [HE3.out, hky, ← HE2.out, List.length_append]; exact hTx9.kept (hs2 _ (Ne.symm hgt.1))
            · rw [HE3.out, hky, List.length_append]; exact (hPl9.kept (hs2 _ (Ne.symm hgt.2.1))).more (by omega)
            · exact below_set (below_set hB9 hgrB.1 _) hgrB.1 _
            · rw [hs2 _ (Ne.symm hgt.2.2)]; exact hbx9
          case measure => simp [intOf]; omega
        · have L := hPl9.look_no (v := f) hff (by rw [hfk]; exact hkn) W9 rfl
          have hkl : (keysOf (once T l)).length = (once T l).length := by simp [keysOf]
          have hol := once_len T l
          obtain ⟨W10, hrun, hPl10, hg10⟩ := hPl9.put (v := f) (by omega) hff hKf (by rw [hfk]; exact hkn) (by omega) W9 rfl
          rw [show 2 * (keysOf (once T l)).length = (flat (once T l)).length by rw [hkl, flat_len]] at hrun
          have hTx10 : IsTx T W10 (w.heap.size + 1) (l.length + 1) K' := hTx9.kept (hg10.block _ hTx9.lt (by simp))
          have hrow10 : W10.ownsRow w.heap.size 29 2 u5 (flat (once T l)).length (vcells (flat (once T l))) := row_kept hrow9 (fun q hq => hg10.block q (hrow9.lt q hq).2 (by
            intro e
            injection e with e
            obtain ⟨cur, hc⟩ := row_typ hrow9 hq
            obtain ⟨es, cl, hm⟩ := hPl9.isMap
            rw [e, hm] at hc; cases hc))
          have hB10 : Below w.heap.size w W10 := ⟨hg10.os.trans hB9.os, hg10.tape.trans hB9.tape, hg10.output.trans hB9.output, Nat.le_trans hB9.size hg10.size, fun q hq => (hg10.block q (by omega) (by intro e; injection e with e; omega)).trans (hB9.block q hq)⟩
          have hbx10 : W10.heap[w.heap.size]? = some (.cells #[.pointer (some ⟨bh, 0, none⟩)] 54 (0, 0)) := (hg10.block _ (by omega) (by intro e; injection e with e; omega)).trans hbx9
          have k0 := hg10.cell c09 (by simp; omega)
          have k1 := hg10.cell c19 (by simp; omega)
          have k2 := hg10.cell c29 (by simp; omega)
          have k3 := hg10.cell c39 (by simp; omega)
          have hs10 := hB10.size
          obtain ⟨pg, cp, hu5, _, _⟩ := row_form2 hrow10
          subst hu5
          have HK1 : Hid (f = k) := hfk
          have HE2 : Hid (K' = keysOf (once T l) ++ [k]) := hK'
          have HE3 : Hid (once T (l ++ [(k, x)]) = once T l ++ [(k, x)]) := hon
          clear hPl9 hTx9 hrow9 hB9 hbx9 c09 c19 c29 c39 hfk hkn hK' hon hkl hg10
          go_wp2_with (first
            | (at_builtin; refine wpList_append_own _ rfl _ _ 26 rfl w.heap.size 29 i0 (.agg #[.int .u8 0, .int .i64 0]) 2 16 Tryz.underlying26 hi hz0 hz1 hz2 rfl (by decide) _ (flat (once T l)).length _ rfl (hrow10.alloc _) ⟨W10.heap.size, 0, none⟩ 2 2 [.int .u8 k.k, .int .i64 k.n, .int .u8 0, .int .i64 0] rfl rfl (World.news_of_block (cs := #[.int .u8 k.k, .int .i64 k.n, .int .u8 0, .int .i64 0]) (t := 29) (fr := (0, 0)) (heap_alloc_new W10 _)) (by simp [Value.oneCell']) (by unfold maxLen; omega) (by omega) (by simp; omega) ?_; intro v4 w4 hown4 hgrow4 _; refine halt_here ?_))
          unfold Halted
          have hg4 : W10.grownBy w4 (Value.ownBlock (.slice pg (flat (once T l)).length cp)) := (World.grownBy_alloc _ _ _).trans hgrow4
          obtain ⟨p4, c4, hv4, hc4, hc5⟩ := row_form2 hown4
          subst hv4
          obtain ⟨gr, hgr⟩ : ∃ gr, p4 = some ⟨gr, 0, none⟩ := row_some2 hown4 (by omega)
          subst hgr
          have hr2 : w4.ownsRow w.heap.size 29 2 (.slice (some ⟨gr, 0, none⟩) ((flat (once T l)).length + 2) c4) ((flat (once T l)).length + 2) (vcells ((flat (once T l) ++ [k]) ++ ⟨0, 0⟩ :: [])) := by
            have e9 : vcells ((flat (once T l) ++ [k]) ++ ⟨0, 0⟩ :: []) = vcells (flat (once T l)) ++ [.int .u8 k.k, .int .i64 k.n, .int .u8 0, .int .i64 0] := by simp [vcells_append, vcells]
            rw [e9]; exact hown4
          obtain ⟨q0, q1, q2, q3⟩ := vrow_cells hr2
          have hput := vrow_put (v := x) hr2
          have hal : (flat (once T l) ++ [k]).length = (flat (once T l)).length + 1 := by simp
          rw [hal] at q0 q1 q2 q3 hput
          have hgrB := (hr2.lt gr rfl)
          have m2 := hg4.cell k2 (by intro e; have := (hrow10.lt b0 e.symm).1; omega)
          have m3 := hg4.cell k3 (by intro e; have := (hrow10.lt b0 e.symm).1; omega)
          have hno : ∀ (q : Nat) (o : Obj), W10.heap[q]? = some o → (∀ cur, o ≠ .cells cur 29 (0, 0)) → w4.heap[q]? = some o := fun q o ho hn => (hg4.block q (Array.getElem?_eq_some_iff.1 ho).1 (by
            intro e
            obtain ⟨cur, hc⟩ := row_typ hrow10 e.symm
            rw [hc] at ho; cases ho; exact hn cur rfl)).trans ho
          have hbx4 := hno _ _ hbx10 (by intro cur e; cases e)
          have hTx4 : IsTx T w4 (w.heap.size + 1) (l.length + 1) K' := hTx10.kept (by
            obtain ⟨es, cl, hm⟩ := hTx10.isMap
            exact (hno _ _ hm (by intro cur e; cases e)).trans hm.symm)
          have hPl4 : IsPl w4 (w.heap.size + 1 + 1) (l.length + 1) (keysOf (once T l) ++ [f]) := hPl10.kept (by
            obtain ⟨es, cl, hm⟩ := hPl10.isMap
            exact (hno _ _ hm (by intro cur e; cases e)).trans hm.symm)
          have hB4 : Below w.heap.size w w4 := hB10.trans ⟨hg4.os, hg4.tape, hg4.output, hg4.size, fun q hq => hg4.block q (by omega) (fun e => by have := (hrow10.lt q e.symm).1; omega)⟩
          have hgt : gr ≠ w.heap.size + 1 ∧ gr ≠ w.heap.size + 1 + 1 ∧ gr ≠ w.heap.size := by
            obtain ⟨cur, hc⟩ := row_typ hr2 (k := gr) rfl
            obtain ⟨es, cl, hm⟩ := hTx4.isMap
            obtain ⟨es2, cl2, hm2⟩ := hPl4.isMap
            refine ⟨?_, ?_, ?_⟩ <;> rintro rfl
            · rw [hm] at hc; cases hc
            · rw [hm2] at hc; cases hc
            · rw [hbx4] at hc; simp at hc
          clear hrow10 hPl10 hTx10 hB10 hbx10 k0 k1 k2 k3 hown4 hgrow4 hg4 hno hr2 hal d0 d1 hb9
          go_wp2
          go_roundw
          case rel =>
            have e1 : ((i : Int) + 2) = ((i + 2 : Nat) : Int) := by omega
            have hs2 : ∀ q, q ≠ gr → ((w4.setCell ⟨gr, ((flat (once T l)).length + 1) * 2, none⟩ (.int .u8 x.k)).setCell ⟨gr, ((flat (once T l)).length + 1) * 2 + 1, none⟩ (.int .i64 x.n)).heap[q]? = w4.heap[q]? := fun q hq => by
              rw [heap_setCell_other _ ⟨gr, ((flat (once T l)).length + 1) * 2 + 1, none⟩ q _ hq, heap_setCell_other _ ⟨gr, ((flat (once T l)).length + 1) * 2, none⟩ q _ hq]
            have hfl2 : flat (once T l ++ [(k, x)]) = (flat (once T l) ++ [k]) ++ [x] := by rw [flat_append]; simp [flat]
            have hln2 : ((flat (once T l) ++ [k]) ++ [x]).length = (flat (once T l)).length + 2 := by simp
            have hky : keysOf (once T l ++ [(k, x)]) = keysOf (once T l) ++ [k] := by simp [keysOf]
            refine ⟨l ++ [(k, x)], r, i + 2, by have := HPS.out; simpa using this, by rw [e1], by rw [HIL.out]; simp; omega, ?_, ?_, ?_, ?_, ?_⟩
            · rw [HE3.out, hfl2, hln2]; exact hput
            · rw [HE3.out, hky, ← HE2.out, List.length_append]; exact hTx4.kept (hs2 _ (Ne.symm hgt.1))
            · rw [HE3.out, hky, ← HK1.out, List.length_append]; exact hPl4.kept (hs2 _ (Ne.symm hgt.2.1))
            · exact below_set (below_set hB4 hgrB.1 _) hgrB.1 _
            · rw [hs2 _ (Ne.symm hgt.2.2)]; exact hbx4
          case measure => simp [intOf]; omega

end Go.Proofs.YtkombdkhodjckaaGreat
