/- The program's tree of handlers: guardsOf. -/
import Derived.Test.YtnekcomkochmjaaGreatDoorVfPTree2
namespace Go.Proofs.YtnekcomkochmjaaGreatDoor
set_option linter.unusedVariables false
set_option linter.unusedSimpArgs false
open Go.RowKit

variable {w : World}

/-- A function by a pointer to it. -/
structure FnP (w : World) (b0 o : Nat) (f : Fm) (s : Fs) : Prop where
  lt : b0 < w.heap.size
  cell : ∀ i u, (fnC f s)[i]? = some u → w.cell? ⟨b0, o + i, none⟩ = some u
  fn : FnAt w f s

theorem FnP.below {b0 o : Nat} {f : Fm} {s : Fs} (h : FnP w b0 o f s) {w' : World} (hB : Below w.heap.size w w') : FnP w' b0 o f s :=
  ⟨Nat.lt_of_lt_of_le h.lt hB.size, fun i u hu => (hB.cell (p := ⟨b0, o + i, none⟩) h.lt).trans (h.cell i u hu), h.fn.below hB⟩

theorem infoKn : (Tryz.prog.info? 164).map (fun i => (i.zero, i.size, i.bytes)) = some (some (.agg #[.int .i64 0, .slice none 0 0]), 2, 32) := by kernel_rfl

theorem gcells_rep (n : Nat) : (madeCells #[.int .i64 0, .slice none 0 0] (n * 2)).toList = gcells ((List.replicate n (⟨0, []⟩ : Kn)).map Kn.deep) (List.replicate n (.slice none 0 0)) := by
  have hl : (List.replicate n (Value.slice none 0 0)).length = ((List.replicate n (⟨0, []⟩ : Kn)).map Kn.deep).length := by simp
  apply List.ext_getElem?
  intro j
  by_cases hj : j < n * 2
  · obtain ⟨i, hi⟩ : ∃ i, j = i * 2 ∨ j = i * 2 + 1 := ⟨j / 2, by omega⟩
    rcases hi with rfl | rfl
    · rw [gcells_deep (i := i) (d := 0) hl (by rw [List.map_replicate, List.getElem?_replicate, if_pos (by omega)])]
      simp [madeCells, hj]
    · rw [gcells_val (i := i) (u := .slice none 0 0) hl (by rw [List.getElem?_replicate, if_pos (by omega)])]
      have e : (i * 2 + 1) % 2 = 1 := by omega
      simp [madeCells, hj, e]
  · have h1 : (madeCells #[Value.int .i64 0, Value.slice none 0 0] (n * 2)).toList.length ≤ j := by simp [madeCells]; omega
    have h2 : (gcells ((List.replicate n (⟨0, []⟩ : Kn)).map Kn.deep) (List.replicate n (Value.slice none 0 0))).length ≤ j := by rw [gcells_len hl, List.length_map, List.length_replicate]; omega
    rw [List.getElem?_eq_none h1, List.getElem?_eq_none h2]

theorem gd_made {base gg n : Nat} (hown : w.ownsRow base 164 2 (.slice (some ⟨gg, 0, none⟩) n n) n (madeCells #[.int .i64 0, .slice none 0 0] (n * 2)).toList) : Gd w base gg (List.replicate n ⟨0, []⟩) (List.replicate n (.slice none 0 0)) := by
  have hkn : ∀ i, kn (List.replicate n ⟨0, []⟩) i = ⟨0, []⟩ := by
    intro y
    unfold kn
    rw [List.getD_eq_getElem?_getD, List.getElem?_replicate]
    split <;> rfl
  have hv : ∀ (i : Nat) (v : Value), (List.replicate n (Value.slice none 0 0))[i]? = some v → v = .slice none 0 0 := by
    intro i v h
    rw [List.getElem?_replicate] at h
    split at h
    · cases h; rfl
    · cases h
  rcases hown.2 with ⟨e, _⟩ | ⟨g', cap, cur, e, hb, hg, h1, hm, h2, h3⟩
  · simp at e
  · simp at e
    obtain ⟨rfl, rfl⟩ := e
    refine ⟨?_, by simp, fun i v h => ?_, fun i j u v g hi hj e1 e2 => ?_, hb, fun i v h _ => hv i v h⟩
    · rw [hg, ← gcells_rep, ← h3, List.take_of_length_le (by simp [h2])]
    · rw [hv i v h, hkn]
      exact World.ownsRow_nil _ _ _ _
    · rw [hv i u hi] at e1
      simp [Value.ownBlock] at e1

theorem drewP' {n : Nat} {a b : World} (h : Below n a b) : Below n a b.drew := ⟨h.os, h.tape, h.output, h.size, h.block⟩

/-- While a handler is put into the tree. -/
structure Gm (w0 W : World) (gg bh : Nat) (h : Hn) (m : Nat) (ks0 : List Kn) (done : List Nat) (vs : List Value) : Prop where
  bel : Below w0.heap.size w0 W
  gd : Gd W w0.heap.size gg (addF m h.deep ks0 done) vs
  hb : W.heap[bh]? = some (.cells #[.int .i64 h.fr, .int .i64 h.to, .int .i64 h.at_, .int .i64 h.deep] 78 (0, 0))

theorem Gm.add {w0 W W' : World} {gg bh m y : Nat} {h : Hn} {ks0 : List Kn} {done : List Nat} {vs vs' : List Value} (g : Gm w0 W gg bh h m ks0 done vs) (h1 : Gd W' w0.heap.size gg (add1 m h.deep (addF m h.deep ks0 done) y) vs') (h2 : Gf gg vs vs' W W') : Gm w0 W' gg bh h m ks0 (done ++ [y]) vs' := by
  refine ⟨g.bel.trans (h2.below g.gd.bs (fun v hv q e => ?_) g.bel.size), ?_, (h2.block bh (Array.getElem?_eq_some_iff.1 g.hb).1 (fun e => ?_) (fun v hv e => ?_)).trans g.hb⟩
  · obtain ⟨i, hi⟩ := List.getElem?_of_mem hv
    exact ((g.gd.row i v hi).lt q e).1
  · unfold addF at h1 ⊢
    rw [List.foldl_append]
    exact h1
  · have := g.hb
    rw [e, g.gd.gb] at this
    simp at this
  · obtain ⟨i, hi⟩ := List.getElem?_of_mem hv
    obtain ⟨cur, hc⟩ := row_obj (g.gd.row i v hi) e
    rw [g.hb] at hc
    simp at hc

theorem gmd {w0 W : World} {gg bh m : Nat} {h : Hn} {ks0 : List Kn} {done : List Nat} {vs : List Value} (g : Gm w0 W gg bh h m ks0 done vs) : Gm w0 W.drew gg bh h m ks0 done vs :=
  ⟨drewP' g.bel, g.gd.below (drewP' (Below.refl _ _)), g.hb⟩

theorem addF_hs (m : Nat) (d : Int) : ∀ (l : List Nat) (ks : List Kn) (y : Nat), (kn (addF m d ks l) y).hs.length ≤ (kn ks y).hs.length + l.length
  | [], ks, y => by simp [addF]
  | z :: l, ks, y => by
    have e : addF m d ks (z :: l) = addF m d (add1 m d ks z) l := rfl
    rw [e]
    have h1 := addF_hs m d l (add1 m d ks z) y
    have h2 : (kn (add1 m d ks z) y).hs.length ≤ (kn ks y).hs.length + 1 := by
      unfold add1
      rw [kn_set]
      split
      · rename_i q; rw [q.1]; simp
      · omega
    simp
    omega

theorem span_len : ∀ {j k a b : Nat}, b < 2 ^ j → (span k a b).length ≤ 2 * j
  | j, 0, a, b, _ => by simp [span]
  | 0, k + 1, a, b, h => by
    have : b = 0 := by simpa using h
    subst this
    simp [span]
  | j + 1, k + 1, a, b, h => by
    have := span_len (j := j) (k := k) (a := (a + 1) / 2) (b := b / 2) (by rw [Nat.pow_succ] at h; omega)
    unfold span
    split
    · simp only [List.length_append]
      have h1 : (if a % 2 = 1 then [a] else []).length ≤ 1 := by split <;> simp
      have h2 : (if b % 2 = 1 then [b - 1] else []).length ≤ 1 := by split <;> simp
      omega
    · simp

/-- While the tree is made. -/
structure Gs (w0 W : World) (gg : Nat) (f : Fm) (j : Nat) (ks : List Kn) (vs : List Value) : Prop where
  bel : Below w0.heap.size w0 W
  gd : Gd W w0.heap.size gg ks vs
  built : Built f.code.length (f.hs.take j) ks
  lens : ∀ y, (kn ks y).hs.length ≤ j * 32
  nn : ∀ y, 0 ≤ (kn ks y).deep

theorem addF_nn (m : Nat) (d : Int) : ∀ (l : List Nat) (ks : List Kn), (∀ y, 0 ≤ (kn ks y).deep) → ∀ y, 0 ≤ (kn (addF m d ks l) y).deep
  | [], ks, h, y => h y
  | z :: l, ks, h, y => by
    have e : addF m d ks (z :: l) = addF m d (add1 m d ks z) l := rfl
    rw [e]
    refine addF_nn m d l (add1 m d ks z) (fun q => ?_) y
    unfold add1
    rw [kn_set]
    split
    · have := h z
      show 0 ≤ max (kn ks z).deep d
      omega
    · exact h q

theorem deepF_max (ks : List Kn) : ∀ (l : List Nat) (d e : Int), deepF ks l (max d e) = max (deepF ks l d) e
  | [], d, e => rfl
  | y :: l, d, e => by
    have h1 : deepF ks (y :: l) (max d e) = deepF ks l (max (max d e) (kn ks y).deep) := rfl
    have h2 : deepF ks (y :: l) d = deepF ks l (max d (kn ks y).deep) := rfl
    rw [h1, h2, ← deepF_max ks l (max d (kn ks y).deep) e]
    congr 1
    omega

theorem deepF_half (ks : List Kn) {n : Nat} (hn : 0 < n) : deepF ks (path n n) 0 = max (deepF ks (path (n / 2) (n / 2)) 0) (kn ks n).deep := by
  rw [deepF_step ks hn, deepF_max]

/-- The tree as it lies when each knot holds what those between it and the root do. -/
structure Dn (ks ks' : List Kn) : Prop where
  len : ks'.length = ks.length
  hs : ∀ y, (kn ks' y).hs = (kn ks y).hs
  deep : ∀ y, 0 < y → y < ks.length → (kn ks' y).deep = deepF ks (path y y) 0

theorem deepF_clr (ks : List Kn) (c : List Nat) : ∀ (l : List Nat) (d : Int), deepF (clrF ks c) l d = deepF ks l d
  | [], d => rfl
  | y :: l, d => by
    have h1 : deepF (clrF ks c) (y :: l) d = deepF (clrF ks c) l (max d (kn (clrF ks c) y).deep) := rfl
    have h2 : deepF ks (y :: l) d = deepF ks l (max d (kn ks y).deep) := rfl
    rw [h1, h2, deepF_clr ks c l]
    congr 2
    rw [clrF_kn]
    split <;> rfl

theorem Dn.clr {ks ks' : List Kn} (h : Dn ks ks') (c : List Nat) : Dn (clrF ks c) (clrF ks' c) := by
  refine ⟨by rw [clrF_len, clrF_len]; exact h.len, fun y => ?_, fun y h0 hy => ?_⟩
  · rw [clrF_kn, clrF_kn]
    split
    · rfl
    · exact h.hs y
  · rw [clrF_len] at hy
    rw [deepF_clr, ← h.deep y h0 hy, clrF_kn]
    split <;> rfl

theorem newsF_same {ks ks' : List Kn} (h : ∀ y, (kn ks' y).hs = (kn ks y).hs) : ∀ l : List Nat, newsF ks' l = newsF ks l
  | [] => rfl
  | y :: l => by
    have h1 : newsF ks' (y :: l) = (kn ks' y).hs ++ newsF ks' l := rfl
    have h2 : newsF ks (y :: l) = (kn ks y).hs ++ newsF ks l := rfl
    rw [h1, h2, h y, newsF_same h l]

/-- While that is brought down. -/
structure Gp (w0 W : World) (gg n : Nat) (ks ks' : List Kn) (vs : List Value) : Prop where
  bel : Below w0.heap.size w0 W
  gd : Gd W w0.heap.size gg ks' vs
  len : ks'.length = ks.length
  hs : ∀ y, (kn ks' y).hs = (kn ks y).hs
  lo : ∀ y, 0 < y → y < n → (kn ks' y).deep = deepF ks (path y y) 0
  hi : ∀ y, n ≤ y → (kn ks' y).deep = (kn ks y).deep

theorem Gp.next {w0 W : World} {gg n : Nat} {ks ks' : List Kn} {vs : List Value} (h : Gp w0 W gg n ks ks' vs) (h2 : 2 ≤ n) (hn : n < ks.length) :
    Gp w0 (W.setCell ⟨gg, n * 2, none⟩ (.int .i64 (max (kn ks' n).deep (kn ks' (n / 2)).deep))) gg (n + 1) ks (ks'.set n ⟨max (kn ks' n).deep (kn ks' (n / 2)).deep, (kn ks' n).hs⟩) vs := by
  have hn' : n < ks'.length := by rw [h.len]; exact hn
  refine ⟨h.bel.setCell (p := ⟨gg, n * 2, none⟩) h.gd.bs _, h.gd.setd hn' _, by simp [h.len], fun y => ?_, fun y h0 hy => ?_, fun y hy => ?_⟩
  · rw [kn_set]
    split
    · rename_i q; rw [q.1]; exact h.hs n
    · exact h.hs y
  · rw [kn_set]
    by_cases e : y = n
    · subst e
      rw [if_pos ⟨rfl, hn'⟩]
      show max _ _ = _
      rw [deepF_half ks h0, h.hi y (Nat.le_refl _), h.lo (y / 2) (by omega) (by omega)]
      omega
    · rw [if_neg (fun q => e q.1)]
      exact h.lo y h0 (by omega)
  · rw [kn_set, if_neg (fun q => by omega)]
    exact h.hi y (by omega)

theorem Gp.drew {w0 W : World} {gg n : Nat} {ks ks' : List Kn} {vs : List Value} (h : Gp w0 W gg n ks ks' vs) : Gp w0 W.drew gg n ks ks' vs :=
  ⟨drewP' h.bel, h.gd.below ⟨rfl, rfl, rfl, Nat.le_refl _, fun _ _ => rfl⟩, h.len, h.hs, h.lo, h.hi⟩

theorem Gp.done {w0 W : World} {gg n : Nat} {ks ks' : List Kn} {vs : List Value} (h : Gp w0 W gg n ks ks' vs) (hn : ks.length ≤ n) : Dn ks ks' := ⟨h.len, h.hs, fun y h0 hy => h.lo y h0 (by omega)⟩

/-- What guardsOf answers. -/
def GuardsR (w w' : World) (f : Fm) (gv : Value) : Prop :=
  (f.hs = [] ∧ gv = .slice none 0 0 ∧ w' = w) ∨ ∃ gg ks ks' vs, gv = .slice (some ⟨gg, 0, none⟩) (2 * f.code.length) (2 * f.code.length) ∧ Gd w' w.heap.size gg ks' vs ∧ Below w.heap.size w w' ∧ Dn ks ks' ∧ Built f.code.length f.hs ks ∧ ∀ y, (kn ks y).hs.length ≤ f.hs.length * 32

set_option maxRecDepth 20000 in
set_option maxHeartbeats 8000000 in
theorem guardsOf_in {b0 o : Nat} {f : Fm} {s : Fs} (h : FnP w b0 o f s) (hok : CodeOk f) :
    Calls Tryz.prog 52 #[.pointer (some ⟨b0, o, none⟩)] w fun e w' => ∃ gv, e = .returned gv ∧ GuardsR w w' f gv := by
  have c5 := h.cell 5 _ rfl
  have c7 := h.cell 7 _ rfl
  obtain ⟨i0, hi, hz0, hz1, hz2⟩ := info_parts infoKn
  have hn1 := hok.len1
  have hn2 := hok.len
  have hn3 := hok.hsn
  obtain ⟨N, hN⟩ : ∃ N, 2 * f.code.length = N := ⟨_, rfl⟩
  have hN' : 2 * (f.code.length : Int) = (N : Int) := by omega
  have hN2 : N ≤ 32768 := by omega
  have HP : Hid _ := h
  have HOK : Hid _ := hok
  have HN : Hid _ := hN
  by_cases hh0 : f.hs.length = 0
  · have hh1 : f.hs = [] := List.length_eq_zero_iff.1 hh0
    rw [hh0] at c7
    clear h hok hN hh0
    go_enter Tryz.func52, Tryz.ntmps52
    go_wp2
    go_ret
    exact ⟨_, rfl, .inl ⟨hh1, rfl, rfl⟩⟩
  have hhn : ((f.hs.length : Int) == 0) = false := beq_eq_false_iff_ne.2 (by omega)
  clear h hok hN
  go_enter Tryz.func52, Tryz.ntmps52
  go_wp2_with (first
    | (at_make; refine wpList_make_full _ rfl _ _ 122 rfl w.heap.size 164 i0 (.agg #[.int .i64 0, .slice none 0 0]) 2 Tryz.underlying122 hi hz0 hz1 .i64 .i64 _ _ N rfl rfl rfl rfl (by rw [hz2]; omega) (by unfold maxLen; omega) (by simp; try omega) ?_; intro w1 hown1 hgrow1; have hBg : Below w.heap.size w w1 := rbelow_grown hgrow1 (fun q e => by cases e) (Nat.le_refl _); have d7 := (HP.out.below hBg).cell 7 _ rfl))
  have HR := (HP.out.below hBg).fn.hs
  have gd0 := gd_made hown1
  have gs0 : Gs w w1 w.heap.size f 0 (List.replicate N ⟨0, []⟩) (List.replicate N (.slice none 0 0)) := by
    refine ⟨hBg, gd0, ?_, fun y => ?_, fun y => ?_⟩
    · rw [← HN.out]
      exact built_none _
    · have : (kn (List.replicate N ⟨0, []⟩) y).hs.length = 0 := by
        unfold kn
        rw [List.getD_eq_getElem?_getD, List.getElem?_replicate]
        split <;> rfl
      omega
    · have : (kn (List.replicate N ⟨0, []⟩) y).deep = 0 := by
        unfold kn
        rw [List.getD_eq_getElem?_getD, List.getElem?_replicate]
        split <;> rfl
      omega
  have HR1 : Hid _ := HR
  clear gd0 hown1 hgrow1 c5 c7 d7 HR
  go_loopw [29] (fun k wr => ∃ (j : Nat) (ks : List Kn) (vs : List Value), k = .int .i64 j ∧ j ≤ f.hs.length ∧ Gs w wr w.heap.size f j ks vs) (fun k _ => f.hs.length - (intOf k).toNat)
  case atStart => exact ⟨0, _, _, rfl, by omega, gs0⟩
  case round =>
    clear gs0
    obtain ⟨j, ks, vs, rfl, hj, gs⟩ := hrel
    have GS : Hid _ := gs
    by_cases hjl : j < f.hs.length
    · have hjl' : (j : Int) < (f.hs.length : Int) := by omega
      obtain ⟨h, hh⟩ : ∃ h, f.hs[j]? = some h := ⟨f.hs[j], by simp⟩
      obtain ⟨a1, a2, a3, a4, a5, a6⟩ := HOK.out.hs h (List.mem_of_getElem? hh)
      obtain ⟨bq, oq, hq, e0, e1, e2, e3⟩ := (HP.out.below gs.bel).fn.hs.lookH (Below.refl _ _) hh
      obtain ⟨F, hF⟩ : ∃ F : Nat, h.fr = F := ⟨h.fr.toNat, by omega⟩
      obtain ⟨T, hT⟩ : ∃ T : Nat, h.to = T := ⟨h.to.toNat, by omega⟩
      rw [hq]
      have hwl := gs.bel.size
      clear gs
      go_wp2
      go_quiet (fail)
      go_wp2
      have gm0 : Gm w ((wr.alloc (.cells #[.int .i64 F, .int .i64 T, .int .i64 h.at_, .int .i64 h.deep] 78)).drewN nq) w.heap.size wr.heap.size h j ks [] vs := by
        have hBx : Below wr.heap.size wr ((wr.alloc (.cells #[.int .i64 F, .int .i64 T, .int .i64 h.at_, .int .i64 h.deep] 78)).drewN nq) := below_drewN (below1 _ _) _
        refine ⟨GS.out.bel.trans (hBx.mono hwl), GS.out.gd.below hBx, ?_⟩
        rw [hF, hT]
        exact heap_alloc_new wr _
      generalize ((wr.alloc (.cells #[.int .i64 F, .int .i64 T, .int .i64 h.at_, .int .i64 h.deep] 78)).drewN nq) = W0 at gm0
      obtain ⟨bh, hbh⟩ : ∃ bh, wr.heap.size = bh := ⟨_, rfl⟩
      rw [hbh] at gm0
      simp only [hbh]
      have hkn : knots f.code.length h = span (f.code.length + T) (f.code.length + F) (f.code.length + T) := by unfold knots; rw [hF, hT]; rfl
      have HKN : Hid _ := hkn
      have HFT : Hid (f.hs[j]? = some h ∧ h.fr = F ∧ h.to = T) := ⟨hh, hF, hT⟩
      have hklen : ks.length = N := by rw [GS.out.built.len]; exact HN.out
      have hsl : (knots f.code.length h).length ≤ 32 := by
        have := span_len (j := 16) (k := f.code.length + T) (a := f.code.length + F) (b := f.code.length + T) (by omega)
        rw [hkn]; omega
      have HKL : Hid (ks.length = N ∧ (knots f.code.length h).length ≤ 32) := ⟨hklen, hsl⟩
      clear hkn hh hklen hsl hq e0 e1 e2 e3
      go_loopw [7, 8] (fun k l wq => ∃ (a b : Nat) (done : List Nat) (us : List Value), k = .int .i64 a ∧ l = .int .i64 b ∧ b ≤ N ∧ done ++ span b a b = knots f.code.length h ∧ Gm w wq w.heap.size bh h j ks done us) (fun _ l _ => (intOf l).toNat)
      case atStart => exact ⟨f.code.length + F, f.code.length + T, [], vs, by simp, by simp, by rw [← HN.out]; omega, by rw [HKN.out]; rfl, gm0⟩
      case round =>
        clear gm0 hF hT hwl hjl
        obtain ⟨a, b, done, us, rfl, rfl, hbN, hsp, gm⟩ := hrel
        have GM : Hid _ := gm
        have hdl : done.length ≤ 32 := by have := HKL.out.2; rw [← hsp, List.length_append] at this; omega
        have c3 : ∀ (W : World), W.heap[bh]? = some (.cells #[.int .i64 h.fr, .int .i64 h.to, .int .i64 h.at_, .int .i64 h.deep] 78 (0, 0)) → W.cell? ⟨bh, 3, none⟩ = some (.int .i64 h.deep) := fun W q => (cell_row4 q).1.2.2.2
        have HA := fun (W : World) (d2 : List Nat) (u2 : List Value) (y : Nat) (g : Gm w W w.heap.size bh h j ks d2 u2) (hy : y < N) (hd : d2.length ≤ 33) => add_in g.gd (i := y) (by rw [addF_len, HKL.out.1]; exact hy) (by have h1 := addF_hs j h.deep d2 ks y; have h2 := GS.out.lens y; have : j * 32 ≤ 524288 := (by omega); omega) j h.deep
        by_cases hab : a < b
        · by_cases qa : a % 2 = 1
          · by_cases qb : b % 2 = 1
            · have pa : (a : Int) % 2 = 1 := by omega
              have pb : (b : Int) % 2 = 1 := by omega
              have ta : Int.tmod (a : Int) 2 = 1 := by rw [Int.tmod_eq_emod_of_nonneg (by omega)]; omega
              have tb : Int.tmod (b : Int) 2 = 1 := by rw [Int.tmod_eq_emod_of_nonneg (by omega)]; omega
              have b32 : (b : Int) ≤ 32768 := by omega
              have hSP : Hid _ := hsp
              have hab' : (a : Int) < (b : Int) := by omega
              have haN : (a : Int) < (N : Int) := by omega
              obtain ⟨b1, hb1⟩ : ∃ b1 : Nat, b = b1 + 1 := ⟨b - 1, by omega⟩
              have hb1' : (b : Int) - 1 = (b1 : Int) := by omega
              have hb1N : (b1 : Int) < (N : Int) := by omega
              have HB1 : Hid _ := hb1
              clear hb1
              clear hsp gm
              go_wp2
              have S0 := c3 _ (gmd GM.out).hb
              go_region_held3 (fun W => W.cell? ⟨bh, 3, none⟩ = some (.int .i64 h.deep)) (first | with_reducible exact S0 | with_reducible exact S5 | go_keep) ((go_at_call 89; (with_reducible refine (HA _ _ _ a (gmd GM.out) (by omega) (by omega)).mono ?_); rintro e w5 ⟨rfl, vs5, gd5, gf5⟩; have gm5 := (gmd GM.out).add gd5 gf5; have S5 := c3 _ gm5.hb))
              go_wp2
              have S6 := c3 _ (gmd gm5).hb
              go_region_held3 (fun W => W.cell? ⟨bh, 3, none⟩ = some (.int .i64 h.deep)) (first | with_reducible exact S6 | with_reducible exact S7 | go_keep) ((go_at_call 89; (with_reducible refine (HA _ _ _ b1 (gmd gm5) (by omega) (by first | omega | (simp; omega))).mono ?_); rintro e w7 ⟨rfl, vs7, gd7, gf7⟩; have gm7 := (gmd gm5).add gd7 gf7; have S7 := c3 _ gm7.hb))
              go_wp2
              go_roundw
              case rel =>
                have hb1 := HB1.out
                refine ⟨(a + 1) / 2, b / 2, ((done ++ [a]) ++ [b1]), vs7, ?_, ?_, by omega, ?_, gm7⟩
                · (congr 1 <;> omega)
                · (congr 1 <;> omega)
                · rw [← hSP.out, span_step hab]
                  rw [if_pos (by omega), if_pos (by omega)]
                  rw [show b - 1 = b1 by omega]
                  simp
              case measure => simp [intOf]; omega
            · have pa : (a : Int) % 2 = 1 := by omega
              have pb : (b : Int) % 2 = 0 := by omega
              have ta : Int.tmod (a : Int) 2 = 1 := by rw [Int.tmod_eq_emod_of_nonneg (by omega)]; omega
              have tb : Int.tmod (b : Int) 2 = 0 := by rw [Int.tmod_eq_emod_of_nonneg (by omega)]; omega
              have b32 : (b : Int) ≤ 32768 := by omega
              have hSP : Hid _ := hsp
              have hab' : (a : Int) < (b : Int) := by omega
              have haN : (a : Int) < (N : Int) := by omega
              clear hsp gm
              go_wp2
              have S0 := c3 _ (gmd GM.out).hb
              go_region_held3 (fun W => W.cell? ⟨bh, 3, none⟩ = some (.int .i64 h.deep)) (first | with_reducible exact S0 | with_reducible exact S5 | go_keep) ((go_at_call 89; (with_reducible refine (HA _ _ _ a (gmd GM.out) (by omega) (by omega)).mono ?_); rintro e w5 ⟨rfl, vs5, gd5, gf5⟩; have gm5 := (gmd GM.out).add gd5 gf5; have S5 := c3 _ gm5.hb))
              go_wp2
              go_roundw
              case rel =>
                refine ⟨(a + 1) / 2, b / 2, (done ++ [a]), vs5, ?_, ?_, by omega, ?_, gm5⟩
                · (congr 1 <;> omega)
                · (congr 1 <;> omega)
                · rw [← hSP.out, span_step hab]
                  rw [if_pos (by omega), if_neg (by omega)]
                  simp
              case measure => simp [intOf]; omega
          · by_cases qb : b % 2 = 1
            · have pa : (a : Int) % 2 = 0 := by omega
              have pb : (b : Int) % 2 = 1 := by omega
              have ta : Int.tmod (a : Int) 2 = 0 := by rw [Int.tmod_eq_emod_of_nonneg (by omega)]; omega
              have tb : Int.tmod (b : Int) 2 = 1 := by rw [Int.tmod_eq_emod_of_nonneg (by omega)]; omega
              have b32 : (b : Int) ≤ 32768 := by omega
              have hSP : Hid _ := hsp
              have hab' : (a : Int) < (b : Int) := by omega
              have haN : (a : Int) < (N : Int) := by omega
              obtain ⟨b1, hb1⟩ : ∃ b1 : Nat, b = b1 + 1 := ⟨b - 1, by omega⟩
              have hb1' : (b : Int) - 1 = (b1 : Int) := by omega
              have hb1N : (b1 : Int) < (N : Int) := by omega
              have HB1 : Hid _ := hb1
              clear hb1
              clear hsp gm
              go_wp2
              have S6 := c3 _ (gmd GM.out).hb
              go_region_held3 (fun W => W.cell? ⟨bh, 3, none⟩ = some (.int .i64 h.deep)) (first | with_reducible exact S6 | with_reducible exact S7 | go_keep) ((go_at_call 89; (with_reducible refine (HA _ _ _ b1 (gmd GM.out) (by omega) (by first | omega | (simp; omega))).mono ?_); rintro e w7 ⟨rfl, vs7, gd7, gf7⟩; have gm7 := (gmd GM.out).add gd7 gf7; have S7 := c3 _ gm7.hb))
              go_wp2
              go_roundw
              case rel =>
                have hb1 := HB1.out
                refine ⟨(a + 1) / 2, b / 2, (done ++ [b1]), vs7, ?_, ?_, by omega, ?_, gm7⟩
                · (congr 1 <;> omega)
                · (congr 1 <;> omega)
                · rw [← hSP.out, span_step hab]
                  rw [if_neg (by omega), if_pos (by omega)]
                  rw [show b - 1 = b1 by omega]
                  simp
              case measure => simp [intOf]; omega
            · have pa : (a : Int) % 2 = 0 := by omega
              have pb : (b : Int) % 2 = 0 := by omega
              have ta : Int.tmod (a : Int) 2 = 0 := by rw [Int.tmod_eq_emod_of_nonneg (by omega)]; omega
              have tb : Int.tmod (b : Int) 2 = 0 := by rw [Int.tmod_eq_emod_of_nonneg (by omega)]; omega
              have b32 : (b : Int) ≤ 32768 := by omega
              have hSP : Hid _ := hsp
              have hab' : (a : Int) < (b : Int) := by omega
              have haN : (a : Int) < (N : Int) := by omega
              clear hsp gm
              go_wp2
              go_roundw
              case rel =>
                refine ⟨(a + 1) / 2, b / 2, done, us, ?_, ?_, by omega, ?_, GM.out⟩
                · (congr 1 <;> omega)
                · (congr 1 <;> omega)
                · rw [← hSP.out, span_step hab]
                  rw [if_neg (by omega), if_neg (by omega)]
                  simp
              case measure => simp [intOf]; omega
        · have hab' : ¬ ((a : Int) < (b : Int)) := by omega
          rw [span_end hab, List.append_nil] at hsp
          subst hsp
          clear gm HA c3 hdl
          go_wp2
          go_roundw
          case rel =>
            obtain ⟨r1, r2, r3⟩ := HFT.out
            obtain ⟨a1, a2, a3, a4, a5, a6⟩ := HOK.out.hs h (List.mem_of_getElem? r1)
            have hjl : j < f.hs.length := (List.getElem?_eq_some_iff.1 r1).1
            refine ⟨j + 1, _, us, by simp, by omega, GM.out.bel, GM.out.gd, ?_, fun y => ?_, addF_nn j h.deep (knots f.code.length h) ks GS.out.nn⟩
            · have hb := GS.out.built.add (h := h) (by omega) (by omega)
              rw [List.length_take, Nat.min_eq_left (by omega)] at hb
              rw [List.take_add_one, r1]
              exact hb
            · have h1 := addF_hs j h.deep (knots f.code.length h) ks y
              have h2 := GS.out.lens y
              have h3 := HKL.out.2
              rw [Nat.succ_mul]; omega
          case measure => simp [intOf]; omega
    · have hjl' : ¬ ((j : Int) < (f.hs.length : Int)) := by omega
      obtain rfl : j = f.hs.length := by omega
      have hkl : ks.length = N := by rw [gs.built.len]; exact HN.out
      have gp0 : Gp w wr w.heap.size 2 ks ks vs := by
        refine ⟨gs.bel, gs.gd, rfl, fun _ => rfl, fun y h0 hy => ?_, fun _ _ => rfl⟩
        obtain rfl : y = 1 := by omega
        rw [deepF_half ks (by omega)]
        have h1 := gs.nn 1
        show _ = max (deepF ks (path 0 0) 0) _
        rw [path_zero]
        show _ = max 0 _
        omega
      have HKL : Hid _ := hkl
      clear gs hkl hj hjl
      go_wp2
      go_loopw [9] (fun k wq => ∃ (n : Nat) (ks' : List Kn), k = .int .i64 n ∧ 2 ≤ n ∧ Gp w wq w.heap.size n ks ks' vs) (fun k _ => N - (intOf k).toNat)
      case atStart => exact ⟨2, ks, rfl, by omega, gp0⟩
      case round =>
        clear gp0
        obtain ⟨n, ks', rfl, hn2', gp⟩ := hrel
        have GP : Hid _ := gp
        by_cases hnN : n < N
        · have hnN' : (n : Int) < (N : Int) := by omega
          have hkl' : ks'.length = N := by rw [gp.len]; exact HKL.out
          obtain ⟨v1, -, a0, -, fz⟩ := gp.gd.at (i := n) (by omega)
          obtain ⟨v2, -, b0, -, -⟩ := gp.gd.at (i := n / 2) (by omega)
          have f0 := fz (n * 2)
          have HNX : Hid _ := gp.next hn2' (by rw [HKL.out]; exact hnN)
          obtain ⟨m, hm⟩ : ∃ m, n / 2 = m := ⟨_, rfl⟩
          have hq : (n : Int) / 2 = (m : Int) := by omega
          have hqN : (m : Int) < (N : Int) := by omega
          rw [hm] at b0 HNX
          clear gp fz hkl' hm
          go_wp2
          go_region
          go_wp2
          go_roundw
          case rel => exact ⟨n + 1, _, by simp, by omega, HNX.out.drew⟩
          case measure => simp [intOf]; omega
        · have hnN' : ¬ ((n : Int) < (N : Int)) := by omega
          clear gp
          go_wp2
          go_ret
          refine ⟨_, rfl, .inr ⟨w.heap.size, ks, ks', vs, ?_, GP.out.gd, GP.out.bel, GP.out.done (by rw [HKL.out]; omega), ?_, GS.out.lens⟩⟩
          · rw [HN.out]
            rfl
          · have := GS.out.built
            rw [List.take_length] at this
            exact this

end Go.Proofs.YtnekcomkochmjaaGreatDoor
