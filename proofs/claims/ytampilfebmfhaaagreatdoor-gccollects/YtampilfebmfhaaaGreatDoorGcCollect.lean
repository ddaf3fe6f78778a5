/- gc's Collect. -/
import Derived.Test.YtampilfebmfhaaaGreatDoorGcWrites
namespace Go.Proofs.YtampilfebmfhaaaGreatDoor
set_option linter.unusedVariables false
set_option linter.unusedSimpArgs false
open Go.RowKit Go.Maps

variable {n₀ bh b lim used : Nat} {vw vb : Value} {w : World} {M : List Ob}

theorem wrs_mem {M L : List Ob} {d : Nat → Nat} {x : Wr} (h : x ∈ wrs M d L) : ∃ o ∈ L, ∃ y ∈ links M o, x.fr = d o.at_ ∧ x.word = y.word := by
  unfold wrs at h
  obtain ⟨o, ho, hx⟩ := List.mem_flatMap.1 h
  unfold wrsOf at hx
  obtain ⟨y, hy, rfl⟩ := List.mem_map.1 hx
  exact ⟨o, ho, y, (List.mem_filter.1 hy).1, rfl, rfl⟩

theorem putsW_alike (A : List Ob) : ∀ (xs : List Wr) (B : List Ob), Alike A B → Alike A (putsW B xs)
  | [], B, h => h
  | x :: xs, B, h => putsW_alike A xs (putW B x) (h.putW x)

/-- The object that a write is for. -/
theorem write_atG {M L : List Ob} {lo : Nat} (hs : Srt lo L) {x : Wr} (hx : x ∈ wrs M (dst 0 L) L) (xs : List Wr) : ∃ l q r, putsW (slid 0 L) xs = l ++ q :: r ∧ q.at_ = x.fr ∧ x.word < q.ws.length := by
  obtain ⟨o, ho, y, hy, h1, h2⟩ := wrs_mem hx
  have hm : (⟨dst 0 L o.at_, o.kind, o.ws⟩ : Ob) ∈ slid 0 L := by rw [slid_map hs]; exact List.mem_map.2 ⟨o, ho, rfl⟩
  obtain ⟨q, hq, e1, e2, e3⟩ := (putsW_alike (slid 0 L) xs (slid 0 L) (Alike.refl _)).get hm
  obtain ⟨l, r, e⟩ := List.append_of_mem hq
  refine ⟨l, q, r, e, by rw [e1, h1], ?_⟩
  rw [e3, h2]
  exact (List.getElem?_eq_some_iff.1 (links_word hy)).1

theorem Vals.kept {p : Option Addr} {vs : List Vl} (h : Vals w p vs) {w' : World} (hk : ∀ b0 off, p = some ⟨b0, off, none⟩ → w'.heap[b0]? = w.heap[b0]?) : Vals w' p vs := by
  intro j v hj
  obtain ⟨b0, off, e, h1, h2⟩ := h j v hj
  have := hk b0 off e
  exact ⟨b0, off, e, (World.cell?_of_block (a := ⟨b0, off + j * 2, none⟩) this).trans h1, (World.cell?_of_block (a := ⟨b0, off + j * 2 + 1, none⟩) this).trans h2⟩

set_option maxRecDepth 20000 in
set_option maxHeartbeats 2000000 in
theorem collect_ok (h : Hp n₀ bh b vw vb w lim used M) (hl1 : 1 ≤ lim) {p : Option Addr} {vs : List Vl} (c : Nat) (hv : Vals w p vs) (hp : p = none → vs = [] ∧ c = 0) (hlen : vs.length ≤ 1000000) (hk8 : ∀ v ∈ vs, v.k < 256)
    (hst : ∀ vw' vb' w', Step b vw vb w vw' vb' w' → Vals w' p vs) (hmay : May M vs) :
    Calls Tryz.prog 14 #[.pointer (some ⟨bh, 0, none⟩), .slice p vs.length c] w fun e w' => ∃ (v : Value), e = .returned (.tuple #[v, .int .i64 0]) ∧ ∃ (f : Ob → Bool) (vw' vb' : Value), Reached M vs f ∧
      OwnVals w.heap.size v (vs.map (newRoot (dst 0 (M.filter f)))) w' ∧ Hp n₀ bh b vw' vb' w' lim (sumO (M.filter f)) (fin M (M.filter f)) ∧ Step b vw vb w vw' vb' w' := by
  have H1 : Calls Tryz.prog 21 #[.pointer (some ⟨bh, 0, none⟩), .slice p vs.length c] w fun e w' => e = .returned (.int .i64 0) ∧ Below w.heap.size w w' := by
    refine (check_in h hl1 c hv hlen hk8).mono ?_
    rintro e w' ⟨⟨_, he⟩ | ⟨hn, _⟩, hB⟩
    · exact ⟨he, hB⟩
    · exact (hn hmay).elim
  have H2 := fun w' (hB : Below w.heap.size w w') => reached_obs (h.below hB) c (hv.below hB) hlen
  have hle := h.le
  have hvw : ∀ k, vw.ownBlock = some k → k < w.heap.size := fun k e => (h.blocks k (.inr (.inr (.inl e)))).2.1
  go_enter Tryz.func14, Tryz.ntmps14
  go_wp2_with (first
    | (go_at_call 21; refine H1.mono ?_; clear H1; rintro e w1 ⟨rfl, hB1⟩)
    | (go_at_call 22; refine (H2 _ hB1).mono ?_; clear H2; rintro e w2 ⟨f, q, c2, hf, rfl, hrow, hB2⟩
       obtain ⟨L, hL⟩ : ∃ L, M.filter f = L := ⟨_, rfl⟩
       have hLm : ∀ o ∈ L, o ∈ M := fun o ho => by rw [← hL] at ho; exact (List.mem_filter.1 ho).1
       have hs : Srt 0 L := by rw [← hL]; exact h.srt.1.filter
       have hB02 := hB1.trans (hB2.mono hB1.size)
       have hp2 := h.below hB02
       have hre : Reached M vs f := ⟨hmay, hf⟩
       rw [hL] at hrow
       simp only [hL]
       have H3 := plan_in hp2 hLm hs q c2 _ hrow)
    | (go_at_call 96; refine H3.mono ?_; clear H3; rintro e w3 ⟨rfl, hmv, hB3⟩
       have hB03 := hB02.trans (hB3.mono hB02.size)
       have hp3 := h.below hB03
       have hrow3 := row_kept hrow (fun k hk => hB3.block k (hrow.lt k hk).2)
       have H4 := writes_in hp3 hre hL hmv q c2 _ hrow3)
    | (go_at_call 97; refine H4.mono ?_; clear H4; rintro e w4 ⟨vc, cs, rfl, hcr, hcl, hB4⟩
       obtain ⟨pc, cc, rfl, _, _⟩ := IsAr.row_form hcr
       have hB04 := hB03.trans (hB4.mono hB03.size)
       have hp4 := h.below hB04
       have hrow4 := row_kept hrow3 (fun k hk => hB4.block k (hrow3.lt k hk).2)
       have hmv4 := hmv.below hB4
       have H5 := slide_in hp4 hL hmv4 q c2 _ hrow4)
    | (go_at_call 98; refine H5.mono ?_; clear H5; rintro e w5 ⟨rfl, tail, htl, hp5, hS5⟩
       have hsu := hp5.srt
       have H6 := cutM hp5 (sumO L) (fun q hq => by have := slid_end q hq; omega) htl (by have := Srt.sum_used hs (fun o ho => h.srt.2 o (hLm o ho)) (Nat.zero_le _); omega))
    | (go_at_call 99; refine H6.mono ?_; clear H6; rintro e w6 ⟨rfl, vw6, vb6, hp6, hS6⟩))
  have hcl6 := (hcl.step hp4 hS5).step hp5 hS6
  have hcr6 := hp5.row hS6 (hp4.row hS5 hcr (by decide)) (by decide)
  have hmv6 := (hmv4.step hp4 hS5).step hp5 hS6
  have hS06 := (Step.belowL hB04 hS5 hvw).trans hS6
  have hcl0 := hcl6.length
  have hwl := wrs_len M (dst 0 L) L
  have hsu := Srt.sum_used hs (fun o ho => h.srt.2 o (hLm o ho)) (Nat.zero_le _)
  have hcb : cs.length ≤ 1048576 := by omega
  have hpz : Hp n₀ bh b vw6 vb6 w6 lim (sumO L) (putsW (slid 0 L) []) := hp6
  clear hp6 hp5 hp4 hp3 hp2 hcl hcr hmv hmv4 hS5 hS6 hrow hrow3 hrow4 hB1 hB2 hB3 hB4 hB02 hB03 htl
  go_loopw [41] (fun k wr => ∃ (done left : List Wr) (vw' vb' : Value), wrs M (dst 0 L) L = done ++ left ∧ k = .int .i64 done.length ∧ Hp n₀ bh b vw' vb' wr lim (sumO L) (putsW (slid 0 L) done) ∧ Step b vw vb w vw' vb' wr ∧ Clos bh wr cs (wrs M (dst 0 L) L) ∧ wr.ownsRow (w3.heap.size + 3) 1 1 (.slice pc cs.length cc) cs.length cs ∧ IsMv wr w2.heap.size L.length (dst 0 L)) (fun k _ => cs.length - (intOf k).toNat)
  case atStart => exact ⟨[], _, vw6, vb6, rfl, rfl, hpz, hS06, hcl6, hcr6, hmv6⟩
  case round =>
    obtain ⟨done, left, vw', vb', hD, rfl, hpr, hS, hcl, hcr, hmv⟩ := hrel
    cases left with
    | nil =>
      have hD' : wrs M (dst 0 L) L = done := by simpa using hD
      have hq : ¬ ((done.length : Int) < (cs.length : Int)) := by rw [hcl0, hD']; omega
      rw [← hD', puts_fin hs] at hpr
      have H7 := roots_in hmv c (hst _ _ _ hS) hp hlen hk8 (fun v hvm hk => by
        obtain ⟨_, _, o, ho, e, _⟩ := (hmay v hvm).2 hk.1
        have h1 := h.srt.2 o ho
        have h2 := dst_le (p := v.n.toNat) hs
        unfold Ob.end_ at h1
        refine ⟨by omega, by omega, by omega⟩)
      clear hD hD' hcl0
      go_wp2_with (first
        | (go_at_call 100; refine H7.mono ?_; clear H7; rintro e w7 ⟨v7, rfl, hown7, hB7⟩))
      go_ret2
      refine ⟨v7, rfl, f, vw', vb', hre, ?_, ?_, hS.belowR hB7⟩
      · rw [hL]; exact row_mono2 hown7 hS.size
      · rw [hL]; exact hpr.below hB7
    | cons x left =>
      have hxm : x ∈ wrs M (dst 0 L) L := by rw [hD]; simp
      have hlR : done.length < cs.length := by rw [hcl0, hD]; simp
      obtain ⟨cv, hcv, Bh, Bf, Bk, Bt, t0, t, more, rfl, g1, g2, g3, g4, g5, g6, g7, g8⟩ := hcl.get (j := done.length) (x := x) (by rw [hD]; simp)
      obtain ⟨l, o, r, e1, e2, e3⟩ := write_atG hs hxm done
      rw [e1] at hpr
      have hsr := hpr.srt.1
      rw [← e2] at g2
      have H8 := clo_in hpr g1 g2 g3 g4 g6 g7 e3
      obtain ⟨g, rfl⟩ := row_where hcr (by omega)
      have d1 := row_cell hcr hcv hlR
      have e4 : (((done ++ [x]).length : Nat) : Int) = done.length + 1 := by simp
      have HD : Hid _ := And.intro hD (And.intro e1 (And.intro e2 g5))
      clear hD e1 e2 g5 hcl0 g1 g2 g3 g4
      go_wp2_with (first
        | (go_at_call 173; refine H8.mono ?_; clear H8; rintro e w7 ⟨rfl, hp7, hS7⟩))
      go_roundw
      case rel =>
        obtain ⟨k1, k2, k3, k4⟩ := HD.out
        refine ⟨done ++ [x], left, vw', vb', by rw [k1]; simp, by rw [e4], ?_, hS.trans hS7, hcl.step hpr hS7, hpr.row hS7 hcr (by decide), hmv.step hpr hS7⟩
        rw [putsW_snoc, k2, putW_at hsr x k3, k4]
        exact hp7
      case measure => simp [intOf]; omega

theorem collect_bad (h : Hp n₀ bh b vw vb w lim used M) (hl1 : 1 ≤ lim) {p : Option Addr} {vs : List Vl} (c : Nat) (hv : Vals w p vs) (hlen : vs.length ≤ 1000000) (hk8 : ∀ v ∈ vs, v.k < 256) (hmay : ¬ May M vs) :
    Calls Tryz.prog 14 #[.pointer (some ⟨bh, 0, none⟩), .slice p vs.length c] w fun e w' => e = .returned (.tuple #[.slice none 0 0, .int .i64 1]) ∧ Below w.heap.size w w' := by
  have H1 : Calls Tryz.prog 21 #[.pointer (some ⟨bh, 0, none⟩), .slice p vs.length c] w fun e w' => e = .returned (.int .i64 1) ∧ Below w.heap.size w w' := by
    refine (check_in h hl1 c hv hlen hk8).mono ?_
    rintro e w' ⟨⟨hn, _⟩ | ⟨_, he⟩, hB⟩
    · exact (hmay hn).elim
    · exact ⟨he, hB⟩
  go_enter Tryz.func14, Tryz.ntmps14
  go_wp2_with (first
    | (go_at_call 21; refine H1.mono ?_; clear H1; rintro e w1 ⟨rfl, hB1⟩))
  go_ret2
  exact ⟨rfl, hB1⟩


end Go.Proofs.YtampilfebmfhaaaGreatDoor
