/- The program's tree of handlers: deepest, news. -/
import Derived.Test.YtpjgdbeekmoedaaDoorVfPTree
import Derived.Laws.AppendOwnNone
import Derived.Lib.SliceRun
namespace Go.Proofs.YtpjgdbeekmoedaaDoor
set_option linter.unusedVariables false
set_option linter.unusedSimpArgs false
open Go.RowKit

variable {w : World}

theorem nilEq (a : Option Addr) (n c : Nat) (W : World) : Sem.run Tryd.prog (binOp .eql 87 (.slice a n c) (.slice none 0 0)) W = .ok (.bool a.isNone) W :=
  Lib.run_eql_slice_nil W 87 125 a n c 0 0 Tryd.underlying87

theorem deepF_step (ks : List Kn) {n : Nat} (hn : 0 < n) (d : Int) : deepF ks (path n n) d = deepF ks (path (n / 2) (n / 2)) (max d (kn ks n).deep) := by
  rw [path_self hn]; rfl

set_option maxRecDepth 20000 in
set_option maxHeartbeats 2000000 in
theorem deepest_in {base gg leaf : Nat} {ks : List Kn} {vs : List Value} (c : Nat) (h : Gd w base gg ks vs) (hl : ks.length = 2 * leaf) (hl2 : leaf ≤ 16384) {pc : Nat} (hp : pc < leaf) :
    Calls Tryd.prog 42 #[.slice (some ⟨gg, 0, none⟩) ks.length c, .int .i64 pc] w fun e w' => e = .returned (.int .i64 (kn ks (leaf + pc)).deep) ∧ w' = w := by
  have hq : ((ks.length : Nat) : Int) / 2 = (leaf : Int) := by omega
  have hk32 : ks.length ≤ 32768 := by omega
  have hs : leaf + pc < ks.length := by omega
  obtain ⟨v, hv, c0, c1, -⟩ := h.at hs
  have hs' : (leaf : Int) + (pc : Int) < (ks.length : Int) := by omega
  have hnil := nilEq (some ⟨gg, 0, none⟩) ks.length c
  clear hl h
  go_enter Tryd.func42, Tryd.ntmps42
  go_wp2
  go_ret
  exact ⟨rfl, rfl⟩

theorem deepest_nil (pc : Int) : Calls Tryd.prog 42 #[.slice none 0 0, .int .i64 pc] w fun e w' => e = .returned (.int .i64 0) ∧ w' = w := by
  have hnil := nilEq none 0 0
  go_enter Tryd.func42, Tryd.ntmps42
  go_wp2
  go_ret
  exact ⟨rfl, rfl⟩

theorem news_nil (pc : Int) : Calls Tryd.prog 43 #[.slice none 0 0, .int .i64 pc] w fun e w' => e = .returned (.slice none 0 0) ∧ w' = w := by
  have hnil := nilEq none 0 0
  go_enter Tryd.func43, Tryd.ntmps43
  go_wp2
  go_ret
  exact ⟨rfl, rfl⟩

theorem path_len : ∀ {j k x : Nat}, x < 2 ^ j → (path k x).length ≤ j
  | j, 0, x, _ => by simp [path]
  | 0, k + 1, x, h => by
    have : x = 0 := by simpa using h
    subst this; simp [path]
  | j + 1, k + 1, x, h => by
    unfold path
    split
    · have := path_len (j := j) (k := k) (x := x / 2) (by rw [Nat.pow_succ] at h; omega)
      simp; exact this
    · simp

theorem newsF_step (ks : List Kn) {n : Nat} (hn : 0 < n) : newsF ks (path n n) = (kn ks n).hs ++ newsF ks (path (n / 2) (n / 2)) := by
  rw [path_self hn]; rfl

theorem clrF_step (ks : List Kn) {n : Nat} (hn : 0 < n) : clrF ks (path n n) = clrF (clr1 ks n) (path (n / 2) (n / 2)) := by
  rw [path_self hn]; rfl

theorem half_not_mem {n : Nat} (hn : 0 < n) : n ∉ path (n / 2) (n / 2) := by
  intro h
  have := path_le h
  omega

theorem newsF_len (ks : List Kn) {b : Nat} (hb : ∀ y, (kn ks y).hs.length ≤ b) : ∀ l : List Nat, (newsF ks l).length ≤ l.length * b
  | [] => by simp [newsF]
  | y :: l => by
    have h1 := newsF_len ks hb l
    have h2 := hb y
    have : newsF ks (y :: l) = (kn ks y).hs ++ newsF ks l := rfl
    rw [this, List.length_append, List.length_cons, Nat.succ_mul]
    omega

theorem Gd.clear {base gg : Nat} {ks : List Kn} {vs : List Value} (h : Gd w base gg ks vs) {i : Nat} (hi : i < ks.length) : Gd (w.setCell ⟨gg, i * 2 + 1, none⟩ (.slice none 0 0)) base gg (clr1 ks i) (vs.set i (.slice none 0 0)) ∧ Gf gg vs (vs.set i (.slice none 0 0)) w (w.setCell ⟨gg, i * 2 + 1, none⟩ (.slice none 0 0)) := by
  have hl : vs.length = (ks.map Kn.deep).length := by simp [h.len]
  have hil : i < vs.length := by rw [h.len]; exact hi
  have ekn := fun j => clr1_kn ks i j
  refine ⟨⟨?_, by simp [h.len, clr1], fun j u hu => ?_, fun a b x y g ha hb e1 e2 => ?_, h.bs, fun j u hu he => ?_⟩, ?_⟩
  · have := heap_setCell_same w gg (i * 2 + 1) _ _ (.slice none 0 0) h.gb
    rw [this]
    have e : (clr1 ks i).map Kn.deep = ks.map Kn.deep := by
      unfold clr1
      rw [List.map_set]
      refine List.ext_getElem? (fun j => ?_)
      rw [List.getElem?_set]
      split
      · rename_i q
        subst q
        have e0 : ks[i] = kn ks i := by have := kn_at hi; simpa [hi] using this
        simp [hi, e0]
      · rfl
    rw [e, List.setIfInBounds_toArray, gcells_setv hl]
  · rw [List.getElem?_set] at hu
    rw [ekn]
    by_cases q : i = j
    · subst q
      simp [hil] at hu
      subst hu
      simp only [if_true]
      exact World.ownsRow_nil _ _ _ _
    · simp [q] at hu
      rw [if_neg (fun e => q e.symm)]
      have hr := h.row j u hu
      exact row_kept hr (fun k e => heap_setCell_other w ⟨gg, i * 2 + 1, none⟩ k _ (fun e2 => h.ne hu (by rw [e]; exact congrArg some e2)))
  · rw [List.getElem?_set] at ha hb
    by_cases qa : i = a
    · exfalso
      simp [qa] at ha
      rw [← qa] at ha
      simp [hil] at ha
      subst ha
      simp [Value.ownBlock] at e1
    · by_cases qb : i = b
      · exfalso
        simp [qb] at hb
        rw [← qb] at hb
        simp [hil] at hb
        subst hb
        simp [Value.ownBlock] at e2
      · simp [qa] at ha
        simp [qb] at hb
        exact h.ap a b x y g ha hb e1 e2
  · rw [List.getElem?_set] at hu
    rw [ekn] at he
    by_cases q : i = j
    · subst q
      simp [hil] at hu
      exact hu.symm
    · simp [q] at hu
      rw [if_neg (fun e => q e.symm)] at he
      exact h.nil j u hu he
  · refine ⟨rfl, rfl, rfl, by simp [World.setCell], fun k hk h1 h2 => heap_setCell_other w ⟨gg, i * 2 + 1, none⟩ k _ h1, fun u hu g hg => ?_⟩
    rcases List.mem_or_eq_of_mem_set hu with e | e
    · exact .inl ⟨u, e, hg⟩
    · subst e
      simp [Value.ownBlock] at hg

/-- While news are gathered. -/
structure Nw (w0 W : World) (base gg : Nat) (vs0 : List Value) (n : Nat) (v : Value) (L0 : List Nat) (ks : List Kn) (vs : List Value) (L : List Nat) (KS : List Kn) : Prop where
  gd : Gd W base gg ks vs
  row : W.ownsRow w0.heap.size 3 1 v L0.length (L0.map nv)
  news : L0 ++ newsF ks (path n n) = L
  clr : clrF ks (path n n) = KS
  gf : Gf gg vs0 vs w0 W
  sub : ∀ x ∈ vs, ∀ g, x.ownBlock = some g → ∃ y ∈ vs0, y.ownBlock = some g

theorem Nw.next {w0 W W' : World} {base gg n : Nat} {vs0 vs : List Value} {v v' : Value} {L0 L : List Nat} {ks KS : List Kn} (h : Nw w0 W base gg vs0 n v L0 ks vs L KS) (hn : 0 < n) (hi : n < ks.length)
    (hrow : W'.ownsRow w0.heap.size 3 1 v' (L0 ++ (kn ks n).hs).length ((L0 ++ (kn ks n).hs).map nv)) (gd : Gd W' base gg ks vs) (gf : Gf gg vs0 vs w0 W') :
    Nw w0 (W'.setCell ⟨gg, n * 2 + 1, none⟩ (.slice none 0 0)) base gg vs0 (n / 2) v' (L0 ++ (kn ks n).hs) (clr1 ks n) (vs.set n (.slice none 0 0)) L KS := by
  obtain ⟨g1, g2⟩ := gd.clear hi
  refine ⟨g1, row_kept hrow (fun k e => heap_setCell_other W' ⟨gg, n * 2 + 1, none⟩ k _ (fun e2 => ?_)), ?_, ?_, gf.trans g2, fun x hx g e => ?_⟩
  · obtain ⟨cur, hc⟩ := row_obj hrow e
    have e3 : k = gg := e2
    rw [e3, gd.gb] at hc
    simp at hc
  · rw [newsF_clr (half_not_mem hn), List.append_assoc, ← newsF_step ks hn]
    exact h.news
  · rw [← clrF_step ks hn]
    exact h.clr
  · rcases List.mem_or_eq_of_mem_set hx with q | q
    · exact h.sub x q g e
    · subst q
      simp [Value.ownBlock] at e

set_option maxRecDepth 20000 in
set_option maxHeartbeats 4000000 in
theorem news_in {base gg leaf : Nat} {ks : List Kn} {vs : List Value} (c : Nat) (h : Gd w base gg ks vs) (hl : ks.length = 2 * leaf) (hl2 : leaf ≤ 16384) {pc : Nat} (hp : pc < leaf) (hb : ∀ y, (kn ks y).hs.length ≤ 1073741824) :
    Calls Tryd.prog 43 #[.slice (some ⟨gg, 0, none⟩) ks.length c, .int .i64 pc] w fun e w' => ∃ v vs', e = .returned v ∧ w'.ownsRow w.heap.size 3 1 v (newsF ks (path (leaf + pc) (leaf + pc))).length ((newsF ks (path (leaf + pc) (leaf + pc))).map nv) ∧ Gd w' base gg (clrF ks (path (leaf + pc) (leaf + pc))) vs' ∧ Gf gg vs vs' w w' ∧ (∀ x ∈ vs', ∀ g, x.ownBlock = some g → ∃ y ∈ vs, y.ownBlock = some g) := by
  have hq : ((ks.length : Nat) : Int) / 2 = (leaf : Int) := by omega
  obtain ⟨i1, hj0, hy0, hy1, hy2⟩ := info_parts infoInts
  obtain ⟨L, hL⟩ : ∃ L, newsF ks (path (leaf + pc) (leaf + pc)) = L := ⟨_, rfl⟩
  obtain ⟨KS, hKS⟩ : ∃ KS, clrF ks (path (leaf + pc) (leaf + pc)) = KS := ⟨_, rfl⟩
  have hLl : L.length ≤ 17179869184 := by
    rw [← hL]
    have h1 := newsF_len ks hb (path (leaf + pc) (leaf + pc))
    have h2 := path_len (j := 16) (k := leaf + pc) (x := leaf + pc) (by omega)
    have h3 := Nat.mul_le_mul_right 1073741824 h2
    omega
  rw [hL, hKS]
  have nw0 : Nw w w base gg vs (leaf + pc) (.slice none 0 0) [] ks vs L KS := ⟨h, World.ownsRow_nil _ _ _ _, hL, hKS, .refl _ _ _, fun x hx g e => ⟨x, hx, e⟩⟩
  have hold : Hid (∀ y ∈ vs, ∀ g, y.ownBlock = some g → g < w.heap.size) := fun y hy g e => by
    obtain ⟨i, hi⟩ := List.getElem?_of_mem hy
    exact ((h.row i y hi).lt g e).2
  have hk32 : ks.length ≤ 32768 := by omega
  have hs : leaf + pc < ks.length := by omega
  obtain ⟨kl, hkl⟩ : ∃ kl, ks.length = kl := ⟨_, rfl⟩
  have HKL : Hid (ks.length = kl) := hkl
  rw [hkl] at hq hk32 hs ⊢
  have HL : Hid (ks.length = 2 * leaf) := hl
  have hnil := nilEq (some ⟨gg, 0, none⟩) kl c
  clear hl h hL hKS hb hkl
  go_enter Tryd.func43, Tryd.ntmps43
  go_wp2
  go_loopw [5, 6] (fun k l wr => ∃ (n : Nat) (v : Value) (L0 : List Nat) (ks' : List Kn) (vs' : List Value), k = v ∧ l = .int .i64 n ∧ n < kl ∧ ks'.length = kl ∧ Nw w wr base gg vs n v L0 ks' vs' L KS) (fun _ l _ => (intOf l).toNat)
  case atStart => exact ⟨leaf + pc, _, _, ks, vs, rfl, by simp, hs, HKL.out, nw0⟩
  case round =>
    clear nw0 hs
    obtain ⟨n, v, L0, ks', vs', rfl, rfl, hn, hkl, nw⟩ := hrel
    by_cases h0 : n = 0
    · subst h0
      have NW : Hid _ := nw
      clear nw
      go_wp2
      go_ret
      have hw := NW.out
      have e1 : L0 = L := by have := hw.news; simpa [path, newsF] using this
      have e2 : ks' = KS := by have := hw.clr; simpa [path, clrF] using this
      subst e1 e2
      exact ⟨_, vs', rfl, hw.row, hw.gd, hw.gf, hw.sub⟩
    · obtain ⟨u, hu, c0, c1, fz⟩ := nw.gd.at (i := n) (by omega)
      have f1 := fz (n * 2 + 1)
      have hn0 : 0 < (n : Int) := by omega
      have hn' : (n : Int) < (kl : Int) := by omega
      have hro := nw.row
      have hgr := nw.gd.row n u hu
      have hgn := nw.gd.nil n u hu
      have hwl := nw.gf.size
      have hlen : L0.length + (kn ks' n).hs.length ≤ 17179869184 := by
        have := nw.news
        rw [newsF_step ks' (by omega)] at this
        have := congrArg List.length this
        simp at this
        omega
      have NW : Hid _ := nw
      have HI : Hid (0 < n ∧ n < ks'.length) := ⟨by omega, by omega⟩
      have hnv := nw.gd.ne hu
      have hgl := nw.gd.lt
      have KL : Hid _ := hkl
      clear nw fz hkl
      obtain ⟨pv, cv, rfl, -, -, -⟩ := row_form hro
      by_cases he : (kn ks' n).hs = []
      · obtain rfl := hgn he
        clear hgr hgn
        go_wp2_with (first
          | (at_builtin; refine wpList_append_own_none rfl _ _ 32 rfl w.heap.size 3 i1 1 Tryd.underlying32 hj0 _ L0.length _ rfl hro rfl ?_))
        go_roundw
        case rel =>
          have hw := NW.out
          refine ⟨n / 2, _, L0 ++ (kn ks' n).hs, clr1 ks' n, vs'.set n (.slice none 0 0), rfl, by simp, by omega, by unfold clr1; rw [List.length_set]; exact KL.out, hw.next HI.out.1 HI.out.2 ?_ hw.gd hw.gf⟩
          rw [he, List.append_nil]
          exact hw.row
        case measure => simp [intOf]; omega
      · have hpos : 0 < (kn ks' n).hs.length := List.length_pos_iff.2 he
        obtain ⟨pu, cu, rfl, -, -, hpu⟩ := row_form hgr
        obtain ⟨gu, rfl⟩ := hpu hpos
        have hnews : ∀ j x, ((kn ks' n).hs.map nv)[j]? = some x → wr.cell? ((⟨gu, 0, none⟩ : Addr).add j) = some x := fun j x hx => by
          have := hgr.cells (g := gu) rfl j x hx
          simpa [Addr.add] using this
        have hone : ∀ x ∈ (kn ks' n).hs.map nv, x.oneCell' = true := fun x hx => by
          obtain ⟨m, -, rfl⟩ := List.mem_map.1 hx
          rfl
        have hlb : (Value.slice pv L0.length cv).ownBlock ≠ some gg := fun e => by
          obtain ⟨cur, hc⟩ := row_obj hro e
          rw [NW.out.gd.gb] at hc
          simp at hc
        have HHS : Hid (0 < (kn ks' n).hs.length) := hpos
        obtain ⟨hsn, hhsn⟩ : ∃ k, (kn ks' n).hs.length = k := ⟨_, rfl⟩
        have hmap : ((kn ks' n).hs.map nv).length = hsn * 1 := by simp [hhsn]
        have HSN : Hid _ := hhsn
        obtain ⟨xs, hxs⟩ : ∃ xs, (kn ks' n).hs.map nv = xs := ⟨_, rfl⟩
        have HXS : Hid _ := hxs
        rw [hxs] at hnews hone hmap
        rw [hhsn] at hpos hlen c1 hgr hu hnv
        clear hgr hgn hhsn hxs he hnv
        go_wp2_with (first
          | (at_builtin; refine wpList_append_lies _ rfl _ _ 32 rfl w.heap.size 3 i1 (.int .i64 0) 1 8 Tryd.underlying32 hj0 hy0 hy1 hy2 rfl (by decide) (.slice pv L0.length cv) L0.length (L0.map nv) rfl hro ⟨gu, 0, none⟩ hsn cu xs rfl hmap hnews hone hpos (by unfold maxLen; omega) (by omega) hwl wr.heap.size rfl ?_; intro g4 c4 w4 hown4 hgrow4 hat4 hlt4; have G2 : w4.frozen? ⟨gg, n * 2 + 1, none⟩ = false := (hgrow4.frozen_far _ hgl hlb.symm).trans f1; have G4 : w4.cell? ⟨gg, n * 2 + 1, none⟩ = some (.slice (some ⟨gu, 0, none⟩) hsn cu) := (hgrow4.cell_far _ hgl hlb.symm).trans c1))
        go_roundw
        case rel =>
          have hw := NW.out
          have key : ∀ k, k < wr.heap.size → (Value.slice pv L0.length cv).ownBlock ≠ some k → w4.heap[k]? = wr.heap[k]? := fun k hk hv => hgrow4.block _ hk (fun e => hv e.symm)
          have hold4 : ∀ x ∈ vs', ∀ g, x.ownBlock = some g → w4.heap[g]? = wr.heap[g]? := fun x hx g e => by
            obtain ⟨y, hy, e2⟩ := hw.sub x hx g e
            have hg := hold.out y hy g e2
            exact key g (by omega) (fun e3 => by have := (hro.lt g e3).1; omega)
          have gd4 := hw.gd.kept (key gg hgl hlb) hold4
          have gf4 : Gf gg vs vs' w w4 := by
            refine ⟨hgrow4.os.trans hw.gf.os, hgrow4.tape.trans hw.gf.tape, hgrow4.output.trans hw.gf.output, Nat.le_trans hwl hgrow4.size, fun k hk h1 h2 => ?_, hw.gf.new⟩
            exact (key k (by omega) (fun e3 => by have := (hro.lt k e3).1; omega)).trans (hw.gf.block k hk h1 h2)
          refine ⟨n / 2, _, L0 ++ (kn ks' n).hs, clr1 ks' n, vs'.set n (.slice none 0 0), rfl, by simp, by omega, by unfold clr1; rw [List.length_set]; exact KL.out, hw.next HI.out.1 HI.out.2 ?_ gd4 gf4⟩
          rw [List.length_append, HSN.out, List.map_append, HXS.out]
          exact hown4
        case measure => simp [intOf]; omega

end Go.Proofs.YtpjgdbeekmoedaaDoor
