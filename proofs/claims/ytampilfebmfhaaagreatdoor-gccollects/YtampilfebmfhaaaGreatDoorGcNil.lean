/- Made: heaps that are filled by the same ops. -/
import Derived.Test.YtampilfebmfhaaaGreatDoorGcReach2
import Derived.Test.YtampilfebmfhaaaGreatDoorSame
import Derived.Test.YtampilfebmfhaaaGreatDoorGcVals
import Derived.Test.YtampilfebmfhaaaGreatDoorGcCollect
namespace Go.Proofs.YtampilfebmfhaaaGreatDoor
set_option linter.unusedVariables false
set_option linter.unusedSimpArgs false
open Go.RowKit

variable {w : World}

/-- What is told of a slice of ops that came in: each one's cells, in every later world. -/
def ToldOps (w : World) (p : Option Addr) (len : Nat) : Prop :=
  ∀ j, j < len → ∃ b0 off : Nat, p = some ⟨b0, off, none⟩ ∧ ∃ v : OpV, v.kd < 256 ∧ v.kk < 256 ∧ v.ww < 18446744073709551616 ∧ (-9223372036854775808 ≤ v.sz ∧ v.sz ≤ 9223372036854775807) ∧ ∀ w', Below w.heap.size w w' →
    w'.cell? ⟨b0, off + j * 6, none⟩ = some (.int .u8 v.kd) ∧ w'.cell? ⟨b0, off + j * 6 + 1, none⟩ = some (.int .u8 v.kk) ∧ w'.cell? ⟨b0, off + j * 6 + 2, none⟩ = some (.int .i64 v.sz) ∧
    w'.cell? ⟨b0, off + j * 6 + 3, none⟩ = some (.int .i64 v.fr) ∧ w'.cell? ⟨b0, off + j * 6 + 4, none⟩ = some (.int .i64 v.to) ∧ w'.cell? ⟨b0, off + j * 6 + 5, none⟩ = some (.int .u64 v.ww)

/-- Two heaps, there or not. -/
def MadeAt (w : World) (ph pr : Option Addr) (w' : World) : Prop :=
  Below w.heap.size w w' ∧ ((ph = none ∧ pr = none) ∨ ∃ bh b br lim s, ph = some ⟨bh, 0, none⟩ ∧ pr = some ⟨br, 0, none⟩ ∧ 1 ≤ lim ∧ Bo w.heap.size bh b br lim w' s)

theorem MadeAt.below {ph pr : Option Addr} {w' w2 : World} (h : MadeAt w ph pr w') (hB : Below w'.heap.size w' w2) : MadeAt w ph pr w2 := by
  refine ⟨h.1.trans (hB.mono h.1.size), ?_⟩
  rcases h.2 with h2 | ⟨bh, b, br, lim, s, h1, h2, h3, h4⟩
  · exact .inl h2
  · exact .inr ⟨bh, b, br, lim, s, h1, h2, h3, h4.below hB⟩

theorem made_new4 (words : Int) (w : World) : Calls Tryz.prog 18 #[.int .i64 words] w fun e w1 => ∃ ph er, e = .returned (.tuple #[.pointer ph, .int .i64 er]) ∧ Below w.heap.size w w1 ∧
    ((ph = none ∧ (words < 1 ∨ 1048576 < words)) ∨ ∃ (n bh b : Nat) (vw vb : Value), words = n ∧ 1 ≤ n ∧ n ≤ 1048576 ∧ ph = some ⟨bh, 0, none⟩ ∧ Hp w.heap.size bh b vw vb w1 n 0 []) := by
  by_cases h : words < 1 ∨ 1048576 < words
  · refine (new_bad words w h).mono ?_
    rintro e w' ⟨he, rfl⟩
    exact ⟨none, 1, he, Below.refl _ _, .inl ⟨rfl, h⟩⟩
  · obtain ⟨n, rfl⟩ : ∃ n : Nat, words = n := ⟨words.toNat, by omega⟩
    refine (newM n w (by omega) (by omega)).mono ?_
    rintro e w' ⟨bh, b, vw, vb, he, hp, hB⟩
    exact ⟨_, 0, he, hB, .inr ⟨n, bh, b, vw, vb, rfl, by omega, by omega, rfl, hp⟩⟩

theorem made_new5 {w w1 : World} {words : Int} {ph : Option Addr} (hB : Below w.heap.size w w1)
    (h : (ph = none ∧ (words < 1 ∨ 1048576 < words)) ∨ ∃ (n bh b : Nat) (vw vb : Value), words = n ∧ 1 ≤ n ∧ n ≤ 1048576 ∧ ph = some ⟨bh, 0, none⟩ ∧ Hp w.heap.size bh b vw vb w1 n 0 []) :
    Calls Tryz.prog 19 #[.int .i64 words] w1 fun e w2 => ∃ pr er, e = .returned (.tuple #[.pointer pr, .int .i64 er]) ∧ MadeAt w ph pr w2 := by
  rcases h with ⟨rfl, hw⟩ | ⟨n, bh, b, vw, vb, rfl, h1, h2, rfl, hp⟩
  · refine (rnew_bad words w1 hw).mono ?_
    rintro e w' ⟨he, rfl⟩
    exact ⟨none, _, he, hB, .inl ⟨rfl, rfl⟩⟩
  · refine (rnew_in n w1 h1 h2).mono ?_
    rintro e w' ⟨br, he, hr, hB2⟩
    refine ⟨_, _, he, hB.trans (hB2.mono hB.size), .inr ⟨bh, b, br, n, ⟨vw, vb, .slice none 0 0, 0, []⟩, rfl, rfl, h1, hp.below hB2, ?_, by simp⟩⟩
    exact ⟨Nat.le_trans hB.size hr.base, hr.blk, row_mono' hr.row hB.size, by simp, hr.nod, hr.le, by simp, hr.en20, hr.all20⟩

theorem made_ask {ph pr : Option Addr} {w' : World} (h : MadeAt w ph pr w') (o : OpV) (hk : o.kk < 256) (hw : o.ww < 18446744073709551616) :
    Calls Tryz.prog 20 #[.pointer ph, .pointer pr, o.agg] w' fun e w2 => e = .returned (.bool true) ∧ MadeAt w ph pr w2 := by
  rcases h.2 with ⟨rfl, rfl⟩ | ⟨bh, b, br, lim, s, rfl, rfl, h3, h4⟩
  · refine (asked_gone (.inl rfl) o).mono ?_
    rintro e w2 ⟨he, hB⟩
    exact ⟨he, h.below hB⟩
  · refine (asked_real h4 o hk hw).mono ?_
    rintro e w2 ⟨he, s', h', hS, _⟩
    refine ⟨he, ⟨hS.os.trans h.1.os, hS.tape.trans h.1.tape, hS.output.trans h.1.output, Nat.le_trans h.1.size hS.size, fun k hk => ?_⟩, .inr ⟨bh, b, br, lim, s', rfl, rfl, h3, h'⟩⟩
    have := h.1.size
    exact (hS.block k (by omega) (fun hf => by have := (h4.foot_lt hf).1; omega)).trans (h.1.block k hk)

set_option maxRecDepth 20000 in
set_option maxHeartbeats 4000000 in
theorem made_in (words : Int) (p : Option Addr) (len cap : Nat) (w : World) (hl : len ≤ maxLen) (ht : ToldOps w p len) :
    Calls Tryz.prog 5 #[.int .i64 words, .slice p len cap] w fun e w' => ∃ ph pr, e = .returned (.tuple #[.pointer ph, .pointer pr]) ∧ MadeAt w ph pr w' := by
  have H1 := made_new4 words w
  have hl63 : (len : Int) ≤ 9223372036854775807 := by unfold maxLen at hl; omega
  go_enter Tryz.func5, Tryz.ntmps5
  go_wp2_with (first
    | (go_at_call 18; refine H1.mono ?_; clear H1; rintro e w1 ⟨ph, er, rfl, hB1, hn⟩; have H2 := made_new5 hB1 hn)
    | (go_at_call 19; refine H2.mono ?_; clear H2; rintro e w2 ⟨pr, er2, rfl, hM⟩))
  clear hn
  go_loopw [10] (fun k wr => ∃ j : Nat, k = .int .i64 j ∧ j ≤ 400 ∧ MadeAt w ph pr wr) (fun k _ => 400 - (intOf k).toNat)
  case atStart => exact ⟨0, rfl, by omega, hM⟩
  case round =>
    obtain ⟨j, rfl, hj, hM⟩ := hrel
    by_cases hjl : j < len
    · have hjl' : (j : Int) < (len : Int) := by omega
      by_cases hj4 : j < 400
      · have hj4' : (j : Int) < 400 := by omega
        obtain ⟨b0, off, rfl, ⟨kd, kk, sz, fr, to, ww⟩, q1, q2, q3, q4, hcl⟩ := ht j hjl
        obtain ⟨c0, c1, c2, c3, c4, c5⟩ := hcl wr hM.1
        have hM2 := hM.below (below1 wr (OpV.obj ⟨kd, kk, sz, fr, to, ww⟩))
        have H3 := made_ask hM2 ⟨kd, kk, sz, fr, to, ww⟩ q2 q3
        have HM2 : Hid _ := hM2
        simp only [OpV.agg, OpV.obj] at H3 q1 q2 q3 q4 c0 c1 c2 c3 c4 c5
        clear hcl hM2
        by_cases k1 : kd = 1
        · subst k1
          by_cases k2 : (2000 : Int) < sz
          · go_wp2
            go_roundw
            case rel => exact ⟨j + 1, by simp, by omega, HM2.out⟩
            case measure => simp [intOf]; omega
          · go_wp2_with (first
              | (go_at_call 20; refine H3.mono ?_; clear H3; rintro e w3 ⟨rfl, hM3⟩))
            go_roundw
            case rel => exact ⟨j + 1, by simp, by omega, hM3⟩
            case measure => simp [intOf]; omega
        · have k1' : ((kd : Int) == 1) = false := by simp; omega
          go_wp2_with (first
            | (go_at_call 20; refine H3.mono ?_; clear H3; rintro e w3 ⟨rfl, hM3⟩))
          go_roundw
          case rel => exact ⟨j + 1, by simp, by omega, hM3⟩
          case measure => simp [intOf]; omega
      · have hj4' : ¬ ((j : Int) < 400) := by omega
        go_wp2
        go_ret2
        exact ⟨ph, pr, rfl, hM⟩
    · have hjl' : ¬ ((j : Int) < (len : Int)) := by omega
      go_wp2
      go_ret2
      exact ⟨ph, pr, rfl, hM⟩

end Go.Proofs.YtampilfebmfhaaaGreatDoor

namespace Go.Proofs.YtampilfebmfhaaaGreatDoor
set_option linter.unusedVariables false
set_option linter.unusedSimpArgs false
open Go.RowKit

variable {w : World}

/-- The copy. -/
def TwinAt (base : Nat) (g c : Nat) (vs : List Vl) (w : World) : Prop := w.ownsRow base 76 2 (.slice (some ⟨g, 0, none⟩) (vs.length + 1) c) (vs.length + 1) (vcells (vs ++ [⟨0, 7777⟩]))

theorem TwinAt.vals {base g c : Nat} {vs : List Vl} (h : TwinAt base g c vs w) : Vals w (some ⟨g, 0, none⟩) vs := by
  intro j v hj
  have hlt := (List.getElem?_eq_some_iff.1 hj).1
  obtain ⟨h1, h2⟩ := vcells_get (vs ++ [⟨0, 7777⟩]) j v (by rw [List.getElem?_append_left hlt]; exact hj)
  refine ⟨g, 0, rfl, ?_, ?_⟩
  · rw [Nat.zero_add, h.cellAt _ (by omega)]; exact h1
  · rw [Nat.zero_add, h.cellAt _ (by omega)]; exact h2

set_option maxRecDepth 20000 in
set_option maxHeartbeats 2000000 in
theorem twin_in {p : Option Addr} {vs : List Vl} (c : Nat) (hv : Vals w p vs) (hlen : vs.length ≤ 1000000) :
    Calls Tryz.prog 6 #[.slice p vs.length c] w fun e w' => ∃ g c, e = .returned (.slice (some ⟨g, 0, none⟩) vs.length c) ∧ TwinAt w.heap.size g c vs w' ∧ Below w.heap.size w w' := by
  obtain ⟨i0, hi, hz0, hz1, hz2⟩ := info_parts infoV
  go_enter Tryz.func6, Tryz.ntmps6
  go_wp2_with (first
    | (at_make; refine wpList_make_own w rfl _ _ 23 rfl w.heap.size 76 i0 (.agg #[.int .u8 0, .int .i64 0]) 2 Tryz.underlying23 hi hz0 hz1 .i64 .i64 _ (vs.length + 1) rfl rfl (by simp) (by rw [hz2]; omega) (by unfold maxLen; omega) (Nat.le_refl _) ?_; intro w1 hown1 hgrow1))
  have hB1 : Below w.heap.size w w1 := rbelow_grown hgrow1 (fun q e => by cases e) (Nat.le_refl _)
  go_loopw [3, 4] (fun t k wr => ∃ (pre rest : List Vl), k = .int .i64 pre.length ∧ vs = pre ++ rest ∧ wr.ownsRow w.heap.size 76 2 t pre.length (vcells pre) ∧ Below w.heap.size w wr) (fun _ k _ => vs.length - (intOf k).toNat)
  case atStart => exact ⟨[], vs, rfl, rfl, hown1, hB1⟩
  case round =>
    obtain ⟨pre, rest, rfl, hR, hrow, hB⟩ := hrel
    have hsz := hB.size
    cases rest with
    | nil =>
      have hR' : vs = pre := by simpa using hR
      have hq : ¬ ((pre.length : Int) < (vs.length : Int)) := by rw [hR']; omega
      rw [← hR'] at hrow
      have hpl : pre.length = vs.length := by rw [hR']
      have HP : Hid _ := hpl
      clear hR hR' hpl
      go_wp2_with (first
        | (at_builtin; refine wpList_append_own _ rfl _ _ 23 rfl w.heap.size 76 i0 (.agg #[.int .u8 0, .int .i64 0]) 2 16 Tryz.underlying23 hi hz0 hz1 hz2 rfl (by decide) _ vs.length _ rfl (hrow.alloc _) ⟨wr.heap.size, 0, none⟩ 1 1 [.int .u8 0, .int .i64 7777] rfl rfl (World.news_of_block (cs := #[.int .u8 0, .int .i64 7777]) (t := 76) (fr := (0, 0)) (heap_alloc_new wr _)) (by simp [Value.oneCell']) (by unfold maxLen; omega) (by omega) (by simp; omega) ?_; intro v4 w4 hown4 hgrow4 _; obtain ⟨g4, c4, rfl⟩ := ownsRow_succ2 hown4; obtain ⟨hc4, hc5⟩ := ownsRow_cap2 hown4))
      go_ret
      refine ⟨g4, c4, rfl, ?_, (hB.alloc hB.size _).trans (rbelow_grown hgrow4 (fun q e => (hrow.lt q e).1) (by simp; omega))⟩
      unfold TwinAt
      rw [vcells_append]
      exact hown4
    | cons v rest =>
      have hlR : pre.length < vs.length := by rw [hR]; simp
      obtain ⟨b0, off, rfl, c0, c1⟩ := (hv.below hB) pre.length v (by rw [hR]; simp)
      have HR : Hid (vs = pre ++ v :: rest) := hR
      have e1 : (((pre ++ [v]).length : Nat) : Int) = pre.length + 1 := by simp
      clear hR
      go_wp2_with (first
        | (at_builtin; refine wpList_append_own _ rfl _ _ 23 rfl w.heap.size 76 i0 (.agg #[.int .u8 0, .int .i64 0]) 2 16 Tryz.underlying23 hi hz0 hz1 hz2 rfl (by decide) _ pre.length _ rfl (hrow.alloc _) ⟨wr.heap.size, 0, none⟩ 1 1 [.int .u8 v.k, .int .i64 v.n] rfl rfl (World.news_of_block (cs := #[.int .u8 v.k, .int .i64 v.n]) (t := 76) (fr := (0, 0)) (heap_alloc_new wr _)) (by simp [Value.oneCell']) (by unfold maxLen; omega) (by omega) (by simp; omega) ?_; intro v4 w4 hown4 hgrow4 _))
      go_roundw
      case rel =>
        refine ⟨pre ++ [v], rest, by rw [e1], by have := HR.out; simpa using this, ?_, (hB.alloc hB.size _).trans (rbelow_grown hgrow4 (fun q e => (hrow.lt q e).1) (by simp; omega))⟩
        rw [vcells_append, show (pre ++ [v]).length = pre.length + 1 from List.length_append]
        exact hown4
      case measure => simp [intOf]; omega

set_option maxRecDepth 20000 in
set_option maxHeartbeats 2000000 in
theorem left_in {base g c : Nat} {p : Option Addr} {vs : List Vl} (cl : Nat) (ht : TwinAt base g c vs w) (hv : Vals w p vs) (hlen : vs.length ≤ 1000000) :
    Calls Tryz.prog 10 #[.slice (some ⟨g, 0, none⟩) vs.length c, .slice p vs.length cl] w fun e w' => e = .returned (.bool true) ∧ Below w.heap.size w w' := by
  obtain ⟨hc4, hc5⟩ := ownsRow_cap2 ht
  have hcb : ¬ ((c : Int) ≤ (vs.length : Int)) := by omega
  go_enter Tryz.func10, Tryz.ntmps10
  go_wp2
  go_loopw [5] (fun k wr => ∃ j : Nat, k = .int .i64 j ∧ j ≤ vs.length ∧ Below w.heap.size w wr) (fun k _ => vs.length - (intOf k).toNat)
  case atStart => exact ⟨0, rfl, by omega, Below.refl _ _⟩
  case round =>
    obtain ⟨j, rfl, hj, hB⟩ := hrel
    have ht' : TwinAt base g c vs wr := IsRf.row_kept ht (fun k e => hB.block k (ht.lt k e).2)
    by_cases hjn : j < vs.length
    · obtain ⟨v, hvj⟩ : ∃ v, vs[j]? = some v := ⟨vs[j], by simp⟩
      obtain ⟨b0, off, rfl, c0, c1⟩ := (hv.below hB) j v hvj
      obtain ⟨g', off', e, d0, d1⟩ := ht'.vals j v hvj
      simp at e
      obtain ⟨rfl, rfl⟩ := e
      rw [Nat.zero_add] at d0 d1
      have hjn' : (j : Int) < (vs.length : Int) := by omega
      clear hvj
      go_wp2
      go_quiet (fail)
      go_wp2
      go_roundw
      case rel => exact ⟨j + 1, by simp, by omega, below_drewN' hB _⟩
      case measure => simp [intOf]; omega
    · have hjn' : ¬ ((j : Int) < (vs.length : Int)) := by omega
      have hlast := vcells_get (vs ++ [⟨0, 7777⟩]) vs.length ⟨0, 7777⟩ (by simp)
      have d0 : wr.cell? ⟨g, vs.length * 2, none⟩ = some (.int .u8 0) := by rw [ht'.cellAt _ (by omega)]; exact hlast.1
      have d1 : wr.cell? ⟨g, vs.length * 2 + 1, none⟩ = some (.int .i64 7777) := by rw [ht'.cellAt _ (by omega)]; exact hlast.2
      clear hlast
      go_wp2
      go_ret
      exact ⟨rfl, hB.alloc hB.size _⟩

end Go.Proofs.YtampilfebmfhaaaGreatDoor

namespace Go.Proofs.YtampilfebmfhaaaGreatDoor
set_option linter.unusedVariables false
set_option linter.unusedSimpArgs false
open Go.RowKit

set_option maxHeartbeats 400000 in
theorem gcheck_nil (v : Value) (w : World) : Calls Tryz.prog 21 #[.pointer none, v] w fun e w' => e = .returned (.int .i64 2) ∧ w' = w := by
  have a := gwords (w := w) (v := .pointer none) (.inl rfl)
  go_enter Tryz.func21, Tryz.ntmps21
  go_wp2_with (first
    | (go_at_call 28; refine a.mono ?_; clear a; rintro e w' ⟨rfl, rfl⟩))
  go_ret
  exact ⟨rfl, rfl⟩

set_option maxHeartbeats 400000 in
theorem greach_nil (v : Value) (w : World) : Calls Tryz.prog 7 #[.pointer none, v] w fun e w' => e = .returned (.tuple #[.slice none 0 0, .int .i64 0, .int .i64 2]) ∧ w' = w := by
  have a := gcheck_nil v w
  go_enter Tryz.func7, Tryz.ntmps7
  go_wp2_with (first
    | (go_at_call 21; refine a.mono ?_; clear a; rintro e w' ⟨rfl, rfl⟩))
  go_ret3
  exact ⟨rfl, rfl⟩

set_option maxHeartbeats 400000 in
theorem gcollect_nil (v : Value) (w : World) : Calls Tryz.prog 14 #[.pointer none, v] w fun e w' => e = .returned (.tuple #[.slice none 0 0, .int .i64 2]) ∧ w' = w := by
  have a := gcheck_nil v w
  go_enter Tryz.func14, Tryz.ntmps14
  go_wp2_with (first
    | (go_at_call 21; refine a.mono ?_; clear a; rintro e w' ⟨rfl, rfl⟩))
  go_ret2
  exact ⟨rfl, rfl⟩

end Go.Proofs.YtampilfebmfhaaaGreatDoor
