/- Made: heaps that are filled by the same ops. -/
import Derived.Test.YtampilfebmfhaaaGreatDoorGcReach2
import Derived.Test.YtampilfebmfhaaaGreatDoorSame
namespace Go.Proofs.YtampilfebmfhaaaGreatDoor
set_option linter.unusedVariables false
set_option linter.unusedSimpArgs false
open Go.RowKit

variable {w : World}

/-- What is told of a slice of ops that came in: each one's cells, in every later world. -/
def ToldOps (w : World) (p : Option Addr) (len : Nat) : Prop :=
  ∀ j, j < len → ∃ b0 off : Nat, p = some ⟨b0, off, none⟩ ∧ ∃ v : OpV, v.kd < 256 ∧ v.kk < 256 ∧ v.ww < 18446744073709551616 ∧ (-9223372036854775808 ≤ v.sz ∧ v.sz ≤ 9223372036854775807) ∧ ∀ w', Below w.heap.size w w' →
    w'.cell? ⟨b0, off + j * 6, none⟩ = some (.int .u8 v.kd) ∧ w'.cell? ⟨b0, off + j * 6 + 1, none⟩ = some (.int .u8 v.kk) ∧ w'.cell? ⟨b0, off + j * 6 + 2, none⟩ = some (.int .i64 v.sz) ∧
    w'.cell? ⟨b0, off + j * 6 + 3, none⟩ = some (.int .i64 v.fr) ∧ w'.cell? ⟨b0, off + j * 6 + 4, none⟩ = some (.int .i64 v.to) ∧ w'.cell? ⟨b0, off + j * 6 + 5, none⟩ = some (.int .u64 v.ww)

/-- Two heaps, there or not. -/
def MadeAt (w : World) (ph pr : Option Addr) (w' : World) : Prop :=
  Below w.heap.size w w' ∧ ((ph = none ∧ pr = none) ∨ ∃ bh b br lim s, ph = some ⟨bh, 0, none⟩ ∧ pr = some ⟨br, 0, none⟩ ∧ 1 ≤ lim ∧ Bo w.heap.size bh b br lim w' s)

theorem MadeAt.below {ph pr : Option Addr} {w' w2 : World} (h : MadeAt w ph pr w') (hB : Below w'.heap.size w' w2) : MadeAt w ph pr w2 := by
  refine ⟨h.1.trans (hB.mono h.1.size), ?_⟩
  rcases h.2 with h2 | ⟨bh, b, br, lim, s, h1, h2, h3, h4⟩
  · exact .inl h2
  · exact .inr ⟨bh, b, br, lim, s, h1, h2, h3, h4.below hB⟩

theorem made_new4 (words : Int) (w : World) : Calls Tryz.prog 18 #[.int .i64 words] w fun e w1 => ∃ ph er, e = .returned (.tuple #[.pointer ph, .int .i64 er]) ∧ Below w.heap.size w w1 ∧
    ((ph = none ∧ (words < 1 ∨ 1048576 < words)) ∨ ∃ (n bh b : Nat) (vw vb : Value), words = n ∧ 1 ≤ n ∧ n ≤ 1048576 ∧ ph = some ⟨bh, 0, none⟩ ∧ Hp w.heap.size bh b vw vb w1 n 0 []) := by
  by_cases h : words < 1 ∨ 1048576 < words
  · refine (new_bad words w h).mono ?_
    rintro e w' ⟨he, rfl⟩
    exact ⟨none, 1, he, Below.refl _ _, .inl ⟨rfl, h⟩⟩
  · obtain ⟨n, rfl⟩ : ∃ n : Nat, words = n := ⟨words.toNat, by omega⟩
    refine (newM n w (by omega) (by omega)).mono ?_
    rintro e w' ⟨bh, b, vw, vb, he, hp, hB⟩
    exact ⟨_, 0, he, hB, .inr ⟨n, bh, b, vw, vb, rfl, by omega, by omega, rfl, hp⟩⟩

theorem made_new5 {w w1 : World} {words : Int} {ph : Option Addr} (hB : Below w.heap.size w w1)
    (h : (ph = none ∧ (words < 1 ∨ 1048576 < words)) ∨ ∃ (n bh b : Nat) (vw vb : Value), words = n ∧ 1 ≤ n ∧ n ≤ 1048576 ∧ ph = some ⟨bh, 0, none⟩ ∧ Hp w.heap.size bh b vw vb w1 n 0 []) :
    Calls Tryz.prog 19 #[.int .i64 words] w1 fun e w2 => ∃ pr er, e = .returned (.tuple #[.pointer pr, .int .i64 er]) ∧ MadeAt w ph pr w2 := by
  rcases h with ⟨rfl, hw⟩ | ⟨n, bh, b, vw, vb, rfl, h1, h2, rfl, hp⟩
  · refine (rnew_bad words w1 hw).mono ?_
    rintro e w' ⟨he, rfl⟩
    exact ⟨none, _, he, hB, .inl ⟨rfl, rfl⟩⟩
  · refine (rnew_in n w1 h1 h2).mono ?_
    rintro e w' ⟨br, he, hr, hB2⟩
    refine ⟨_, _, he, hB.trans (hB2.mono hB.size), .inr ⟨bh, b, br, n, ⟨vw, vb, .slice none 0 0, 0, []⟩, rfl, rfl, h1, hp.below hB2, ?_, by simp⟩⟩
    exact ⟨Nat.le_trans hB.size hr.base, hr.blk, row_mono' hr.row hB.size, by simp, hr.nod, hr.le, by simp, hr.en20, hr.all20⟩

theorem made_ask {ph pr : Option Addr} {w' : World} (h : MadeAt w ph pr w') (o : OpV) (hk : o.kk < 256) (hw : o.ww < 18446744073709551616) :
    Calls Tryz.prog 20 #[.pointer ph, .pointer pr, o.agg] w' fun e w2 => e = .returned (.bool true) ∧ MadeAt w ph pr w2 := by
  rcases h.2 with ⟨rfl, rfl⟩ | ⟨bh, b, br, lim, s, rfl, rfl, h3, h4⟩
  · refine (asked_gone (.inl rfl) o).mono ?_
    rintro e w2 ⟨he, hB⟩
    exact ⟨he, h.below hB⟩
  · refine (asked_real h4 o hk hw).mono ?_
    rintro e w2 ⟨he, s', h', hS, _⟩
    refine ⟨he, ⟨hS.os.trans h.1.os, hS.tape.trans h.1.tape, hS.output.trans h.1.output, Nat.le_trans h.1.size hS.size, fun k hk => ?_⟩, .inr ⟨bh, b, br, lim, s', rfl, rfl, h3, h'⟩⟩
    have := h.1.size
    exact (hS.block k (by omega) (fun hf => by have := (h4.foot_lt hf).1; omega)).trans (h.1.block k hk)

set_option maxRecDepth 20000 in
set_option maxHeartbeats 4000000 in
theorem made_in (words : Int) (p : Option Addr) (len cap : Nat) (w : World) (hl : len ≤ maxLen) (ht : ToldOps w p len) :
    Calls Tryz.prog 5 #[.int .i64 words, .slice p len cap] w fun e w' => ∃ ph pr, e = .returned (.tuple #[.pointer ph, .pointer pr]) ∧ MadeAt w ph pr w' := by
  have H1 := made_new4 words w
  have hl63 : (len : Int) ≤ 9223372036854775807 := by unfold maxLen at hl; omega
  go_enter Tryz.func5, Tryz.ntmps5
  go_wp2_with (first
    | (go_at_call 18; refine H1.mono ?_; clear H1; rintro e w1 ⟨ph, er, rfl, hB1, hn⟩; have H2 := made_new5 hB1 hn)
    | (go_at_call 19; refine H2.mono ?_; clear H2; rintro e w2 ⟨pr, er2, rfl, hM⟩))
  clear hn
  go_loopw [10] (fun k wr => ∃ j : Nat, k = .int .i64 j ∧ j ≤ 400 ∧ MadeAt w ph pr wr) (fun k _ => 400 - (intOf k).toNat)
  case atStart => exact ⟨0, rfl, by omega, hM⟩
  case round =>
    obtain ⟨j, rfl, hj, hM⟩ := hrel
    by_cases hjl : j < len
    · have hjl' : (j : Int) < (len : Int) := by omega
      by_cases hj4 : j < 400
      · have hj4' : (j : Int) < 400 := by omega
        obtain ⟨b0, off, rfl, ⟨kd, kk, sz, fr, to, ww⟩, q1, q2, q3, q4, hcl⟩ := ht j hjl
        obtain ⟨c0, c1, c2, c3, c4, c5⟩ := hcl wr hM.1
        have hM2 := hM.below (below1 wr (OpV.obj ⟨kd, kk, sz, fr, to, ww⟩))
        have H3 := made_ask hM2 ⟨kd, kk, sz, fr, to, ww⟩ q2 q3
        have HM2 : Hid _ := hM2
        simp only [OpV.agg, OpV.obj] at H3 q1 q2 q3 q4 c0 c1 c2 c3 c4 c5
        clear hcl hM2
        by_cases k1 : kd = 1
        · subst k1
          by_cases k2 : (2000 : Int) < sz
          · go_wp2
            go_roundw
            case rel => exact ⟨j + 1, by simp, by omega, HM2.out⟩
            case measure => simp [intOf]; omega
          · go_wp2_with (first
              | (go_at_call 20; refine H3.mono ?_; clear H3; rintro e w3 ⟨rfl, hM3⟩))
            go_roundw
            case rel => exact ⟨j + 1, by simp, by omega, hM3⟩
            case measure => simp [intOf]; omega
        · have k1' : ((kd : Int) == 1) = false := by simp; omega
          go_wp2_with (first
            | (go_at_call 20; refine H3.mono ?_; clear H3; rintro e w3 ⟨rfl, hM3⟩))
          go_roundw
          case rel => exact ⟨j + 1, by simp, by omega, hM3⟩
          case measure => simp [intOf]; omega
      · have hj4' : ¬ ((j : Int) < 400) := by omega
        go_wp2
        go_ret2
        exact ⟨ph, pr, rfl, hM⟩
    · have hjl' : ¬ ((j : Int) < (len : Int)) := by omega
      go_wp2
      go_ret2
      exact ⟨ph, pr, rfl, hM⟩

end Go.Proofs.YtampilfebmfhaaaGreatDoor
