/- Made, and what it makes: the same of the same ops. -/
import Derived.Test.YtampilfebmfhaaaGcTold
namespace Go.Proofs.Ytampilfebmfhaaa
set_option linter.unusedVariables false
set_option linter.unusedSimpArgs false
open Go.RowKit

variable {w : World}

/-- A list of ops in memory. -/
def OpsAt (w : World) (p : Option Addr) (L : List OpV) : Prop :=
  ∀ (j : Nat) (v : OpV), L[j]? = some v → ∃ b0 off : Nat, p = some ⟨b0, off, none⟩ ∧ v.kd < 256 ∧ v.kk < 256 ∧ v.ww < 18446744073709551616 ∧ (-9223372036854775808 ≤ v.sz ∧ v.sz ≤ 9223372036854775807) ∧ ∀ w', Below w.heap.size w w' →
    w'.cell? ⟨b0, off + j * 6, none⟩ = some (.int .u8 v.kd) ∧ w'.cell? ⟨b0, off + j * 6 + 1, none⟩ = some (.int .u8 v.kk) ∧ w'.cell? ⟨b0, off + j * 6 + 2, none⟩ = some (.int .i64 v.sz) ∧
    w'.cell? ⟨b0, off + j * 6 + 3, none⟩ = some (.int .i64 v.fr) ∧ w'.cell? ⟨b0, off + j * 6 + 4, none⟩ = some (.int .i64 v.to) ∧ w'.cell? ⟨b0, off + j * 6 + 5, none⟩ = some (.int .u64 v.ww)

theorem ToldOps.list {p : Option Addr} {len : Nat} (h : ToldOps w p len) : ∃ L : List OpV, L.length = len ∧ OpsAt w p L := by
  obtain ⟨L, hL, hP⟩ := list_of (P := fun j (v : OpV) => ∃ b0 off : Nat, p = some ⟨b0, off, none⟩ ∧ v.kd < 256 ∧ v.kk < 256 ∧ v.ww < 18446744073709551616 ∧ (-9223372036854775808 ≤ v.sz ∧ v.sz ≤ 9223372036854775807) ∧ ∀ w', Below w.heap.size w w' →
    w'.cell? ⟨b0, off + j * 6, none⟩ = some (.int .u8 v.kd) ∧ w'.cell? ⟨b0, off + j * 6 + 1, none⟩ = some (.int .u8 v.kk) ∧ w'.cell? ⟨b0, off + j * 6 + 2, none⟩ = some (.int .i64 v.sz) ∧
    w'.cell? ⟨b0, off + j * 6 + 3, none⟩ = some (.int .i64 v.fr) ∧ w'.cell? ⟨b0, off + j * 6 + 4, none⟩ = some (.int .i64 v.to) ∧ w'.cell? ⟨b0, off + j * 6 + 5, none⟩ = some (.int .u64 v.ww)) len (fun j hj => by
      obtain ⟨b0, off, e, v, h⟩ := h j hj
      exact ⟨v, b0, off, e, h⟩)
  exact ⟨L, hL, hP⟩

theorem OpsAt.below {p : Option Addr} {L : List OpV} (h : OpsAt w p L) {w1 : World} (hB : Below w.heap.size w w1) : OpsAt w1 p L := by
  intro j v hj
  obtain ⟨b0, off, e, h1, h2, h3, h4, h5⟩ := h j v hj
  exact ⟨b0, off, e, h1, h2, h3, h4, fun w' hB' => h5 w' (hB.trans (hB'.mono hB.size))⟩

def stepO (lim : Nat) (x : Has) (o : OpV) : Has := if o.kd = 1 ∧ 2000 < o.sz then x else opT lim o x

def runO (lim : Nat) (L : List OpV) : Has := L.foldl (stepO lim) (0, [])

theorem runO_snoc (lim : Nat) (L : List OpV) (o : OpV) : runO lim (L ++ [o]) = stepO lim (runO lim L) o := by simp [runO]

/-- Two heaps, there or not, and what they have. -/
def MadeD (w : World) (words : Int) (L : List OpV) (ph pr : Option Addr) (w' : World) : Prop :=
  Below w.heap.size w w' ∧ ((ph = none ∧ pr = none ∧ (words < 1 ∨ 1048576 < words)) ∨ ∃ bh b br lim s, ph = some ⟨bh, 0, none⟩ ∧ pr = some ⟨br, 0, none⟩ ∧ words = (lim : Nat) ∧ 1 ≤ lim ∧ Bo w.heap.size bh b br lim w' s ∧ s.has = runO lim L)

theorem MadeD.below {words : Int} {L : List OpV} {ph pr : Option Addr} {w' w2 : World} (h : MadeD w words L ph pr w') (hB : Below w'.heap.size w' w2) : MadeD w words L ph pr w2 := by
  refine ⟨h.1.trans (hB.mono h.1.size), ?_⟩
  rcases h.2 with h2 | ⟨bh, b, br, lim, s, h1, h2, h3, h4, h5, h6⟩
  · exact .inl h2
  · exact .inr ⟨bh, b, br, lim, s, h1, h2, h3, h4, h5.below hB, h6⟩

theorem made_newD {w w1 : World} {words : Int} {ph : Option Addr} (hB : Below w.heap.size w w1)
    (h : (ph = none ∧ (words < 1 ∨ 1048576 < words)) ∨ ∃ (n bh b : Nat) (vw vb : Value), words = n ∧ 1 ≤ n ∧ n ≤ 1048576 ∧ ph = some ⟨bh, 0, none⟩ ∧ Hp w.heap.size bh b vw vb w1 n 0 []) :
    Calls Try.prog 17 #[.int .i64 words] w1 fun e w2 => ∃ pr er, e = .returned (.tuple #[.pointer pr, .int .i64 er]) ∧ MadeD w words [] ph pr w2 := by
  rcases h with ⟨rfl, hw⟩ | ⟨n, bh, b, vw, vb, rfl, h1, h2, rfl, hp⟩
  · refine (rnew_bad words w1 hw).mono ?_
    rintro e w' ⟨he, rfl⟩
    exact ⟨none, _, he, hB, .inl ⟨rfl, rfl, hw⟩⟩
  · refine (rnew_in n w1 h1 h2).mono ?_
    rintro e w' ⟨br, he, hr, hB2⟩
    refine ⟨_, _, he, hB.trans (hB2.mono hB.size), .inr ⟨bh, b, br, n, ⟨vw, vb, .slice none 0 0, 0, []⟩, rfl, rfl, rfl, h1, ⟨hp.below hB2, ?_, by simp⟩, rfl⟩⟩
    exact ⟨Nat.le_trans hB.size hr.base, hr.blk, row_mono' hr.row hB.size, by simp, hr.nod, hr.le, by simp, hr.en20, hr.all20⟩

theorem made_askD {words : Int} {L : List OpV} {ph pr : Option Addr} {w' : World} (h : MadeD w words L ph pr w') (o : OpV) (hk : o.kk < 256) (hw : o.ww < 18446744073709551616) (hsk : ¬ (o.kd = 1 ∧ 2000 < o.sz)) :
    Calls Try.prog 18 #[.pointer ph, .pointer pr, o.agg] w' fun e w2 => e = .returned (.bool true) ∧ MadeD w words (L ++ [o]) ph pr w2 := by
  rcases h.2 with ⟨rfl, rfl, hb⟩ | ⟨bh, b, br, lim, s, rfl, rfl, h2, h3, h4, h5⟩
  · refine (asked_gone (.inl rfl) o).mono ?_
    rintro e w2 ⟨he, hB⟩
    exact ⟨he, (h.below hB).1, .inl ⟨rfl, rfl, hb⟩⟩
  · refine (asked_real h4 o hk hw).mono ?_
    rintro e w2 ⟨he, s', h', hS, hT⟩
    refine ⟨he, ⟨hS.os.trans h.1.os, hS.tape.trans h.1.tape, hS.output.trans h.1.output, Nat.le_trans h.1.size hS.size, fun k hk => ?_⟩, .inr ⟨bh, b, br, lim, s', rfl, rfl, h2, h3, h', ?_⟩⟩
    · have := h.1.size
      exact (hS.block k (by omega) (fun hf => by have := (h4.foot_lt hf).1; omega)).trans (h.1.block k hk)
    · rw [hT, h5, runO_snoc]
      unfold stepO
      rw [if_neg hsk]

theorem MadeD.skip {words : Int} {L : List OpV} {ph pr : Option Addr} {w' : World} (h : MadeD w words L ph pr w') (o : OpV) (hsk : o.kd = 1 ∧ 2000 < o.sz) : MadeD w words (L ++ [o]) ph pr w' := by
  refine ⟨h.1, ?_⟩
  rcases h.2 with h2 | ⟨bh, b, br, lim, s, h1, h2, h3, h4, h5, h6⟩
  · exact .inl h2
  · refine .inr ⟨bh, b, br, lim, s, h1, h2, h3, h4, h5, ?_⟩
    rw [h6, runO_snoc]
    unfold stepO
    rw [if_pos hsk]

set_option maxRecDepth 20000 in
set_option maxHeartbeats 4000000 in
theorem made_inD (words : Int) (p : Option Addr) (L : List OpV) (cap : Nat) (w : World) (hl : L.length ≤ maxLen) (ht : OpsAt w p L) :
    Calls Try.prog 6 #[.int .i64 words, .slice p L.length cap] w fun e w' => ∃ ph pr, e = .returned (.tuple #[.pointer ph, .pointer pr]) ∧ MadeD w words (L.take 400) ph pr w' := by
  have H1 := made_new4 words w
  have hl63 : (L.length : Int) ≤ 9223372036854775807 := by unfold maxLen at hl; omega
  go_enter Try.func6, Try.ntmps6
  go_wp2_with (first
    | (go_at_call 16; refine H1.mono ?_; clear H1; rintro e w1 ⟨ph, er, rfl, hB1, hn⟩; have H2 := made_newD hB1 hn)
    | (go_at_call 17; refine H2.mono ?_; clear H2; rintro e w2 ⟨pr, er2, rfl, hM⟩))
  clear hn
  go_loopw [10] (fun k wr => ∃ pre rest : List OpV, L = pre ++ rest ∧ k = .int .i64 pre.length ∧ pre.length ≤ 400 ∧ MadeD w words pre ph pr wr) (fun k _ => 400 - (intOf k).toNat)
  case atStart => exact ⟨[], L, rfl, rfl, by simp, hM⟩
  case round =>
    obtain ⟨pre, rest, hR, rfl, hj, hM⟩ := hrel
    cases rest with
    | nil =>
      have hR' : L = pre := by simpa using hR
      have hq : ¬ ((pre.length : Int) < (L.length : Int)) := by rw [hR']; omega
      have HM : Hid (MadeD w words (L.take 400) ph pr wr) := by
        rw [hR', List.take_of_length_le hj]; exact hM
      clear hR hR'
      go_wp2
      go_ret2
      exact ⟨ph, pr, rfl, HM.out⟩
    | cons o rest =>
      have hlR : (pre.length : Int) < (L.length : Int) := by rw [hR]; simp; omega
      have e1 : (((pre ++ [o]).length : Nat) : Int) = pre.length + 1 := by simp
      by_cases hj4 : pre.length < 400
      · have hj4' : (pre.length : Int) < 400 := by omega
        obtain ⟨b0, off, rfl, q1, q2, q3, q4, hcl⟩ := ht pre.length o (by rw [hR]; simp)
        obtain ⟨kd, kk, sz, fr, to, ww⟩ := o
        obtain ⟨c0, c1, c2, c3, c4, c5⟩ := hcl wr hM.1
        have hM2 := hM.below (below1 wr (OpV.obj ⟨kd, kk, sz, fr, to, ww⟩))
        have HR : Hid _ := hR
        have HM2 : Hid _ := hM2
        simp only [OpV.obj] at q1 q2 q3 q4 c0 c1 c2 c3 c4 c5
        clear hcl hR
        by_cases k1 : kd = 1
        · subst k1
          by_cases k2 : (2000 : Int) < sz
          · clear hM2
            go_wp2
            go_roundw
            case rel => exact ⟨pre ++ [⟨1, kk, sz, fr, to, ww⟩], rest, by rw [HR.out]; simp, by rw [e1], by simp; omega, MadeD.skip HM2.out _ ⟨rfl, k2⟩⟩
            case measure => simp [intOf]; omega
          · have H3 := made_askD hM2 ⟨1, kk, sz, fr, to, ww⟩ q2 q3 (fun h => k2 h.2)
            simp only [OpV.agg] at H3
            clear hM2
            go_wp2_with (first
              | (go_at_call 18; refine H3.mono ?_; clear H3; rintro e w3 ⟨rfl, hM3⟩))
            go_roundw
            case rel => exact ⟨pre ++ [⟨1, kk, sz, fr, to, ww⟩], rest, by rw [HR.out]; simp, by rw [e1], by simp; omega, hM3⟩
            case measure => simp [intOf]; omega
        · have k1' : ((kd : Int) == 1) = false := by simp; omega
          have H3 := made_askD hM2 ⟨kd, kk, sz, fr, to, ww⟩ q2 q3 (fun h => k1 h.1)
          simp only [OpV.agg] at H3
          clear hM2
          go_wp2_with (first
            | (go_at_call 18; refine H3.mono ?_; clear H3; rintro e w3 ⟨rfl, hM3⟩))
          go_roundw
          case rel => exact ⟨pre ++ [⟨kd, kk, sz, fr, to, ww⟩], rest, by rw [HR.out]; simp, by rw [e1], by simp; omega, hM3⟩
          case measure => simp [intOf]; omega
      · have hj4' : ¬ ((pre.length : Int) < 400) := by omega
        have HM : Hid (MadeD w words (L.take 400) ph pr wr) := by
          have : L.take 400 = pre := by rw [hR, show 400 = pre.length by omega]; simp
          rw [this]; exact hM
        clear hR
        go_wp2
        go_ret2
        exact ⟨ph, pr, rfl, HM.out⟩

end Go.Proofs.Ytampilfebmfhaaa
