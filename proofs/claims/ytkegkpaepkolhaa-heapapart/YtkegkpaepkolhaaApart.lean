/- HeapApart: the walk. -/
import Derived.Test.YtkegkpaepkolhaaAlive
namespace Go.Proofs.Ytkegkpaepkolhaa
open Go.RowKit

/-- An op that came in: its six numbers. -/
structure OpV where
  kd : Nat
  kk : Nat
  sz : Int
  fr : Int
  to : Int
  ww : Int

/-- What is told of a slice of ops that came in: each one's cells, in every later world. -/
def ToldOps (w : World) (p : Option Addr) (len : Nat) : Prop :=
  ∀ j, j < len → ∃ b0 off : Nat, p = some ⟨b0, off, none⟩ ∧ ∃ v : OpV, v.kd < 256 ∧ v.kk < 256 ∧ ∀ w', Below w.heap.size w w' →
    w'.cell? ⟨b0, off + j * 6, none⟩ = some (.int .u8 v.kd) ∧ w'.cell? ⟨b0, off + j * 6 + 1, none⟩ = some (.int .u8 v.kk) ∧ w'.cell? ⟨b0, off + j * 6 + 2, none⟩ = some (.int .i64 v.sz) ∧
    w'.cell? ⟨b0, off + j * 6 + 3, none⟩ = some (.int .i64 v.fr) ∧ w'.cell? ⟨b0, off + j * 6 + 4, none⟩ = some (.int .i64 v.to) ∧ w'.cell? ⟨b0, off + j * 6 + 5, none⟩ = some (.int .u64 v.ww)

set_option maxRecDepth 20000 in
set_option maxHeartbeats 4000000 in
theorem apart_long (words : Int) (p : Option Addr) (len cap : Nat) (w : World) (hl : 300 < len) (_hlen : len ≤ maxLen) :
    Calls Try.prog 3 #[.int .i64 words, .slice p len cap] w fun e w' => e = .returned (.bool true) ∧ Below w.heap.size w w' := by
  unfold maxLen at _hlen
  have a1 := alive_in w
  have hl' : (300 : Int) < (len : Int) := by omega
  go_enter Try.func3, Try.ntmps3
  go_wp2_with (first
    | (go_at_call 6; refine a1.mono ?_; clear a1; rintro e w1 ⟨rfl, hB1⟩; have a2 := alive_in w1)
    | (go_at_call 6; refine a2.mono ?_; clear a2; rintro e w2 ⟨rfl, hB2⟩))
  go_ret
  exact ⟨rfl, hB1.trans (hB2.mono hB1.size)⟩

set_option maxRecDepth 20000 in
set_option maxHeartbeats 4000000 in
theorem apart_bad (words : Int) (p : Option Addr) (len cap : Nat) (w : World) (hl : len ≤ 300) (hw : words < 1 ∨ 1048576 < words) :
    Calls Try.prog 3 #[.int .i64 words, .slice p len cap] w fun e w' => e = .returned (.bool true) ∧ Below w.heap.size w w' := by
  have a1 := alive_in w
  have hl' : ¬ ((300 : Int) < (len : Int)) := by omega
  by_cases hw1 : words < 1
  · clear hw
    go_enter Try.func3, Try.ntmps3
    go_wp2_with (first
      | (go_at_call 6; refine a1.mono ?_; clear a1; rintro e w1 ⟨rfl, hB1⟩; have a2 := new_bad words w1 (by omega))
      | (go_at_call 7; refine a2.mono ?_; clear a2; rintro e w2 ⟨rfl, rfl⟩))
    go_ret
    exact ⟨rfl, hB1⟩
  · have hw2 : 1048576 < words := by omega
    clear hw
    go_enter Try.func3, Try.ntmps3
    go_wp2_with (first
      | (go_at_call 6; refine a1.mono ?_; clear a1; rintro e w1 ⟨rfl, hB1⟩; have a2 := new_bad words w1 (by omega))
      | (go_at_call 7; refine a2.mono ?_; clear a2; rintro e w2 ⟨rfl, rfl⟩))
    go_ret
    exact ⟨rfl, hB1⟩

set_option maxRecDepth 20000 in
set_option maxHeartbeats 1000000 in
theorem apart_ok (n : Nat) (p : Option Addr) (len cap : Nat) (w : World) (hl : len ≤ 300) (hn1 : 1 ≤ n) (hn2 : n ≤ 1048576) (hc : ToldOps w p len) :
    Calls Try.prog 3 #[.int .i64 n, .slice p len cap] w fun e w' => e = .returned (.bool true) ∧ Below w.heap.size w w' := by
  have a1 := alive_in w
  have hl' : ¬ ((300 : Int) < (len : Int)) := by omega
  go_enter Try.func3, Try.ntmps3
  go_wp2_with (first
    | (go_at_call 6; refine a1.mono ?_; clear a1; rintro e w1 ⟨rfl, hB1⟩; have a2 := newM n w1 hn1 hn2)
    | (go_at_call 7; refine a2.mono ?_; clear a2; rintro e w2 ⟨bh, b, vw2, vb2, rfl, hp2', hB2'⟩))
  have hB2 := hB1.trans (hB2'.mono hB1.size)
  have hb1 := hB1.size
  obtain ⟨m₀, hm₀⟩ : ∃ m₀, w1.heap.size = m₀ := ⟨_, rfl⟩
  rw [hm₀] at hp2' hb1
  clear hB1 hB2' hm₀
  go_loopw [7] (fun i wr => ∃ (k used : Nat) (M : List Ob) (vw vb : Value), i = .int .i64 k ∧ k ≤ len ∧ Hp m₀ bh b vw vb wr n used M ∧ Below w.heap.size w wr) (fun i _ => len - (intOf i).toNat)
  case atStart => exact ⟨0, 0, [], vw2, vb2, rfl, by omega, hp2', hB2⟩
  case round =>
    obtain ⟨k, used, M, vw, vb, rfl, hk, hp, hB⟩ := hrel
    clear hp2' hB2
    by_cases hk2 : k < len
    · obtain ⟨b0, off, rfl, v, hv1, hv2, hcell⟩ := hc k hk2
      obtain ⟨c0, c1, c2, c3, c4, c5⟩ := hcell wr hB
      clear hcell hc
      have hp' := hp.below ((Below.refl _ wr).alloc (Nat.le_refl _) (.cells #[.int .u8 v.kd, .int .u8 v.kk, .int .i64 v.sz, .int .i64 v.fr, .int .i64 v.to, .int .u64 v.ww] 31))
      have hB' := hB.alloc (Nat.le_trans hB.size (Nat.le_refl _)) (.cells #[.int .u8 v.kd, .int .u8 v.kk, .int .i64 v.sz, .int .i64 v.fr, .int .i64 v.to, .int .u64 v.ww] 31)
      have a8 := alloc_any hp' v.kk v.sz hv2
      have a9 := move_any hp' v.fr v.to
      have a10 := cut_any hp' v.fr
      go_wp2_with (first
        | (go_at_call 8; refine a8.mono ?_; clear a8 a9 a10; rintro e w3 ⟨⟨v3, rfl⟩, vw3, vb3, used3, M3, hp3, hS3⟩)
        | (go_at_call 9; refine a9.mono ?_; clear a8 a9 a10; rintro e w3 ⟨⟨v3, rfl⟩, vw3, vb3, used3, M3, hp3, hS3⟩)
        | (go_at_call 10; refine a10.mono ?_; clear a8 a9 a10; rintro e w3 ⟨⟨v3, rfl⟩, vw3, vb3, used3, M3, hp3, hS3⟩))
      all_goals
        go_roundw
        case rel =>
          first
            | exact ⟨k + 1, used3, M3, vw3, vb3, by go_num, by omega, hp3, hB'.trans ((hp'.stepBelow hS3).mono hb1)⟩
            | exact ⟨k + 1, used, M, vw, vb, by go_num, by omega, hp', hB'⟩
        case measure => simp [intOf]; omega
    · have a11 := placesM hp
      go_wp2_with (first
        | (go_at_call 11; refine a11.mono ?_; clear a11; rintro e w3 ⟨p3, c3, rfl, hrow, hB3⟩))
      have hp3 := hp.below hB3
      have hsr := hp.srt
      have hle := hp.le
      have hBw := hB.trans (hB3.mono hB.size)
      have hML := Srt.length_le hsr.1 hsr.2 (Nat.zero_le _)
      clear hp hB3 hB hc
      go_loop [10, 11] (fun en i => ∃ l r : List Ob, M = l ++ r ∧ i = .int .i64 l.length ∧ en = .int .i64 ((l.getLast?.map Ob.end_).getD 0 : Nat)) (fun _ i => M.length - (intOf i).toNat)
      case atStart => exact ⟨[], M, rfl, rfl, rfl⟩
      case round =>
        obtain ⟨l, r, hM, rfl, rfl⟩ := hrel
        have hel := Srt.end_le (M := l) (n := used) (fun o ho => hsr.2 o (by rw [hM]; simp [ho]))
        cases r with
        | nil =>
          have hM' : M = l := by simpa using hM
          have hMl : M.length = l.length := by rw [hM']
          have a13 := usedM hp3
          have a14 := wordsM hp3
          have hq1 : ¬ ((l.length : Int) < (M.length : Int)) := by omega
          obtain ⟨E, hE⟩ : ∃ E, (l.getLast?.map Ob.end_).getD 0 = E := ⟨_, rfl⟩
          rw [hE] at hel ⊢
          have hq2 : (E : Int) ≤ (used : Int) := by omega
          have hq3 : (used : Int) ≤ (n : Int) := by omega
          clear hM hM' hMl hE
          go_wp2_with (first
            | (go_at_call 13; refine a13.mono ?_; rintro e w4 ⟨rfl, rfl⟩)
            | (go_at_call 14; refine a14.mono ?_; clear a14; rintro e w4 ⟨rfl, rfl⟩))
          go_ret
          exact ⟨by simp, hBw⟩
        | cons o r =>
          have hMl : l.length < M.length := by rw [hM]; simp
          obtain ⟨g, c', hs, _, _⟩ := IsAr.row_some hrow (by omega)
          simp only [Value.slice.injEq, true_and] at hs
          obtain ⟨rfl, rfl⟩ := hs
          have hcl : w3.cell? ⟨g, l.length, none⟩ = some (.int .i64 o.at_) := by
            rw [hrow.cellAt l.length (by omega), hM]; simp [pv]
          have a12 := sizeM (hM ▸ hp3)
          have hs2 := hsr.1
          rw [hM, Srt_append] at hs2
          have hlo := hs2.2.1
          have hend := hsr.2 o (by rw [hM]; simp)
          have HM : Hid (M = l ++ o :: r) := hM
          obtain ⟨E, hE⟩ : ∃ E, (l.getLast?.map Ob.end_).getD 0 = E := ⟨_, rfl⟩
          rw [hE] at hlo ⊢
          have HO : Hid (o.end_ = o.at_ + 1 + o.ws.length) := rfl
          have hb1' : o.at_ < 1048576 := by have := HO.out; omega
          have hb2' : o.ws.length < 1048576 := by have := HO.out; omega
          obtain ⟨ow, how⟩ : ∃ ow, o.ws.length = ow := ⟨_, rfl⟩
          obtain ⟨oa, hoa⟩ : ∃ oa, o.at_ = oa := ⟨_, rfl⟩
          rw [how] at a12 hb2'
          rw [hoa] at a12 hcl hlo hb1'
          have HW : Hid (o.ws.length = ow ∧ o.at_ = oa) := ⟨how, hoa⟩
          have hlt : ¬ ((oa : Int) < (E : Int)) := by omega
          have hl20 : l.length < 1048576 := by omega
          clear hM hs2 hend hE hel how hoa hsr hML
          go_wp2_with (go_at_call 12; refine a12.mono ?_; clear a12; rintro e w4 ⟨rfl, rfl⟩)
          go_round
          case rel =>
            have e1 : (((l ++ [o]).length : Nat) : Int) = l.length + 1 := by simp
            refine ⟨l ++ [o], r, by have := HM.out; simpa using this, by rw [e1], ?_⟩
            have h1 := HO.out
            obtain ⟨h2, h3⟩ := HW.out
            simp
            omega
          case measure =>
            simp [intOf]
            omega

end Go.Proofs.Ytkegkpaepkolhaa
