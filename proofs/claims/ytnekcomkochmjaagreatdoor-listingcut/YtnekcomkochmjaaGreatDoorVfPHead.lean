/- The program's head: its parts. -/
import Derived.Test.YtnekcomkochmjaaGreatDoorVfPGuards
import Derived.Test.YtnekcomkochmjaaGreatDoorVfRDepths
import Derived.Test.YtnekcomkochmjaaGreatDoorVbWalk
namespace Go.Proofs.YtnekcomkochmjaaGreatDoor
set_option linter.unusedVariables false
set_option linter.unusedSimpArgs false
open Go.RowKit

variable {w : World}

theorem str_empty (s : ByteArray) : s.toList.isEmpty = decide (s.size = 0) := by
  rw [ByteArray.toList_eq, Bool.eq_iff_iff]
  obtain ⟨d⟩ := s
  simp [ByteArray.size]

set_option maxRecDepth 20000 in
theorem constMayBe_in (c : Ck) (hk : c.k < 256) :
    Calls Tryz.prog 42 #[.agg #[.int .u8 c.k, .int .i64 c.n, .string c.s]] w fun e w' => e = .returned (.bool (constP c)) ∧ Below w.heap.size w w' := by
  obtain ⟨k, n, st⟩ := c
  simp only at hk ⊢
  have hB := below1 w (.cells #[.int .u8 k, .int .i64 n, .string st] 75)
  by_cases h2 : k = 2
  · subst h2
    have e : constP ⟨2, n, st⟩ = st.toList.isEmpty := by rw [str_empty]; unfold constP; simp
    rw [e]
    go_enter Tryz.func42, Tryz.ntmps42
    go_wp2
    go_ret
    exact ⟨rfl, hB⟩
  · have e2 : ((k : Int) == 2) = false := by simp; omega
    by_cases h3 : k = 3
    · subst h3
      by_cases h0 : n = 0
      · subst h0
        have e : constP ⟨3, 0, st⟩ = decide ((st.size : Int) ≤ 4096) := by unfold constP; rw [Bool.eq_iff_iff]; simp; omega
        rw [e]
        clear h2
        go_enter Tryz.func42, Tryz.ntmps42
        go_wp2
        go_ret
        exact ⟨rfl, hB⟩
      · have e : constP ⟨3, n, st⟩ = false := by unfold constP; simp [h0]
        have e0 : (n == 0) = false := by simpa using h0
        rw [e]
        clear h2
        go_enter Tryz.func42, Tryz.ntmps42
        go_wp2
        go_ret
        exact ⟨rfl, hB⟩
    · have e3 : ((k : Int) == 3) = false := by simp; omega
      have e : constP ⟨k, n, st⟩ = false := by unfold constP; simp [h2, h3]
      rw [e]
      go_enter Tryz.func42, Tryz.ntmps42
      go_wp2
      go_ret
      exact ⟨rfl, hB⟩

theorem lineMayBe_in (x : Int) : Calls Tryz.prog 44 #[.int .i64 x] w fun e w' => e = .returned (.bool (decide (0 ≤ x))) ∧ Below w.heap.size w w' := by
  go_enter Tryz.func44, Tryz.ntmps44
  go_wp2
  go_ret
  exact ⟨rfl, Below.refl _ _⟩

set_option maxRecDepth 20000 in
set_option maxHeartbeats 2000000 in
theorem handlerMayBe_in (h : Hn) (n : Nat) :
    Calls Tryz.prog 47 #[.agg #[.int .i64 h.fr, .int .i64 h.to, .int .i64 h.at_, .int .i64 h.deep], .int .i64 n] w fun e w' => e = .returned (.bool (handP n h)) ∧ Below w.heap.size w w' := by
  obtain ⟨fr, to, at_, dp⟩ := h
  simp only
  have hB := below1 w (.cells #[.int .i64 fr, .int .i64 to, .int .i64 at_, .int .i64 dp] 78)
  by_cases q0 : 0 ≤ fr
  · by_cases q1 : fr < to
    · by_cases q2 : to ≤ at_
      · by_cases q3 : at_ < (n : Int)
        · by_cases q4 : 0 ≤ dp
          · by_cases q5 : dp < 256
            · have e : handP n ⟨fr, to, at_, dp⟩ = true := by unfold handP; simp; omega
              rw [e]
              clear e
              go_enter Tryz.func47, Tryz.ntmps47
              go_wp2
              go_ret
              exact ⟨rfl, hB⟩
            · have e : handP n ⟨fr, to, at_, dp⟩ = false := by unfold handP; simp; omega
              rw [e]
              clear e
              go_enter Tryz.func47, Tryz.ntmps47
              go_wp2
              go_ret
              exact ⟨rfl, hB⟩
          · have e : handP n ⟨fr, to, at_, dp⟩ = false := by unfold handP; simp; omega
            rw [e]
            clear e
            go_enter Tryz.func47, Tryz.ntmps47
            go_wp2
            go_ret
            exact ⟨rfl, hB⟩
        · have e : handP n ⟨fr, to, at_, dp⟩ = false := by unfold handP; simp; omega
          rw [e]
          clear e
          go_enter Tryz.func47, Tryz.ntmps47
          go_wp2
          go_ret
          exact ⟨rfl, hB⟩
      · have e : handP n ⟨fr, to, at_, dp⟩ = false := by unfold handP; simp; omega
        rw [e]
        clear e
        go_enter Tryz.func47, Tryz.ntmps47
        go_wp2
        go_ret
        exact ⟨rfl, hB⟩
    · have e : handP n ⟨fr, to, at_, dp⟩ = false := by unfold handP; simp; omega
      rw [e]
      clear e
      go_enter Tryz.func47, Tryz.ntmps47
      go_wp2
      go_ret
      exact ⟨rfl, hB⟩
  · have e : handP n ⟨fr, to, at_, dp⟩ = false := by unfold handP; simp; omega
    rw [e]
    clear e
    go_enter Tryz.func47, Tryz.ntmps47
    go_wp2
    go_ret
    exact ⟨rfl, hB⟩

set_option maxRecDepth 20000 in
set_option maxHeartbeats 2000000 in
theorem allConst_in (p : Option Addr) (c : Nat) (l : List Ck) (hk : ∀ c ∈ l, c.k < 256) (hl : l.length ≤ 16384) (hv : RowAt conC 3 w p l) :
    Calls Tryz.prog 41 #[.slice p l.length c, .func (.func 42) #[] #[]] w fun e w' => e = .returned (.bool (l.all constP)) ∧ Below w.heap.size w w' := by
  go_enter Tryz.func41, Tryz.ntmps41
  go_wp2
  go_loopw [9] (fun k wr => ∃ j : Nat, k = .int .i64 j ∧ j ≤ l.length ∧ (l.take j).all constP = true ∧ Below w.heap.size w wr) (fun k _ => l.length - (intOf k).toNat)
  case atStart => exact ⟨0, rfl, by omega, rfl, Below.refl _ _⟩
  case round =>
    obtain ⟨j, rfl, hj, hA, hB⟩ := hrel
    have HA : Hid _ := hA
    have hws := hB.size
    by_cases hjl : j < l.length
    · have hjl' : (j : Int) < (l.length : Int) := by omega
      obtain ⟨x, hx⟩ : ∃ x, l[j]? = some x := ⟨l[j], by simp⟩
      have hxm := List.mem_of_getElem? hx
      obtain ⟨b0, off, rfl, c0, c1, c2⟩ := hv.lookK hB hx
      have HC := fun (W : World)  => constMayBe_in (w := W) x (hk x hxm)
      have HX : Hid _ := hx
      have hBa := fun (o : Obj) => hB.alloc hws o
      cases hq : constP x with
      | true =>
        have hq' : (constP x) = true := hq
        simp only [hq'] at HC
        have HQ : Hid _ := hq'
        clear hA hx hq hq'
        go_wp2_with (first
          | (go_at_call 42; (with_reducible refine (HC _).mono ?_); clear HC; rintro e w1 ⟨rfl, hB1⟩))
        go_roundw
        case rel =>
          refine ⟨j + 1, by simp, by omega, ?_, (hBa _).trans (hB1.mono (hBa _).size)⟩
          rw [List.take_add_one, HX.out, List.all_append, HA.out]
          simp [HQ.out]
        case measure => simp [intOf]; omega
      | false =>
        have hq' : (constP x) = false := hq
        simp only [hq'] at HC
        have HQ : Hid _ := hq'
        clear hA hx hq hq'
        go_wp2_with (first
          | (go_at_call 42; (with_reducible refine (HC _).mono ?_); clear HC; rintro e w1 ⟨rfl, hB1⟩))
        go_ret
        have e : l.all constP = false := by
          rw [List.all_eq_false]
          exact ⟨x, hxm, by rw [HQ.out]; simp⟩
        rw [e]
        exact ⟨rfl, (hBa _).trans (hB1.mono (hBa _).size)⟩
    · have hjl' : ¬ ((j : Int) < (l.length : Int)) := by omega
      clear hA
      go_wp2
      go_ret
      have e : l.all constP = true := by have := HA.out; rw [List.take_of_length_le (by omega)] at this; exact this
      rw [e]
      exact ⟨rfl, hB⟩

set_option maxRecDepth 20000 in
set_option maxHeartbeats 2000000 in
theorem allLine_in (p : Option Addr) (c : Nat) (l : List Int) (hl : l.length ≤ 16384) (hv : RowAt linC 1 w p l) :
    Calls Tryz.prog 43 #[.slice p l.length c, .func (.func 44) #[] #[]] w fun e w' => e = .returned (.bool (l.all (fun n => decide (0 ≤ n)))) ∧ Below w.heap.size w w' := by
  go_enter Tryz.func43, Tryz.ntmps43
  go_wp2
  go_loopw [9] (fun k wr => ∃ j : Nat, k = .int .i64 j ∧ j ≤ l.length ∧ (l.take j).all (fun n => decide (0 ≤ n)) = true ∧ Below w.heap.size w wr) (fun k _ => l.length - (intOf k).toNat)
  case atStart => exact ⟨0, rfl, by omega, rfl, Below.refl _ _⟩
  case round =>
    obtain ⟨j, rfl, hj, hA, hB⟩ := hrel
    have HA : Hid _ := hA
    have hws := hB.size
    by_cases hjl : j < l.length
    · have hjl' : (j : Int) < (l.length : Int) := by omega
      obtain ⟨x, hx⟩ : ∃ x, l[j]? = some x := ⟨l[j], by simp⟩
      have hxm := List.mem_of_getElem? hx
      obtain ⟨b0, off, rfl, c0⟩ := hv.lookL hB hx
      have HC := fun (W : World)  => lineMayBe_in (w := W) x
      have HX : Hid _ := hx
      have hBa := fun (o : Obj) => hB.alloc hws o
      cases hq : (fun n => decide (0 ≤ n)) x with
      | true =>
        have hq' : ((fun n => decide (0 ≤ n)) x) = true := hq
        simp only [hq'] at HC
        have HQ : Hid _ := hq'
        clear hA hx hq hq'
        go_wp2_with (first
          | (go_at_call 44; (with_reducible refine (HC _).mono ?_); clear HC; rintro e w1 ⟨rfl, hB1⟩))
        go_roundw
        case rel =>
          refine ⟨j + 1, by simp, by omega, ?_, hB.trans (hB1.mono hws)⟩
          rw [List.take_add_one, HX.out, List.all_append, HA.out]
          simp [HQ.out]
        case measure => simp [intOf]; omega
      | false =>
        have hq' : ((fun n => decide (0 ≤ n)) x) = false := hq
        simp only [hq'] at HC
        have HQ : Hid _ := hq'
        clear hA hx hq hq'
        go_wp2_with (first
          | (go_at_call 44; (with_reducible refine (HC _).mono ?_); clear HC; rintro e w1 ⟨rfl, hB1⟩))
        go_ret
        have e : l.all (fun n => decide (0 ≤ n)) = false := by
          rw [List.all_eq_false]
          exact ⟨x, hxm, by rw [HQ.out]; simp⟩
        rw [e]
        exact ⟨rfl, hB.trans (hB1.mono hws)⟩
    · have hjl' : ¬ ((j : Int) < (l.length : Int)) := by omega
      clear hA
      go_wp2
      go_ret
      have e : l.all (fun n => decide (0 ≤ n)) = true := by have := HA.out; rw [List.take_of_length_le (by omega)] at this; exact this
      rw [e]
      exact ⟨rfl, hB⟩

set_option maxRecDepth 20000 in
theorem head1_in {b0 o bx : Nat} {f : Fm} {s : Fs} (h : Hn) (hp : FnP w b0 o f s) (hb : w.cell? ⟨bx, 0, none⟩ = some (.pointer (some ⟨b0, o, none⟩))) (hbl : bx < w.heap.size) :
    Calls Tryz.prog 46 #[.agg #[.int .i64 h.fr, .int .i64 h.to, .int .i64 h.at_, .int .i64 h.deep], .pointer (some ⟨bx, 0, none⟩)] w fun e w' => e = .returned (.bool (handP f.code.length h)) ∧ Below w.heap.size w w' := by
  have hBa := below1 w (.cells #[.int .i64 h.fr, .int .i64 h.to, .int .i64 h.at_, .int .i64 h.deep] 78)
  have c5 := (hp.below hBa).cell 5 _ rfl
  have cb := (hBa.cell (p := ⟨bx, 0, none⟩) hbl).trans hb
  have HC := fun (W : World) => handlerMayBe_in (w := W) h f.code.length
  have SH : ∀ W, Below (w.alloc (.cells #[.int .i64 h.fr, .int .i64 h.to, .int .i64 h.at_, .int .i64 h.deep] 78)).heap.size (w.alloc (.cells #[.int .i64 h.fr, .int .i64 h.to, .int .i64 h.at_, .int .i64 h.deep] 78)) W → W.cell? ⟨w.heap.size, 0, none⟩ = some (.int .i64 h.fr) ∧ W.cell? ⟨w.heap.size, 1, none⟩ = some (.int .i64 h.to) ∧ W.cell? ⟨w.heap.size, 2, none⟩ = some (.int .i64 h.at_) ∧ W.cell? ⟨w.heap.size, 3, none⟩ = some (.int .i64 h.deep) ∧ W.cell? ⟨bx, 0, none⟩ = some (.pointer (some ⟨b0, o, none⟩)) ∧ W.cell? ⟨b0, o + 5, none⟩ = some (.slice s.qi f.code.length s.ci) := fun W hB => by
    obtain ⟨⟨d0, d1, d2, d3⟩, -⟩ := cell_row4 ((hB.block w.heap.size (by simp)).trans (heap_alloc_new w _))
    exact ⟨d0, d1, d2, d3, (hB.cell (p := ⟨bx, 0, none⟩) (by simp; omega)).trans cb, (hB.cell (p := ⟨b0, o + 5, none⟩) (by have := hp.lt; simp; omega)).trans c5⟩
  clear hp hb cb c5
  go_enter Tryz.func46, Tryz.ntmps46
  go_wp2
  go_region_held3 (fun W => W.cell? ⟨w.heap.size, 0, none⟩ = some (.int .i64 h.fr) ∧ W.cell? ⟨w.heap.size, 1, none⟩ = some (.int .i64 h.to) ∧ W.cell? ⟨w.heap.size, 2, none⟩ = some (.int .i64 h.at_) ∧ W.cell? ⟨w.heap.size, 3, none⟩ = some (.int .i64 h.deep) ∧ W.cell? ⟨bx, 0, none⟩ = some (.pointer (some ⟨b0, o, none⟩)) ∧ W.cell? ⟨b0, o + 5, none⟩ = some (.slice s.qi f.code.length s.ci)) (first | exact SH _ (drewP (Below.refl _ _)) | exact SH _ hB2 | go_keep) ((go_at_call 47; (with_reducible refine (HC _).mono ?_); rintro e w2 ⟨rfl, hB2'⟩; have hB2 := Below.trans (drewP (Below.refl (w.alloc (.cells #[.int .i64 h.fr, .int .i64 h.to, .int .i64 h.at_, .int .i64 h.deep] 78)).heap.size (w.alloc (.cells #[.int .i64 h.fr, .int .i64 h.to, .int .i64 h.at_, .int .i64 h.deep] 78)))) hB2'))
  go_wp2
  go_ret
  exact ⟨rfl, hBa.trans (hB2.mono (by simp))⟩

set_option maxRecDepth 20000 in
set_option maxHeartbeats 2000000 in
theorem allHand_in (p : Option Addr) (c : Nat) (l : List Hn) {b1 o bx : Nat} {f : Fm} {s : Fs} (hfp : FnP w b1 o f s) (hbx : w.cell? ⟨bx, 0, none⟩ = some (.pointer (some ⟨b1, o, none⟩))) (hbl : bx < w.heap.size) (hl : l.length ≤ 16384) (hv : RowAt hanC 4 w p l) :
    Calls Tryz.prog 45 #[.slice p l.length c, .func (.func 46) #[] #[.pointer (some ⟨bx, 0, none⟩)]] w fun e w' => e = .returned (.bool (l.all (handP f.code.length))) ∧ Below w.heap.size w w' := by
  go_enter Tryz.func45, Tryz.ntmps45
  go_wp2
  go_loopw [9] (fun k wr => ∃ j : Nat, k = .int .i64 j ∧ j ≤ l.length ∧ (l.take j).all (handP f.code.length) = true ∧ Below w.heap.size w wr) (fun k _ => l.length - (intOf k).toNat)
  case atStart => exact ⟨0, rfl, by omega, rfl, Below.refl _ _⟩
  case round =>
    obtain ⟨j, rfl, hj, hA, hB⟩ := hrel
    have HA : Hid _ := hA
    have hws := hB.size
    by_cases hjl : j < l.length
    · have hjl' : (j : Int) < (l.length : Int) := by omega
      obtain ⟨x, hx⟩ : ∃ x, l[j]? = some x := ⟨l[j], by simp⟩
      have hxm := List.mem_of_getElem? hx
      obtain ⟨b0, off, rfl, c0, c1, c2, c3⟩ := hv.lookH hB hx
      have HC := fun (W : World) (hW : Below w.heap.size w W) => head1_in (w := W) x (hfp.below hW) ((hW.cell (p := ⟨bx, 0, none⟩) hbl).trans hbx) (Nat.lt_of_lt_of_le hbl hW.size)
      have HX : Hid _ := hx
      have hBa := fun (o : Obj) => hB.alloc hws o
      cases hq : (handP f.code.length) x with
      | true =>
        have hq' : ((handP f.code.length) x) = true := hq
        simp only [hq'] at HC
        have HQ : Hid _ := hq'
        clear hA hx hq hq'
        go_wp2_with (first
          | (go_at_call 46; (with_reducible refine (HC _ (hBa _)).mono ?_); clear HC; rintro e w1 ⟨rfl, hB1⟩))
        go_roundw
        case rel =>
          refine ⟨j + 1, by simp, by omega, ?_, (hBa _).trans (hB1.mono (hBa _).size)⟩
          rw [List.take_add_one, HX.out, List.all_append, HA.out]
          simp [HQ.out]
        case measure => simp [intOf]; omega
      | false =>
        have hq' : ((handP f.code.length) x) = false := hq
        simp only [hq'] at HC
        have HQ : Hid _ := hq'
        clear hA hx hq hq'
        go_wp2_with (first
          | (go_at_call 46; (with_reducible refine (HC _ (hBa _)).mono ?_); clear HC; rintro e w1 ⟨rfl, hB1⟩))
        go_ret
        have e : l.all (handP f.code.length) = false := by
          rw [List.all_eq_false]
          exact ⟨x, hxm, by rw [HQ.out]; simp⟩
        rw [e]
        exact ⟨rfl, (hBa _).trans (hB1.mono (hBa _).size)⟩
    · have hjl' : ¬ ((j : Int) < (l.length : Int)) := by omega
      clear hA
      go_wp2
      go_ret
      have e : l.all (handP f.code.length) = true := by have := HA.out; rw [List.take_of_length_le (by omega)] at this; exact this
      rw [e]
      exact ⟨rfl, hB⟩

end Go.Proofs.YtnekcomkochmjaaGreatDoor

namespace Go.Proofs.YtnekcomkochmjaaGreatDoor
set_option linter.unusedVariables false
set_option linter.unusedSimpArgs false
open Go.RowKit

variable {w : World}

theorem headP_iff (f : Fm) : headP f false = true ↔ (f.name.size ≤ 4096 ∧ 0 ≤ f.params ∧ f.params ≤ f.locals ∧ f.locals ≤ 64 ∧ f.caps.length ≤ 4096 ∧ f.consts.length ≤ 16384 ∧ f.consts.all constP = true ∧ 1 ≤ f.code.length ∧ f.code.length ≤ 16384 ∧ f.lines.length = f.code.length ∧ f.lines.all (fun n => decide (0 ≤ n)) = true ∧ f.hs.length ≤ 16384 ∧ f.hs.all (handP f.code.length) = true) := by
  unfold headP
  simp only [Bool.and_eq_true, decide_eq_true_eq]
  constructor
  · rintro ⟨⟨⟨⟨h1, h2, h3, h4, h5, h6, h7, h8, h9, h10, h11⟩, hk⟩, hl⟩, hh⟩
    exact ⟨h1, h2, h3, h4, h6, h7, hk, h9, h10, h11, hl, h8, hh⟩
  · rintro ⟨h1, h2, h3, h4, h6, h7, hk, h9, h10, h11, hl, h8, hh⟩
    exact ⟨⟨⟨⟨h1, h2, h3, h4, fun q => by simp at q, h6, h7, h8, h9, h10, h11⟩, hk⟩, hl⟩, hh⟩

theorem headP_main (f : Fm) : headP f true = (headP f false && (decide (f.params = 0) && decide (f.caps.length = 0))) := by
  rw [Bool.eq_iff_iff, Bool.and_eq_true, headP_iff]
  unfold headP
  simp only [Bool.and_eq_true, decide_eq_true_eq]
  constructor
  · rintro ⟨⟨⟨⟨h1, h2, h3, h4, h5, h6, h7, h8, h9, h10, h11⟩, hk⟩, hl⟩, hh⟩
    exact ⟨⟨h1, h2, h3, h4, h6, h7, hk, h9, h10, h11, hl, h8, hh⟩, by have := (h5 trivial).1; omega, (h5 trivial).2⟩
  · rintro ⟨⟨h1, h2, h3, h4, h6, h7, hk, h9, h10, h11, hl, h8, hh⟩, p1, p2⟩
    exact ⟨⟨⟨⟨h1, h2, h3, h4, fun _ => ⟨by omega, p2⟩, h6, h7, h8, h9, h10, h11⟩, hk⟩, hl⟩, hh⟩

/-- A function by a pointer, and the pointer in a box. -/
theorem head_facts {b0 o : Nat} {f : Fm} {s : Fs} {WA W : World} {bx : Nat} (hp : FnP WA b0 o f s) (hb : WA.cell? ⟨bx, 0, none⟩ = some (.pointer (some ⟨b0, o, none⟩))) (hbl : bx < WA.heap.size) (hB : Below WA.heap.size WA W) :
    W.cell? ⟨bx, 0, none⟩ = some (.pointer (some ⟨b0, o, none⟩)) ∧ W.cell? ⟨b0, o, none⟩ = some (.string f.name) ∧ W.cell? ⟨b0, o + 1, none⟩ = some (.int .i64 f.params) ∧ W.cell? ⟨b0, o + 2, none⟩ = some (.int .i64 f.locals) ∧ W.cell? ⟨b0, o + 3, none⟩ = some (.slice s.qc f.caps.length s.cc) ∧ W.cell? ⟨b0, o + 4, none⟩ = some (.slice s.qk f.consts.length s.ck) ∧ W.cell? ⟨b0, o + 5, none⟩ = some (.slice s.qi f.code.length s.ci) ∧ W.cell? ⟨b0, o + 6, none⟩ = some (.slice s.ql f.lines.length s.cl) ∧ W.cell? ⟨b0, o + 7, none⟩ = some (.slice s.qh f.hs.length s.ch) := by
  have h := hp.below hB
  exact ⟨(hB.cell (p := ⟨bx, 0, none⟩) hbl).trans hb, h.cell 0 _ rfl, h.cell 1 _ rfl, h.cell 2 _ rfl, h.cell 3 _ rfl, h.cell 4 _ rfl, h.cell 5 _ rfl, h.cell 6 _ rfl, h.cell 7 _ rfl⟩

end Go.Proofs.YtnekcomkochmjaaGreatDoor
