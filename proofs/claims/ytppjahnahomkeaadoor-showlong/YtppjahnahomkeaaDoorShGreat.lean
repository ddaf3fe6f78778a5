/- great: is a store too great to be looked at? -/
import Derived.Test.YtppjahnahomkeaaDoorShTold
import Derived.Test.YtppjahnahomkeaaDoorShLead
namespace Go.Proofs.YtppjahnahomkeaaDoor
set_option linter.unusedVariables false
set_option linter.unusedSimpArgs false
open Go.RowKit

variable {w : World}

/-- How great a store that came in may be. -/
structure Came (S : List Om) : Prop where
  len : S.length ≤ 2199023255552
  vals : ∀ o ∈ S, o.l.length ≤ 8796093022208
  str : ∀ o ∈ S, o.s.size ≤ 140737488355328

theorem valsSize_in {q : Option Addr} {n c : Nat} (w : World) : Calls Tryd.prog 57 #[.slice q n c] w fun e w' => e = .returned (.int .i64 n) ∧ w' = w := by
  go_enter Tryd.func57, Tryd.ntmps57
  go_wp2
  go_ret
  exact ⟨rfl, rfl⟩

set_option maxHeartbeats 1000000 in
/-- One object's size: above the limit, or what it has. -/
theorem objSize_in (o : Om) (q : Option Addr) (c : Nat) (w : World) (h1 : o.s.size ≤ 140737488355328) (h2 : o.l.length ≤ 8796093022208) :
    Calls Tryd.prog 47 #[objV o q c] w fun e w' => ∃ n : Nat, e = .returned (.int .i64 n) ∧ o.s.size < n ∧ n ≤ 140737488355329 + 8796093022208 ∧ Below w.heap.size w w' := by
  unfold objV
  have H := fun (W : World) => valsSize_in (q := q) (n := o.l.length) (c := c) W
  by_cases h : 1 + o.s.size ≤ 1048576
  · have h' : (1 : Int) + (o.s.size : Int) ≤ 1048576 := by omega
    go_enter Tryd.func47, Tryd.ntmps47
    go_wp2_with (first
      | (go_at_call 57; refine (H _).mono ?_; rintro e w1 ⟨rfl, rfl⟩))
    go_ret
    refine ⟨1 + o.s.size + o.l.length, by simp; try omega, by omega, by omega, below1 _ _⟩
  · have h' : ¬ ((1 : Int) + (o.s.size : Int) ≤ 1048576) := by omega
    go_enter Tryd.func47, Tryd.ntmps47
    go_wp2
    go_ret
    refine ⟨1 + o.s.size, by simp; try omega, by omega, by omega, below1 _ _⟩

set_option maxRecDepth 20000 in
set_option maxHeartbeats 2000000 in
theorem objsSize_in {p : Option Addr} {S : List Om} (c : Nat) (hs : IsSt w p S) (hb : Came S) :
    Calls Tryd.prog 32 #[.slice p S.length c] w fun e w' => ∃ n : Nat, e = .returned (.int .i64 n) ∧ n ≤ 2199023255552 + 140737488355329 + 8796093022208 + 1048576 ∧ (n ≤ 1048576 → S.length ≤ 1048576 ∧ ∀ o ∈ S, o.s.size ≤ 1048576) ∧ Below w.heap.size w w' := by
  have hl := hb.len
  go_enter Tryd.func32, Tryd.ntmps32
  go_wp2
  go_loopw [3, 4] (fun n k wr => ∃ (j N : Nat), k = .int .i64 j ∧ n = .int .i64 N ∧ j ≤ S.length ∧ S.length ≤ N ∧ N ≤ 2199023255552 + 140737488355329 + 8796093022208 + 1048576 ∧ (∀ i o, i < j → S[i]? = some o → o.s.size ≤ N) ∧ Below w.heap.size w wr) (fun _ k _ => S.length - (intOf k).toNat)
  case atStart => exact ⟨0, S.length, rfl, rfl, by omega, by omega, by omega, fun i o hi => by omega, Below.refl _ _⟩
  case round =>
    obtain ⟨j, N, rfl, rfl, hj, hSN, hN, hall, hB⟩ := hrel
    by_cases hjn : j < S.length
    · have hjn' : (j : Int) < (S.length : Int) := by omega
      by_cases hNm : N ≤ 1048576
      · have hNm' : (N : Int) ≤ 1048576 := by omega
        obtain ⟨o, ho⟩ : ∃ o, S[j]? = some o := ⟨S[j], by simp⟩
        have hoS := List.mem_of_getElem? ho
        obtain ⟨b0, off, rfl, c0, c1, ⟨qo, co, c2, hvo, -⟩, c3, c4⟩ := hs.look hB ho
        have H1 := fun (W : World) => objSize_in o qo co W (hb.str o hoS) (hb.vals o hoS)
        unfold objV at H1
        have HH : Hid _ := And.intro hall ho
        clear hall ho hvo hoS
        go_wp2_with (first
          | (go_at_call 47; refine (H1 _).mono ?_; clear H1; rintro e w2 ⟨m, rfl, hm1, hm2, hB2⟩))
        go_roundw
        case rel =>
          refine ⟨j + 1, N + m, by simp, by simp, by omega, by omega, by omega, ?_, hB.trans (hB2.mono hB.size)⟩
          intro i u hi hu
          by_cases hij : i < j
          · have := HH.out.1 i u hij hu; omega
          · have : i = j := by omega
            subst this
            rw [HH.out.2] at hu; cases hu; omega
        case measure => simp [intOf]; omega
      · have hNm' : ¬ ((N : Int) ≤ 1048576) := by omega
        have HH : Hid _ := hall
        clear hall
        go_wp2
        go_ret
        exact ⟨N, rfl, hN, fun h => absurd h hNm, hB⟩
    · have hjn' : ¬ ((j : Int) < (S.length : Int)) := by omega
      have HH : Hid _ := hall
      clear hall
      go_wp2
      go_ret
      refine ⟨N, rfl, hN, fun h => ⟨by omega, fun o ho => ?_⟩, hB⟩
      obtain ⟨i, hi⟩ := List.mem_iff_getElem?.1 ho
      have := HH.out i o (by have := (List.getElem?_eq_some_iff.1 hi).1; omega) hi
      omega

theorem storeSize_in {p : Option Addr} {S : List Om} (c : Nat) (hs : IsSt w p S) (hb : Came S) :
    Calls Tryd.prog 17 #[.slice p S.length c] w fun e w' => ∃ n : Nat, e = .returned (.int .i64 n) ∧ n ≤ 2199023255552 + 140737488355329 + 8796093022208 + 1048576 ∧ (n ≤ 1048576 → S.length ≤ 1048576 ∧ ∀ o ∈ S, o.s.size ≤ 1048576) ∧ Below w.heap.size w w' := by
  have H := objsSize_in c hs hb
  go_enter Tryd.func17, Tryd.ntmps17
  go_wp2_with (first
    | (go_at_call 32; refine H.mono ?_; clear H; rintro e w2 ⟨n, rfl, h1, h2, h3⟩))
  go_ret
  exact ⟨n, rfl, h1, h2, h3⟩

set_option maxRecDepth 20000 in
theorem beyond_in {g n : Nat} (w : World) (hc : w.cell? ⟨g, 0, none⟩ = some (.int .i64 n)) (hn : n ≤ 1099511627776 * 4096) :
    Calls Tryd.prog 16 #[.slice (some ⟨g, 0, none⟩) 1 1] w fun e w' => e = .returned (.bool (decide (1048576 < n))) ∧ Below w.heap.size w w' := by
  by_cases h : 1048576 < n
  · have h' : (1048576 : Int) < (n : Int) := by omega
    have e : decide (1048576 < n) = true := by simp [h]
    rw [e]
    clear e
    go_enter Tryd.func16, Tryd.ntmps16
    go_wp2
    refine wp_loop_rounds 1 ?_
    rw [rounds_succ]
    go_wp2
    go_ret
    exact ⟨rfl, Below.refl _ _⟩
  · have h' : ¬ ((1048576 : Int) < (n : Int)) := by omega
    have e : decide (1048576 < n) = false := by simp [h]
    rw [e]
    clear e
    go_enter Tryd.func16, Tryd.ntmps16
    go_wp2
    refine wp_loop_rounds 2 ?_
    rw [rounds_succ]
    go_wp2
    rw [rounds_succ]
    go_wp2
    go_ret
    exact ⟨rfl, Below.refl _ _⟩

/-- A store that is not too great. -/
structure Small (S : List Om) : Prop where
  len : S.length ≤ 1048576
  vals : ∀ o ∈ S, o.l.length ≤ 100000
  str : ∀ o ∈ S, o.s.size ≤ 1048576

def sumL (S : List Om) : Nat := (S.map (fun o => o.l.length)).sum

theorem sumL_take {S : List Om} {j : Nat} {o : Om} (ho : S[j]? = some o) : sumL (S.take (j + 1)) = sumL (S.take j) + o.l.length := by
  unfold sumL
  rw [List.take_add_one, ho]; simp

theorem sumL_le {S : List Om} (h : ∀ o ∈ S, o.l.length ≤ 5000) : sumL S ≤ S.length * 5000 := by
  induction S with
  | nil => simp [sumL]
  | cons o r ih =>
    have := ih (fun x hx => h x (by simp [hx]))
    have := h o (by simp)
    simp only [sumL, List.map_cons, List.sum_cons, List.length_cons] at *
    omega

set_option maxRecDepth 20000 in
set_option maxHeartbeats 2000000 in
theorem great_in {p : Option Addr} {S : List Om} (c : Nat) (hs : IsSt w p S) (hb : Came S) :
    Calls Tryd.prog 7 #[.slice p S.length c] w fun e w' => ∃ b : Bool, e = .returned (.bool b) ∧ (b = false → Small S ∧ sumL S ≤ 20000) ∧ Below w.heap.size w w' := by
  have hl := hb.len
  have H1 := fun (W : World) (h : Below w.heap.size w W) => storeSize_in c (hs.below h) hb
  go_enter Tryd.func7, Tryd.ntmps7
  go_wp2
  go_loopw [3, 4] (fun n k wr => ∃ (j N : Nat), k = .int .i64 j ∧ n = .int .i64 N ∧ j ≤ S.length ∧ (∀ o ∈ S.take j, o.l.length ≤ 5000) ∧ N = sumL (S.take j) ∧ Below w.heap.size w wr) (fun _ k _ => S.length - (intOf k).toNat)
  case atStart => exact ⟨0, 0, rfl, rfl, by omega, by simp, rfl, Below.refl _ _⟩
  case round =>
    obtain ⟨j, N, rfl, rfl, hj, hall, hN, hB⟩ := hrel
    have hNb : N ≤ 2199023255552 * 5000 := by
      have := sumL_le hall
      rw [← hN] at this
      simp at this
      omega
    have HA : Hid _ := And.intro hall hN
    clear hall hN
    by_cases hjn : j < S.length
    · have hjn' : (j : Int) < (S.length : Int) := by omega
      obtain ⟨o, ho⟩ : ∃ o, S[j]? = some o := ⟨S[j], by simp⟩
      have hoS := List.mem_of_getElem? ho
      have hov := hb.vals o hoS
      obtain ⟨b0, off, rfl, c0, c1, ⟨qo, co, c2, hvo, -⟩, c3, c4⟩ := hs.look hB ho
      have HO : Hid _ := ho
      clear ho hvo hoS
      by_cases h5 : o.l.length ≤ 5000
      · have h5' : ¬ ((5000 : Int) < (o.l.length : Int)) := by omega
        go_wp2
        go_roundw
        case rel =>
          refine ⟨j + 1, N + o.l.length, by simp, by simp, by omega, ?_, ?_, hB⟩
          · rw [List.take_add_one, HO.out]
            intro x hx
            simp at hx
            rcases hx with hx | rfl
            · exact HA.out.1 x hx
            · exact h5
          · rw [sumL_take HO.out, HA.out.2]
        case measure => simp [intOf]; omega
      · have h5' : ((5000 : Int) < (o.l.length : Int)) := by omega
        go_wp2
        go_ret
        first | exact ⟨true, rfl, (fun h => by cases h), hB⟩ | exact .inr ⟨rfl, hB⟩
    · have hjn' : ¬ ((j : Int) < (S.length : Int)) := by omega
      have hjS : S.take j = S := List.take_of_length_le (by omega)
      have HJ : Hid _ := hjS
      clear hjS
      by_cases h2 : N ≤ 20000
      · have h2' : ¬ ((20000 : Int) < (N : Int)) := by omega
        have H2 := fun (W : World) (n : Nat) (hn : n ≤ 2199023255552 + 140737488355329 + 8796093022208 + 1048576) => beyond_in (g := W.heap.size) (W.alloc (.cells #[.int .i64 n] 3)) (n := n) (by rw [cell_of_row _ _ 0 _ _ _ (heap_alloc_new W (.cells #[.int .i64 n] 3))]; rfl) (by omega)
        go_wp2_with (first
          | (go_at_call 17; refine (H1 _ hB).mono ?_; clear H1; rintro e w2 ⟨m, rfl, hm1, hm2, hB2⟩)
          | (go_at_call 16; refine (H2 _ _ hm1).mono ?_; clear H2; rintro e w3 ⟨rfl, hB3⟩))
        go_ret
        refine ⟨decide (1048576 < m), rfl, fun h => ?_, ?_⟩
        · have hm3 := hm2 (by simpa using h)
          have h4 := HA.out.1
          have h5 := HA.out.2
          rw [HJ.out] at h4 h5
          exact ⟨⟨hm3.1, fun o ho => Nat.le_trans (h4 o ho) (by decide), hm3.2⟩, by omega⟩
        · exact (hB.trans (hB2.mono hB.size)).trans ((below1 w2 (.cells #[.int .i64 m] 3)).trans (hB3.mono (by simp)) |>.mono (by have := hB2.size; have := hB.size; omega))
      · have h2' : ((20000 : Int) < (N : Int)) := by omega
        go_wp2
        go_ret
        first | exact ⟨true, rfl, (fun h => by cases h), hB⟩ | exact .inr ⟨rfl, hB⟩

end Go.Proofs.YtppjahnahomkeaaDoor
