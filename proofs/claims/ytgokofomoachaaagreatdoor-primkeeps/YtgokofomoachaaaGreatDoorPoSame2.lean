/- law11's words and same, where it says yes; beyond. -/
import Derived.Test.YtgokofomoachaaaGreatDoorPoText
namespace Go.Proofs.YtgokofomoachaaaGreatDoor
set_option linter.unusedVariables false
set_option linter.unusedSimpArgs false
open Go.RowKit

variable {w : World}

/-- The words that are asked for; none, if something is thrown. -/
def Rd.asks (d : Rd) (n : Int) : Prop := (d.t = ⟨#[]⟩ ∧ n = d.n) ∨ (d.t ≠ ⟨#[]⟩ ∧ n = 0)

set_option maxHeartbeats 1000000 in
/-- One object's size: above the limit, or what it has. -/
theorem objSizeB_in (o : Om) (q : Option Addr) (c : Nat) (w : World) (h1 : o.s.size ≤ 140737488355328) (h2 : o.l.length ≤ 8796093022208) :
    Calls Tryz.prog 240 #[objV o q c] w fun e w' => ∃ n : Nat, e = .returned (.int .i64 n) ∧ o.s.size < n ∧ n ≤ 140737488355329 + 8796093022208 ∧ (n ≤ 1048576 → o.l.length < n) ∧ Below w.heap.size w w' := by
  unfold objV
  have H := fun (W : World) => valsSize_in (q := q) (n := o.l.length) (c := c) W
  by_cases h : 1 + o.s.size ≤ 1048576
  · have h' : (1 : Int) + (o.s.size : Int) ≤ 1048576 := by omega
    go_enter Tryz.func240, Tryz.ntmps240
    go_wp2_with (first
      | (go_at_call 262; refine (H _).mono ?_; rintro e w1 ⟨rfl, rfl⟩))
    go_ret
    refine ⟨1 + o.s.size + o.l.length, by simp; try omega, by omega, by omega, by omega, below1 _ _⟩
  · have h' : ¬ ((1 : Int) + (o.s.size : Int) ≤ 1048576) := by omega
    go_enter Tryz.func240, Tryz.ntmps240
    go_wp2
    go_ret
    refine ⟨1 + o.s.size, by simp; try omega, by omega, by omega, by omega, below1 _ _⟩

set_option maxRecDepth 20000 in
set_option maxHeartbeats 2000000 in
theorem objsSizeB_in {p : Option Addr} {S : List Om} (c : Nat) (hs : IsSt w p S) (hb : Came S) :
    Calls Tryz.prog 152 #[.slice p S.length c] w fun e w' => ∃ n : Nat, e = .returned (.int .i64 n) ∧ n ≤ 2199023255552 + 140737488355329 + 8796093022208 + 1048576 ∧ (n ≤ 1048576 → S.length + sumL S ≤ n ∧ ∀ o ∈ S, o.s.size ≤ n ∧ o.l.length ≤ n) ∧ Below w.heap.size w w' := by
  have hl := hb.len
  go_enter Tryz.func152, Tryz.ntmps152
  go_wp2
  go_loopw [3, 4] (fun n k wr => ∃ (j N : Nat), k = .int .i64 j ∧ n = .int .i64 N ∧ j ≤ S.length ∧ S.length ≤ N ∧ N ≤ 2199023255552 + 140737488355329 + 8796093022208 + 1048576 ∧ (N ≤ 1048576 → S.length + sumL (S.take j) ≤ N ∧ ∀ i o, i < j → S[i]? = some o → o.s.size ≤ N ∧ o.l.length ≤ N) ∧ Below w.heap.size w wr) (fun _ k _ => S.length - (intOf k).toNat)
  case atStart => exact ⟨0, S.length, rfl, rfl, by omega, by omega, by omega, fun _ => ⟨by simp [sumL], fun i o hi => by omega⟩, Below.refl _ _⟩
  case round =>
    obtain ⟨j, N, rfl, rfl, hj, hSN, hN, hall, hB⟩ := hrel
    by_cases hjn : j < S.length
    · have hjn' : (j : Int) < (S.length : Int) := by omega
      by_cases hNm : N ≤ 1048576
      · have hNm' : (N : Int) ≤ 1048576 := by omega
        obtain ⟨o, ho⟩ : ∃ o, S[j]? = some o := ⟨S[j], by simp⟩
        have hoS := List.mem_of_getElem? ho
        obtain ⟨b0, off, rfl, c0, c1, ⟨qo, co, c2, hvo, -⟩, c3, c4⟩ := hs.look hB ho
        have H1 := fun (W : World) => objSizeB_in o qo co W (hb.str o hoS) (hb.vals o hoS)
        unfold objV at H1
        have HH : Hid _ := And.intro hall ho
        clear hall ho hvo hoS
        go_wp2_with (first
          | (go_at_call 240; refine (H1 _).mono ?_; clear H1; rintro e w2 ⟨m, rfl, hm1, hm2, hm3, hB2⟩))
        go_roundw
        case rel =>
          refine ⟨j + 1, N + m, by simp, by simp, by omega, by omega, by omega, ?_, hB.trans (hB2.mono hB.size)⟩
          intro hNN
          obtain ⟨hs1, hs2⟩ := HH.out.1 (by omega)
          have := hm3 (by omega)
          refine ⟨by rw [sumL_take HH.out.2]; omega, ?_⟩
          intro i u hi hu
          by_cases hij : i < j
          · have := hs2 i u hij hu; omega
          · have : i = j := by omega
            subst this
            rw [HH.out.2] at hu; cases hu; omega
        case measure => simp [intOf]; omega
      · have hNm' : ¬ ((N : Int) ≤ 1048576) := by omega
        have HH : Hid _ := hall
        clear hall
        go_wp2
        go_ret
        exact ⟨N, rfl, hN, fun h => absurd h hNm, hB⟩
    · have hjn' : ¬ ((j : Int) < (S.length : Int)) := by omega
      have HH : Hid _ := hall
      clear hall
      go_wp2
      go_ret
      refine ⟨N, rfl, hN, fun h => ?_, hB⟩
      obtain ⟨hs1, hs2⟩ := HH.out h
      refine ⟨by rw [List.take_of_length_le (by omega)] at hs1; exact hs1, fun o ho => ?_⟩
      obtain ⟨i, hi⟩ := List.mem_iff_getElem?.1 ho
      exact hs2 i o (by have := (List.getElem?_eq_some_iff.1 hi).1; omega) hi

theorem storeSizeB_in {p : Option Addr} {S : List Om} (c : Nat) (hs : IsSt w p S) (hb : Came S) :
    Calls Tryz.prog 46 #[.slice p S.length c] w fun e w' => ∃ n : Nat, e = .returned (.int .i64 n) ∧ n ≤ 2199023255552 + 140737488355329 + 8796093022208 + 1048576 ∧ (n ≤ 1048576 → S.length + sumL S ≤ n ∧ ∀ o ∈ S, o.s.size ≤ n ∧ o.l.length ≤ n) ∧ Below w.heap.size w w' := by
  have H := objsSizeB_in c hs hb
  go_enter Tryz.func46, Tryz.ntmps46
  go_wp2_with (first
    | (go_at_call 152; refine H.mono ?_; clear H; rintro e w2 ⟨n, rfl, h1, h2, h3⟩))
  go_ret
  exact ⟨n, rfl, h1, h2, h3⟩


set_option maxHeartbeats 1000000 in
theorem beyond11_in {p : Option Addr} {S : List Om} (c : Nat) (hs : IsSt w p S) (hb : Came S) :
    Calls Tryz.prog 8 #[.slice p S.length c] w fun e w' => ∃ b, e = .returned (.bool b) ∧ (b = false → S.length + sumL S ≤ 50000 ∧ ∀ o ∈ S, o.s.size ≤ 50000 ∧ o.l.length ≤ 50000) ∧ Below w.heap.size w w' := by
  have HS := storeSizeB_in c hs hb
  go_enter Tryz.func8, Tryz.ntmps8
  go_wp2_with (first
    | (go_at_call 46; (with_reducible refine HS.mono ?_); clear HS; rintro e w1 ⟨n, rfl, h1, h2, hB⟩; have HH : Hid _ := h2; clear h2))
  go_ret
  refine ⟨_, rfl, fun h => ?_, hB⟩
  have hn : n ≤ 50000 := by simp at h; omega
  obtain ⟨g1, g2⟩ := HH.out (by omega)
  exact ⟨by omega, fun o ho => by have := g2 o ho; omega⟩


end Go.Proofs.YtgokofomoachaaaGreatDoor
