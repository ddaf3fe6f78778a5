/- ListingCut: the walk. -/
import Derived.Test.YtnekcomkochmjaaGreatDoorLpLawBack
namespace Go.Proofs.YtnekcomkochmjaaGreatDoor
set_option linter.unusedVariables false
set_option linter.unusedSimpArgs false
open Go.RowKit

namespace Lp
open Lk

variable {w : World}

theorem count_step {S : List UInt8} {j : Nat} {x : UInt8} (h : S[j]? = some x) : (S.take (j + 1)).count 10 = (S.take j).count 10 + (if x = 10 then 1 else 0) := by
  rw [List.take_add_one, h, List.count_append]
  by_cases hx : x = 10
  · subst hx; simp
  · simp [hx, List.count_cons]

theorem mem_step {S : List UInt8} {j : Nat} {x : UInt8} (h : S[j]? = some x) (hx : ¬ x = 10) (hn : 10 ∉ S.take j) : 10 ∉ S.take (j + 1) := by
  rw [List.take_add_one, h]
  simp [hn, Ne.symm hx]

theorem eq_ten {c : UInt8} : c = 10 ↔ c.toNat = 10 := ⟨fun h => by rw [h]; rfl, fun h => UInt8.toNat_inj.1 h⟩

set_option maxRecDepth 20000 in
set_option maxHeartbeats 8000000 in
theorem listingCut_walk (p : Option Addr) (l : List Fm) (c : Nat) (m : List UInt8) (w : World) (hs : IsFns w p l) (hlen : l.length ≤ 140737488355328) (hc : ∀ f ∈ l, CameF f ∧ FitF f ∧ NumF f) (hml : m.length ≤ 140737488355328)
    (he : ErrT w) (tab : Tab w) (hw : WordsT w) (ht : RowsT w) :
    Calls Tryz.prog 6 #[.slice p l.length c, .string (bs m)] w fun e w' => e = .returned (.bool true) ∧ Below w.heap.size w w' := by
  have H0 := fun (W : World) (h : Below w.heap.size w W) => alive_in (he.below h) (tab.below h) (hw.below h) (ht.below h)
  have H1 := fun (W : World) (h : Below w.heap.size w W) => great10_in c (IsFns.below hs h) hlen (fun f hf => (hc f hf).1)
  have HFIT : Hid (∀ f ∈ l, FitF f) := fun f hf => (hc f hf).2.1
  have HNUM : Hid (∀ f ∈ l, NumF f) := fun f hf => (hc f hf).2.2
  have HS : Hid (IsFns w p l) := hs
  have HE : Hid (ErrT w) := he
  have HT : Hid (RowsT w) := ht
  have HTAB : Hid (Tab w) := tab
  have HW : Hid (WordsT w) := hw
  have msz := bs_size m
  clear hs hc ht tab hw he
  go_enter Tryz.func6, Tryz.ntmps6
  go_wp2_with (first
    | (go_at_call 7; (with_reducible refine (H0 _ (Below.refl _ _)).mono ?_); rintro e w1 ⟨rfl, hB1⟩)
    | (go_at_call 8; refine (H1 _ hB1).mono ?_; clear H1; rintro e w2 ⟨b, rfl, hsm0, hB2⟩; have k2 := hB1.trans (hB2.mono hB1.size); refine halt_here ?_))
  unfold Halted
  cases b with
  | true =>
    clear hsm0
    go_wp2_with (first
      | (go_at_call 7; (with_reducible refine (H0 _ k2).mono ?_); rintro e w3 ⟨rfl, hB3⟩))
    go_ret
    exact ⟨rfl, k2.trans (hB3.mono k2.size)⟩
  | false =>
    obtain ⟨hsm, h6⟩ := hsm0 rfl
    have hroom := room_of h6
    clear hsm0 h6 H0
    have H3 := fun (W : World) (h : Below w.heap.size w W) => Lk.text_in c (IsFns.below HS.out h) hsm HFIT.out HNUM.out (by omega) (HT.out.below h) (Tab.below HTAB.out h) (HW.out.below h)
    by_cases h0 : (checkV l).2.2 = 0
    · rw [textV_ok h0] at H3
      simp only [show ((0 : Nat) : Int) = 0 from rfl] at H3
      obtain ⟨C1, C2, C3⟩ := parseV_cut h0 HNUM.out
      have C4 := parseV_text h0 HNUM.out
      have C5 := fun t => parseV_more h0 HNUM.out (t := t)
      have C6 := count_text l
      clear h0 hroom hsm
      obtain ⟨S, hS⟩ : ∃ S, textP l = S := ⟨_, rfl⟩
      obtain ⟨N, hN⟩ : ∃ N, (saidF l).length = N := ⟨_, rfl⟩
      rw [hS] at H3 C1 C3 C4 C5 C6
      rw [hN] at C1 C2 C5 C6
      clear hS hN
      obtain ⟨M, rfl⟩ : ∃ M, N = M + 1 := ⟨N - 1, by omega⟩
      rw [Nat.add_sub_cancel] at C1
      clear C2
      have ssz := bs_size S
      by_cases hS1 : 100000 < S.length
      · have z1 : (100000 : Int) < ((bs S).size : Int) := by omega
        clear C1 C3 C4 C5 C6 hS1 ssz
        go_wp2_with (first
          | (go_at_call 9; (with_reducible refine (H3 _ k2).mono ?_); clear H3; rintro e w3 ⟨rfl, hB3⟩; have k3 := k2.trans (hB3.mono k2.size)))
        go_ret
        exact ⟨rfl, k3⟩
      · by_cases hm1 : 1000 < m.length
        · have z1 : ¬ ((100000 : Int) < ((bs S).size : Int)) := by omega
          have z2 : (1000 : Int) < ((bs m).size : Int) := by omega
          clear C1 C3 C4 C5 C6 hS1 ssz
          go_wp2_with (first
            | (go_at_call 9; (with_reducible refine (H3 _ k2).mono ?_); clear H3; rintro e w3 ⟨rfl, hB3⟩; have k3 := k2.trans (hB3.mono k2.size)))
          go_ret
          exact ⟨rfl, k3⟩
        · have z1 : ¬ ((100000 : Int) < ((bs S).size : Int)) := by omega
          have z2 : ¬ ((1000 : Int) < ((bs m).size : Int)) := by omega
          have P1 := fun (W : World) (h : Below w.heap.size w W) => parse_in (w := W) (S.take (S.length - 1)) (by rw [List.length_take]; omega) (Short.of_len (by rw [List.length_take]; omega)) (HE.out.below h) (Tab.below HTAB.out h) (HW.out.below h) (HT.out.below h)
          have P2 := fun (W : World) (h : Below w.heap.size w W) => parse_in (w := W) (S ++ m) (by rw [List.length_append]; omega) (Short.of_len (by rw [List.length_append]; omega)) (HE.out.below h) (Tab.below HTAB.out h) (HW.out.below h) (HT.out.below h)
          rw [C1] at P1
          have hup := bs_upto S (S.length - 1)
          obtain ⟨K, hK⟩ : ∃ K, S.length = K + 1 := ⟨S.length - 1, by omega⟩
          have hK1 : S.length - 1 = K := by omega
          rw [hK1] at hup P1
          obtain ⟨T, hT⟩ : ∃ T, S.take K = T := ⟨_, rfl⟩
          rw [hT] at hup P1
          have ssk : (bs S).size = K + 1 := by omega
          have HK : Hid (S.length = K + 1 ∧ (bs S).size = K + 1) := ⟨hK, ssk⟩
          clear hT hK1 hK ssk
          have happ := bs_app S m
          have zz : ¬ (9223372036854775807 < (bs S).size + (bs m).size) := by omega
          have HC : Hid _ := And.intro C4 (And.intro C5 C6)
          clear C1 C4 C5 C6
          go_wp2_with (first
            | (go_at_call 9; (with_reducible refine (H3 _ k2).mono ?_); clear H3; rintro e w3 ⟨rfl, hB3⟩; have k3 := k2.trans (hB3.mono k2.size)))
          go_loopw [7, 8] (fun ln k wr => ∃ j : Nat, k = .int .i64 j ∧ ln = .int .i64 ((S.take j).count 10 : Nat) ∧ j ≤ S.length ∧ wr = w3) (fun _ k _ => S.length - (intOf k).toNat)
          case atStart => exact ⟨0, rfl, by simp, by omega, rfl⟩
          case round =>
            obtain ⟨j, rfl, rfl, hj, rfl⟩ := hrel
            have hwr : IntKind.i64.wrap (((S.take j).count 10 : Nat) + 1 : Int) = ((S.take j).count 10 : Nat) + 1 := by
              have := List.count_le_length (a := (10 : UInt8)) (l := S.take j)
              have h2 := List.length_take_le j S
              simp [IntKind.wrap, IntKind.bits, IntKind.signed]; omega
            by_cases hjn : j < S.length
            · obtain ⟨x, hx⟩ : ∃ x, S[j]? = some x := ⟨S[j], by simp⟩
              have hjs : j < (bs S).size := by omega
              have hg : (bs S)[j]'hjs = x := by have := bs_get (l := S) hjs; rw [hx] at this; exact (Option.some.inj this).symm
              have hjn' : (j : Int) < ((bs S).size : Int) := by omega
              have hst := count_step hx
              by_cases h10 : x = 10
              · have hx1 : (x.toNat : Int) = 10 := by rw [h10]; rfl
                rw [if_pos h10] at hst
                have HST : Hid _ := hst
                clear hst hx h10
                go_wp2
                go_roundw
                case rel => exact ⟨j + 1, by simp, by simp [HST.out], by omega, trivial⟩
                case measure => simp [intOf]; omega
              · have hx1 : ¬ ((x.toNat : Int) = 10) := fun e => h10 (eq_ten.2 (by omega))
                rw [if_neg h10, Nat.add_zero] at hst
                have HST : Hid _ := hst
                clear hst hx h10
                go_wp2
                go_roundw
                case rel => exact ⟨j + 1, by simp, by simp [HST.out], by omega, trivial⟩
                case measure => simp [intOf]; omega
            · have hjn' : ¬ ((j : Int) < ((bs S).size : Int)) := by omega
              have htk : S.take j = S := List.take_of_length_le (by omega)
              rw [htk, HC.out.2.2]
              clear htk hwr
              obtain ⟨hK, ssk⟩ := HK.out
              have ML : M + 1 ≤ S.length := by have := List.count_le_length (a := (10 : UInt8)) (l := S); have h2 := HC.out.2.2; omega
              have q1 : IntKind.i64.wrap (((bs S).size : Int) - 1) = K := by rw [ssk]; simp [IntKind.wrap, IntKind.bits, IntKind.signed]; omega
              obtain ⟨L, hL⟩ : ∃ L : Int, ((M + 1 : Nat) : Int) = L := ⟨_, rfl⟩
              rw [hL]
              have q2 : IntKind.i64.wrap (L - 1) = M := by rw [← hL]; simp [IntKind.wrap, IntKind.bits, IntKind.signed]; omega
              have hll : (M : Int) + 1 = L := by rw [← hL]; simp
              have HLL : Hid _ := hll
              clear hL hll
              have q3 : (K : Int) ≤ ((bs S).size : Int) := by omega
              have q4 : (0 : Int) ≤ (K : Int) := by omega
              have HUP : Hid _ := hup
              clear ML hK hjn hj ssz ssk hup
              go_wp2_with (first
                | (go_at_call 11; rw [HUP.out]; (with_reducible refine (P1 _ k3).mono ?_); clear P1; rintro e w4 ⟨p1, d1, ts1, rfl, -, -, hB4⟩; have k4 := k3.trans (hB4.mono k3.size)))
              go_loopw [12] (fun k wr => ∃ j : Nat, k = .int .i64 j ∧ j ≤ m.length ∧ 10 ∉ m.take j ∧ wr = w4) (fun k _ => m.length - (intOf k).toNat)
              case atStart => exact ⟨0, rfl, by omega, by simp, rfl⟩
              case round =>
                obtain ⟨j, rfl, hj, hno, rfl⟩ := hrel
                by_cases hjn : j < m.length
                · obtain ⟨x, hx⟩ : ∃ x, m[j]? = some x := ⟨m[j], by simp⟩
                  have hjs : j < (bs m).size := by omega
                  have hg : (bs m)[j]'hjs = x := by have := bs_get (l := m) hjs; rw [hx] at this; exact (Option.some.inj this).symm
                  have hjn' : (j : Int) < ((bs m).size : Int) := by omega
                  by_cases h10 : x = 10
                  · have hx1 : (x.toNat : Int) = 10 := by rw [h10]; rfl
                    clear hno hx h10
                    go_wp2
                    go_ret
                    exact ⟨rfl, k4⟩
                  · have hx1 : ¬ ((x.toNat : Int) = 10) := fun e => h10 (eq_ten.2 (by omega))
                    have HNO : Hid _ := mem_step hx h10 hno
                    clear hno hx h10
                    go_wp2
                    go_roundw
                    case rel => exact ⟨j + 1, by simp, by omega, HNO.out, trivial⟩
                    case measure => simp [intOf]; omega
                · have hjn' : ¬ ((j : Int) < ((bs m).size : Int)) := by omega
                  have htk : m.take j = m := List.take_of_length_le (by omega)
                  rw [htk] at hno
                  clear htk
                  by_cases hm0 : m = []
                  · subst hm0
                    have e6 : ((bs ([] : List UInt8)).toList == ([] : List UInt8)) = true := by rw [bs_toList]; rfl
                    rw [List.append_nil] at P2 happ
                    rw [HC.out.1] at P2
                    clear hno
                    go_wp2_with (first
                      | (go_at_call 11; (with_reducible refine (P2 _ k4).mono ?_); clear P2; rintro e w5 ⟨p2, d2, ts2, rfl, -, -, hB5⟩; have k5 := k4.trans (hB5.mono k4.size)))
                    go_ret
                    exact ⟨rfl, k5⟩
                  · have e6 : ((bs m).toList == ([] : List UInt8)) = false := by rw [bs_toList]; cases m with | nil => exact absurd rfl hm0 | cons a b => rfl
                    rw [HC.out.2.1 m hm0 hno] at P2
                    have q5 := HLL.out
                    clear hno hm0
                    go_wp2_with (first
                      | (go_at_call 11; (with_reducible refine (P2 _ k4).mono ?_); clear P2; rintro e w5 ⟨p2, d2, ts2, rfl, -, -, hB5⟩; have k5 := k4.trans (hB5.mono k4.size)))
                    go_ret
                    exact ⟨rfl, k5⟩
    · rw [textV_bad h0] at H3
      simp only [show ((8 : Nat) : Int) = 8 from rfl] at H3
      clear h0 hroom hsm
      go_wp2_with (first
        | (go_at_call 9; (with_reducible refine (H3 _ k2).mono ?_); clear H3; rintro e w3 ⟨rfl, hB3⟩; have k3 := k2.trans (hB3.mono k2.size)))
      go_ret
      exact ⟨rfl, k3⟩

end Lp

end Go.Proofs.YtnekcomkochmjaaGreatDoor
