/- The document's numbers, walked. -/
import Derived.Test.YtpbempnenjfjdaaGreatDoorLrRun
import Derived.Test.YtpbempnenjfjdaaGreatDoorLrMath
namespace Go.Proofs.YtpbempnenjfjdaaGreatDoor
set_option linter.unusedVariables false
set_option linter.unusedSimpArgs false
open Go.RowKit

variable {w : World}

theorem pow19 {n : Nat} (h : n ≤ 19) : 10 ^ n ≤ 10000000000000000000 := Nat.le_trans (Nat.pow_le_pow_right (by omega) h) (by decide)

/-- What a number's reading answers. -/
def NRes (R : Option Int) (w : World) (e : Ending) (w' : World) : Prop :=
  ∃ (n : Int) (ok : Bool), e = .returned (.tuple #[.int .i64 n, .bool ok]) ∧ w' = w ∧ (match R with | some v => ok = true ∧ n = v | none => ok = false)

set_option maxRecDepth 20000 in
set_option maxHeartbeats 1000000 in
theorem rnumber_in {c : UInt8} {r : List UInt8} (hc : isD c = true) (hl : (c :: r).length ≤ 65536) (w : World) (R : Option Int) (hR : R = numV (c :: r)) :
    Calls Tryz.prog 87 #[.string (bs (c :: r))] w fun e w' => NRes R w e w' := by
  rw [numV_eq hc] at hR
  have hlen : (c :: r).length = r.length + 1 := by simp
  have HD := rdigit_in
  rw [hlen] at hl hR
  obtain ⟨S, hS⟩ : ∃ S, S = c :: r := ⟨_, rfl⟩
  have hSl : S.length = r.length + 1 := by rw [hS]; simp
  have hS0 : S[0]? = some c := by rw [hS]; simp
  rw [← hS] at hR ⊢
  have hsz : (bs S).size = r.length + 1 := by rw [bs_size, hSl]
  obtain ⟨hj0, hg0⟩ := bs_at hS0
  have hgS : ∀ (j : Nat) (d : UInt8), S[j]? = some d → ∃ hj : j < (bs S).size, (bs S)[j]'hj = d := fun j d h => bs_at h
  have HR : Hid _ := hR
  clear hR hS hS0 hlen
  generalize bs S = sv at *
  by_cases h19 : 19 < r.length + 1
  · have hq : (19 : Int) < (r.length : Int) + 1 := by omega
    clear hgS
    go_enter Tryz.func87, Tryz.ntmps87
    go_wp2
    refine bodyPost_ret (results_tmp2 (by rfl) _ _ _) (by rfl) ?_
    refine ⟨0, false, rfl, rfl, ?_⟩
    rw [HR.out, if_pos (.inl h19)]
  · by_cases h48 : c.toNat = 48 ∧ 1 < r.length + 1
    · have hq : ¬ ((19 : Int) < (r.length : Int) + 1) := by omega
      have hq1 : ((c.toNat : Nat) : Int) = 48 := by omega
      have hq2 : (1 : Int) < (r.length : Int) + 1 := by omega
      clear hgS
      go_enter Tryz.func87, Tryz.ntmps87
      go_wp2
      refine bodyPost_ret (results_tmp2 (by rfl) _ _ _) (by rfl) ?_
      refine ⟨0, false, rfl, rfl, ?_⟩
      rw [HR.out, if_pos (.inr h48)]
    · have hor : ¬ (((c.toNat : Nat) : Int) = 48) ∨ (((c.toNat : Nat) : Int) = 48 ∧ ¬ ((1 : Int) < (r.length : Int) + 1)) := by omega
      have hRR := HR.out
      rw [if_neg (fun h => h.elim h19 h48)] at hRR
      have HR2 : Hid _ := hRR
      have hq : ¬ ((19 : Int) < (r.length : Int) + 1) := by omega
      clear HR hRR h48
      go_enter Tryz.func87, Tryz.ntmps87
      rcases hor with hq1 | ⟨hq1, hq2⟩
      all_goals
        go_wp2
        go_loopw [4, 5] (fun nv k wr => ∃ (j m : Nat), k = .int .i64 j ∧ nv = .int .u64 m ∧ j ≤ S.length ∧ dval 0 S = dval m (S.drop j) ∧ m < 10 ^ j ∧ wr = w) (fun _ k _ => S.length - (intOf k).toNat)
        case atStart => exact ⟨0, 0, rfl, rfl, by omega, by simp, by simp, rfl⟩
        case round =>
          obtain ⟨j, m, rfl, rfl, hj, hd, hm, rfl⟩ := hrel
          by_cases hjl : j < S.length
          · have hjl' : (j : Int) < (r.length : Int) + 1 := by omega
            have hdr : S.drop j = S[j] :: S.drop (j + 1) := List.drop_eq_getElem_cons hjl
            obtain ⟨hjs, hcj⟩ := hgS j S[j] (by simp)
            rw [hdr, dval] at hd
            have hp := pow19 (n := j + 1) (by omega)
            have hpp : 10 ^ (j + 1) = 10 * 10 ^ j := by rw [Nat.pow_succ, Nat.mul_comm]
            have hmb : m < 1000000000000000000 := by omega
            have HE : Hid _ := And.intro hd (And.intro hpp hm)
            clear hd hdr hp hpp hm hgS
            generalize S[j] = d at *
            have hdl := d.toNat_lt
            cases h1 : isD d with
            | true =>
              have HD1 := HD d
              rw [h1] at HD1
              have h57 : 48 ≤ d.toNat ∧ d.toNat ≤ 57 := by simpa [isD] using h1
              go_wp2_with (first
                | (go_at_call 85; (with_reducible refine (HD1 _).mono ?_); rintro e w2 ⟨rfl, rfl⟩))
              go_roundw
              case rel =>
                obtain ⟨hd, hpp, hm⟩ := HE.out
                rw [h1, if_pos rfl] at hd
                refine ⟨j + 1, 10 * m + (d.toNat - 48), by simp, ?_, by omega, hd, by omega, by first | rfl | trivial⟩
                congr 1
                omega
              case measure => simp [intOf]; omega
            | false =>
              have HD1 := HD d
              rw [h1] at HD1
              go_wp2_with (first
                | (go_at_call 85; (with_reducible refine (HD1 _).mono ?_); rintro e w2 ⟨rfl, rfl⟩))
              (try simp only [Exit.inBlock, Exit.then])
              refine bodyPost_ret (results_tmp2 (by rfl) _ _ _) (by rfl) ?_
              refine ⟨0, false, rfl, rfl, ?_⟩
              have hd := HE.out.1
              rw [h1, if_neg (by simp)] at hd
              rw [HR2.out, hd]
              rfl
          · have hjl' : ¬ ((j : Int) < (r.length : Int) + 1) := by omega
            rw [List.drop_eq_nil_of_le (by omega), dval] at hd
            have HE : Hid _ := hd
            clear hd hgS hm
            by_cases hb : m ≤ 9223372036854775807
            · have hb' : (m : Int) ≤ 9223372036854775807 := by omega
              go_wp2
              refine bodyPost_ret (results_tmp2 (by rfl) _ _ _) (by rfl) ?_
              refine ⟨m, true, rfl, rfl, ?_⟩
              rw [HR2.out, HE.out]
              simp [hb]
            · have hb' : ¬ ((m : Int) ≤ 9223372036854775807) := by omega
              go_wp2
              refine bodyPost_ret (results_tmp2 (by rfl) _ _ _) (by rfl) ?_
              refine ⟨_, false, rfl, rfl, ?_⟩
              rw [HR2.out, HE.out]
              simp [hb]

end Go.Proofs.YtpbempnenjfjdaaGreatDoor
