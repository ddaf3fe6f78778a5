/- The document's keys. -/
import Derived.Test.YtppjahnahomkeaaShSame
namespace Go.Proofs.Ytppjahnahomkeaa
set_option linter.unusedVariables false
set_option linter.unusedSimpArgs false
open Go.RowKit

variable {w : World}

set_option maxRecDepth 20000 in
set_option maxHeartbeats 2000000 in
theorem rKeys_in {p q : Option Addr} {S : List Om} {l : List Vl} (c cq : Nat) (hs : IsSt w p S) (hl : S.length ≤ 1048576) (hv : Vals w q l) (hll : l.length ≤ 1048576) (b : Bool) (hb : b = true ↔ keysP S l) :
    Calls Try.prog 35 #[.slice p S.length c, .slice q l.length cq] w fun e w' => e = .returned (.bool b) ∧ Below w.heap.size w w' := by
  go_enter Try.func35, Try.ntmps35
  go_wp2
  go_loopw [5] (fun k wr => ∃ i I : Nat, k = .int .i64 (I : Int) ∧ Hid (I = 2 * i) ∧ I ≤ l.length + 1 ∧ (∀ i' j a b, i' < i → l[2 * i']? = some a → l[2 * j]? = some b → j < i' → ¬ sameP S a b) ∧ Below w.heap.size w wr) (fun k _ => l.length + 1 - (intOf k).toNat)
  case atStart => exact ⟨0, 0, rfl, rfl, by omega, (fun i' j a b h => by omega), Below.refl _ _⟩
  case round =>
    rename World => wo
    obtain ⟨i, I, rfl, HI, hi, hh, hBo⟩ := hrel
    have HH : Hid _ := hh
    clear hh
    by_cases hin : I < l.length
    · have hin' : (I : Int) < (l.length : Int) := by omega
      obtain ⟨x, hx⟩ : ∃ v, l[I]? = some v := ⟨l[I], by simp⟩
      have HX : Hid _ := hx
      clear hx
      go_wp2
      go_loopw [6] (fun k wr => ∃ j J : Nat, k = .int .i64 (J : Int) ∧ Hid (J = 2 * j) ∧ Hid (j ≤ i) ∧ J ≤ I ∧ (∀ j' b, j' < j → l[2 * j']? = some b → ¬ sameP S x b) ∧ Below w.heap.size w wr) (fun k _ => l.length + 1 - (intOf k).toNat)
      case atStart => exact ⟨0, 0, rfl, rfl, hid (by omega), by omega, (fun j' b h => by omega), hBo⟩
      case round =>
        obtain ⟨j, J, rfl, HJJ, HJI, hj, hhj, hB⟩ := hrel
        have HJ : Hid _ := hhj
        clear hhj
        by_cases hjn : J < I
        · have hjn' : (J : Int) < (I : Int) := by omega
          have hjl : (J : Int) < (l.length : Int) := by omega
          obtain ⟨y, hy⟩ : ∃ v, l[J]? = some v := ⟨l[J]'(by omega), by simp⟩
          obtain ⟨b0, off, rfl, c0, c1⟩ := (hv.below hB) I x HX.out
          obtain ⟨b0', off', ep, c2, c3⟩ := (hv.below hB) J y hy
          simp at ep
          obtain ⟨rfl, rfl⟩ := ep
          have HY : Hid _ := hy
          clear hy
          obtain ⟨b1, hb1⟩ := b_of (sameP S x y)
          have H := fun (W : World) (h : Below w.heap.size w W) => rSame_in c (hs.below h) hl x y b1 hb1
          cases b1 with
          | true =>
            have hbf := b_false hb (fun h => h i j x y (by rw [← HI.out]; exact HX.out) (by rw [← HJJ.out]; exact HY.out) (by have := HI.out; have := HJJ.out; omega) (hb1.1 rfl))
            subst hbf
            clear hb hb1
            go_wp2
            go_region_with
              ((go_at_call 39; refine (H _ (below_drew hB)).mono ?_; rintro e w1 ⟨rfl, hB1⟩))
            all_goals
              go_wp2
              go_ret
              exact ⟨rfl, (below_drew hB).trans (hB1.mono hB.size)⟩
          | false =>
            have hns : ¬ sameP S x y := fun h => by have := hb1.2 h; cases this
            clear hb1
            go_wp2
            go_region_with
              ((go_at_call 39; refine (H _ (below_drew hB)).mono ?_; rintro e w1 ⟨rfl, hB1⟩))
            all_goals
              go_wp2
              go_roundw
              case rel =>
                have hI := HI.out
                have hJ := HJJ.out
                refine ⟨j + 1, J + 2, by simp, hid (by omega), hid (by omega), by omega, ?_, (below_drew hB).trans (hB1.mono hB.size)⟩
                intro j' y' hj' hy'
                by_cases e : j' < j
                · exact HJ.out j' y' e hy'
                · have : j' = j := by omega
                  subst this
                  rw [← hJ, HY.out] at hy'; cases hy'
                  exact hns
              case measure => simp [intOf]; omega
        · have hjn' : ¬ ((J : Int) < (I : Int)) := by omega
          go_wp2
          go_roundw
          case rel =>
            have hI := HI.out
            have hJ := HJJ.out
            have hJI := HJI.out
            refine ⟨i + 1, I + 2, by simp, hid (by omega), by omega, ?_, hB⟩
            intro i' j' a' b' hi' ha hb' hlt
            by_cases e : i' < i
            · exact HH.out i' j' a' b' e ha hb' hlt
            · have : i' = i := by omega
              subst this
              rw [← hI, HX.out] at ha; cases ha
              exact HJ.out j' b' (by omega) hb'
          case measure => simp [intOf]; omega
    · have hin' : ¬ ((I : Int) < (l.length : Int)) := by omega
      have hbt := b_true hb (fun i' j' a' b' ha hb' hlt => HH.out i' j' a' b' (by have := (List.getElem?_eq_some_iff.1 ha).1; have := HI.out; omega) ha hb' hlt)
      subst hbt
      clear hb
      go_wp2
      go_ret
      exact ⟨rfl, hBo⟩

end Go.Proofs.Ytppjahnahomkeaa
