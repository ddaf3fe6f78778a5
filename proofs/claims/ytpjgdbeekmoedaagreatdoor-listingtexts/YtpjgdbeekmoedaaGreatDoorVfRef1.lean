/- The document's Takes, ends (gearboxref09). -/
import Derived.Test.YtpjgdbeekmoedaaGreatDoorVfMath
import Derived.Test.YtpjgdbeekmoedaaGreatDoorVfTwin
namespace Go.Proofs.YtpjgdbeekmoedaaGreatDoor
set_option linter.unusedVariables false
set_option linter.unusedSimpArgs false
open Go.RowKit

variable {w : World}

set_option maxRecDepth 20000 in
set_option maxHeartbeats 8000000 in
theorem takes_in (i : In) (hi : i.op < 256) (ha : (i.op = 22 ∨ i.op = 23 ∨ i.op = 27) → 0 ≤ i.a ∧ i.a ≤ 256) (w : World) :
    Calls Tryz.prog 112 #[.agg #[.int .u8 i.op, .int .i64 i.a]] w fun e w' => e = .returned (.tuple #[.int .i64 (takesP i), .int .i64 (leavesP i)]) ∧ Below w.heap.size w w' := by
  obtain ⟨k, a⟩ := i
  obtain ⟨t, ht⟩ : ∃ t, takesP ⟨k, a⟩ = t := ⟨_, rfl⟩
  obtain ⟨l, hl⟩ : ∃ l, leavesP ⟨k, a⟩ = l := ⟨_, rfl⟩
  rw [ht, hl]
  simp only at hi ha ⊢
  have hk : k = 0 ∨ k = 1 ∨ k = 2 ∨ k = 3 ∨ k = 4 ∨ k = 5 ∨ k = 6 ∨ k = 7 ∨ k = 8 ∨ k = 9 ∨ k = 10 ∨ k = 11 ∨ k = 12 ∨ k = 13 ∨ k = 14 ∨ k = 15 ∨ k = 16 ∨ k = 17 ∨ k = 18 ∨ k = 19 ∨ k = 20 ∨ k = 21 ∨ k = 22 ∨ k = 23 ∨ k = 24 ∨ k = 25 ∨ k = 26 ∨ k = 27 ∨ k = 28 ∨ k = 29 ∨ k = 30 ∨ 31 ≤ k := by omega
  rcases hk with rfl | rfl | rfl | rfl | rfl | rfl | rfl | rfl | rfl | rfl | rfl | rfl | rfl | rfl | rfl | rfl | rfl | rfl | rfl | rfl | rfl | rfl | rfl | rfl | rfl | rfl | rfl | rfl | rfl | rfl | rfl | hk
  case inr.inr.inr.inr.inr.inr.inr.inr.inr.inr.inr.inr.inr.inr.inr.inr.inr.inr.inr.inr.inr.inr.inr.inr.inr.inr.inr.inr.inr.inr.inr =>
    have e1 : takesP ⟨k, a⟩ = 0 := by
      unfold takesP
      repeat rw [if_neg (by simp only; omega)]
    have e2 : leavesP ⟨k, a⟩ = 0 := by
      unfold leavesP
      repeat rw [if_neg (by simp only; omega)]
    rw [e1] at ht
    rw [e2] at hl
    subst ht hl
    have n1 : ((k : Int) == 1) = false := by simp; omega
    have n2 : ((k : Int) == 2) = false := by simp; omega
    have n3 : ((k : Int) == 3) = false := by simp; omega
    have n4 : ((k : Int) == 4) = false := by simp; omega
    have n5 : ((k : Int) == 5) = false := by simp; omega
    have n6 : ((k : Int) == 6) = false := by simp; omega
    have n7 : ((k : Int) == 7) = false := by simp; omega
    have n8 : ((k : Int) == 8) = false := by simp; omega
    have n9 : ((k : Int) == 9) = false := by simp; omega
    have n10 : ((k : Int) == 10) = false := by simp; omega
    have n11 : ((k : Int) == 11) = false := by simp; omega
    have n12 : ((k : Int) == 12) = false := by simp; omega
    have n13 : ((k : Int) == 13) = false := by simp; omega
    have n14 : ((k : Int) == 14) = false := by simp; omega
    have n15 : ((k : Int) == 15) = false := by simp; omega
    have n16 : ((k : Int) == 16) = false := by simp; omega
    have n17 : ((k : Int) == 17) = false := by simp; omega
    have n18 : ((k : Int) == 18) = false := by simp; omega
    have n19 : ((k : Int) == 19) = false := by simp; omega
    have n20 : ((k : Int) == 20) = false := by simp; omega
    have n21 : ((k : Int) == 21) = false := by simp; omega
    have n22 : ((k : Int) == 22) = false := by simp; omega
    have n23 : ((k : Int) == 23) = false := by simp; omega
    have n24 : ((k : Int) == 24) = false := by simp; omega
    have n25 : ((k : Int) == 25) = false := by simp; omega
    have n26 : ((k : Int) == 26) = false := by simp; omega
    have n27 : ((k : Int) == 27) = false := by simp; omega
    have n28 : ((k : Int) == 28) = false := by simp; omega
    have n29 : ((k : Int) == 29) = false := by simp; omega
    have n30 : ((k : Int) == 30) = false := by simp; omega
    clear e1 e2 ha
    go_enter Tryz.func112, Tryz.ntmps112
    go_wp2
    go_ret2
    exact ⟨rfl, below1 _ _⟩
  all_goals
    simp [takesP] at ht
    simp [leavesP] at hl
    subst ht hl
    try simp at ha
    clear hi
    go_enter Tryz.func112, Tryz.ntmps112
    go_wp2
    go_ret2
    exact ⟨rfl, below1 _ _⟩

set_option maxHeartbeats 2000000 in
theorem ends_in (k : Nat) (hk : k < 256) (w : World) :
    Calls Tryz.prog 196 #[.int .u8 k] w fun e w' => e = .returned (.bool (endsP k)) ∧ w' = w := by
  by_cases h1 : k = 28
  · subst h1
    go_enter Tryz.func196, Tryz.ntmps196
    go_wp2
    go_ret
    exact ⟨rfl, rfl⟩
  · have n1 : ((k : Int) == 28) = false := by simp; omega
    by_cases h2 : k = 29
    · subst h2
      go_enter Tryz.func196, Tryz.ntmps196
      go_wp2
      go_ret
      exact ⟨rfl, rfl⟩
    · have n2 : ((k : Int) == 29) = false := by simp; omega
      by_cases h3 : k = 21
      · subst h3
        go_enter Tryz.func196, Tryz.ntmps196
        go_wp2
        go_ret
        exact ⟨rfl, rfl⟩
      · have n3 : ((k : Int) == 21) = false := by simp; omega
        have e : endsP k = false := by unfold endsP; simp; omega
        rw [e]
        clear e h1 h2 h3
        go_enter Tryz.func196, Tryz.ntmps196
        go_wp2
        go_ret
        exact ⟨rfl, rfl⟩

end Go.Proofs.YtpjgdbeekmoedaaGreatDoor
