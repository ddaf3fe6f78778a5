/- The chapter's heap, and what is told of it. -/
import Derived.Test.YtampilfebmfhaaaGreatDoorGcCollect
namespace Go.Proofs.YtampilfebmfhaaaGreatDoor
set_option linter.unusedVariables false
set_option linter.unusedSimpArgs false
open Go.RowKit

variable {w : World}

set_option maxRecDepth 20000 in
set_option maxHeartbeats 1000000 in
theorem same_vals {n c1 c2 : Nat} {p1 p2 : Option Addr} {vs : List Vl} (hL : n = vs.length) (hn : n ≤ 1000000) (h1 : Vals w p1 vs) (h2 : Vals w p2 vs) :
    Calls Tryz.prog 16 #[.slice p1 n c1, .slice p2 n c2] w fun e w' => e = .returned (.bool true) ∧ Below w.heap.size w w' := by
  have HL : Hid _ := hL
  clear hL
  go_enter Tryz.func16, Tryz.ntmps16
  go_wp2
  go_loopw [5] (fun k wr => ∃ j : Nat, k = .int .i64 j ∧ j ≤ n ∧ Below w.heap.size w wr) (fun k _ => n - (intOf k).toNat)
  case atStart => exact ⟨0, rfl, by omega, Below.refl _ _⟩
  case round =>
    obtain ⟨j, rfl, hj, hB⟩ := hrel
    by_cases hjn : j < n
    · obtain ⟨v, hvj⟩ : ∃ v, vs[j]? = some v := ⟨vs[j]'(by rw [← HL.out]; exact hjn), by simp⟩
      obtain ⟨b1, o1, rfl, c0, c1⟩ := (h1.below hB) j v hvj
      obtain ⟨b2, o2, rfl, d0, d1⟩ := (h2.below hB) j v hvj
      have hjn' : (j : Int) < (n : Int) := by omega
      clear hvj h1 h2
      go_wp2
      go_quiet (fail)
      go_wp2
      go_roundw
      case rel => exact ⟨j + 1, by simp, by omega, below_drewN' hB _⟩
      case measure => simp [intOf]; omega
    · have hq : ¬ ((j : Int) < (n : Int)) := by omega
      clear h1 h2
      go_wp2
      go_ret
      exact ⟨rfl, hB⟩

/-- Values in a block. -/
theorem vals_block {B : Nat} {t : TypeId} {fr : Nat × Nat} {vs : List Vl} (h : w.heap[B]? = some (.cells (vcells vs).toArray t fr)) : Vals w (some ⟨B, 0, none⟩) vs := by
  intro j v hj
  obtain ⟨h1, h2⟩ := vcells_get vs j v hj
  refine ⟨B, 0, rfl, ?_, ?_⟩
  · simp only [World.cell?, h]; simpa using h1
  · simp only [World.cell?, h]; simpa using h2

/-- Places in a block. -/
theorem row_block {B e : Nat} {xs : List Value} (h : w.heap[B]? = some (.cells xs.toArray e (0, 0))) (hl : xs.length ≤ 1048576) : w.ownsRow 0 e 1 (.slice (some ⟨B, 0, none⟩) xs.length xs.length) xs.length xs :=
  ⟨by simp, .inr ⟨B, xs.length, xs.toArray, rfl, Nat.zero_le _, h, Nat.le_refl _, by unfold maxLen; omega, by simp, by simp⟩⟩

def exM : List Ob := [⟨0, 3, [0, 0]⟩, ⟨3, 8, [0, 0, 7, 11]⟩, ⟨8, 4, [2, 4]⟩, ⟨11, 7, [4, 8]⟩, ⟨14, 3, [0]⟩]

end Go.Proofs.YtampilfebmfhaaaGreatDoor
