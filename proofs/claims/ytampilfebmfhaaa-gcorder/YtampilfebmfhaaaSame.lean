/- A row's place and cells. -/
import Derived.Test.YtampilfebmfhaaaStay
import Derived.Test.YtampilfebmfhaaaAsked
namespace Go.Proofs.Ytampilfebmfhaaa
open Go.RowKit

/-- A row's place, where it is not empty. -/
theorem row_where {w : World} {base e n c : Nat} {p : Option Addr} {xs : List Value} (h : w.ownsRow base e 1 (.slice p n c) n xs) (hn : 0 < n) : ∃ g, p = some ⟨g, 0, none⟩ := by
  obtain ⟨g, c', e1, _⟩ := IsAr.row_some h hn
  simp at e1
  exact ⟨g, e1.1⟩

theorem row_cell {w : World} {base e n c g j : Nat} {u : Value} {xs : List Value} (h : w.ownsRow base e 1 (.slice (some ⟨g, 0, none⟩) n c) n xs) (hj : xs[j]? = some u) (hn : j < n) : w.cell? ⟨g, j, none⟩ = some u := by
  rw [h.cellAt _ (by omega)]; exact hj

end Go.Proofs.Ytampilfebmfhaaa

namespace Go.Proofs.Ytampilfebmfhaaa
open Go.RowKit

set_option maxRecDepth 20000 in
set_option maxHeartbeats 1000000 in
theorem same_places {w : World} {b1 b2 n c1 c2 : Nat} {p1 p2 : Option Addr} {L : List Nat} (hL : n = L.length) (hn : n ≤ 1048576) (h1 : w.ownsRow b1 2 1 (.slice p1 n c1) n (L.map pv)) (h2 : w.ownsRow b2 2 1 (.slice p2 n c2) n (L.map pv)) :
    Calls Try.prog 10 #[.slice p1 n c1, .slice p2 n c2] w fun e w' => e = .returned (.bool true) ∧ Below w.heap.size w w' := by
  have HL : Hid _ := hL
  clear hL
  go_enter Try.func10, Try.ntmps10
  go_wp2
  go_loopw [5] (fun k wr => ∃ j : Nat, k = .int .i64 j ∧ j ≤ n ∧ Below w.heap.size w wr) (fun k _ => n - (intOf k).toNat)
  case atStart => exact ⟨0, rfl, by omega, Below.refl _ _⟩
  case round =>
    obtain ⟨j, rfl, hj, hB⟩ := hrel
    by_cases hjn : j < n
    · obtain ⟨g1, rfl⟩ := row_where h1 (by omega)
      obtain ⟨g2, rfl⟩ := row_where h2 (by omega)
      obtain ⟨y, hy⟩ : ∃ y, L[j]? = some y := ⟨L[j]'(by rw [← HL.out]; exact hjn), by simp⟩
      have hu : (L.map pv)[j]? = some (.int .i64 y) := by simp [hy, pv]
      have d1 := row_cell (IsRf.row_kept h1 (fun k hk => hB.block k (h1.lt k hk).2)) hu hjn
      have d2 := row_cell (IsRf.row_kept h2 (fun k hk => hB.block k (h2.lt k hk).2)) hu hjn
      clear hu hy h1 h2
      go_wp2
      go_quiet (fail)
      go_wp2
      go_roundw
      case rel => exact ⟨j + 1, by simp, by omega, below_drewN' hB _⟩
      case measure => simp [intOf]; omega
    · have hq : ¬ ((j : Int) < (n : Int)) := by omega
      clear h1 h2
      go_wp2
      go_ret
      exact ⟨rfl, hB⟩

theorem same_nil (w : World) : Calls Try.prog 10 #[.slice none 0 0, .slice none 0 0] w fun e w' => e = .returned (.bool true) ∧ Below w.heap.size w w' :=
  same_places (b1 := 0) (b2 := 0) (L := []) rfl (by omega) (World.ownsRow_nil _ _ _ _) (World.ownsRow_nil _ _ _ _)

end Go.Proofs.Ytampilfebmfhaaa
