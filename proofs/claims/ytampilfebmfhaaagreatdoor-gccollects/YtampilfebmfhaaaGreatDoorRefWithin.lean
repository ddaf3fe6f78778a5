/- The document's within and Of. -/
import Derived.Test.YtampilfebmfhaaaGreatDoorRefRead
namespace Go.Proofs.YtampilfebmfhaaaGreatDoor
open Go.RowKit

variable {n₀ br all en : Nat} {vo : Value} {w : World} {R : List (Ob × Value)}

set_option maxHeartbeats 400000 in
theorem of_in (k : Nat) (w : World) (hk : k < 256) : Calls Tryz.prog 182 #[.int .u8 k] w fun e w' => e = .returned (.bool (decide (3 ≤ k ∧ k ≤ 8))) ∧ w' = w := by
  by_cases h1 : 3 ≤ k
  · by_cases h2 : k ≤ 8
    · go_enter Tryz.func182, Tryz.ntmps182
      go_wp2
      go_ret
      refine ⟨?_, rfl⟩
      simp [h1, h2] <;> omega
    · go_enter Tryz.func182, Tryz.ntmps182
      go_wp2
      go_ret
      refine ⟨?_, rfl⟩
      simp [h1, h2] <;> omega
  · go_enter Tryz.func182, Tryz.ntmps182
    go_wp2
    go_ret
    refine ⟨?_, rfl⟩
    simp <;> omega

/-- within: has an object that begins ahead of a word that word? -/
def withinR (t : Int) (x : Ob × Value) : Bool := decide ((x.1.at_ : Int) < t ∧ t ≤ (x.1.at_ : Int) + x.1.ws.length)

set_option maxRecDepth 20000 in
set_option maxHeartbeats 1000000 in
theorem within_r (h : IsRf n₀ br vo w all en R) (t : Int) : Calls Tryz.prog 184 #[.pointer (some ⟨br, 0, none⟩), .int .i64 t] w fun e w' => e = .returned (.bool (R.any (withinR t))) ∧ Below w.heap.size w w' := by
  have hle := h.le
  obtain ⟨p, c, rfl, _, _, hp⟩ := IsRf.row_some3 h.row
  go_enter Tryz.func184, Tryz.ntmps184
  go_wp2
  go_loopw [5] (fun k wr => ∃ (l r : List (Ob × Value)), R = l ++ r ∧ k = .int .i64 l.length ∧ l.any (withinR t) = false ∧ Below w.heap.size w wr) (fun k _ => R.length - (intOf k).toNat)
  case atStart => exact ⟨[], R, rfl, rfl, rfl, Below.refl _ _⟩
  case round =>
    obtain ⟨l, r, hR, rfl, hl, hB⟩ := hrel
    have h' := h.below hB
    have hc := h'.c2
    cases r with
    | nil =>
      have hR' : R = l := by simpa using hR
      have hq : ¬ ((l.length : Int) < (R.length : Int)) := by rw [hR']; omega
      have E1 : Hid _ := (show R.any (withinR t) = false by rw [hR']; exact hl)
      clear hR hR' hp hl
      go_wp2
      go_ret
      exact ⟨by rw [E1.out]; rfl, hB⟩
    | cons x r =>
      have hlR : l.length < R.length := by rw [hR]; simp
      obtain ⟨g, rfl⟩ := hp (by omega)
      have hxm : x ∈ R := by rw [hR]; simp
      obtain ⟨e0, e1, e2⟩ := h'.elem (j := l.length) (x := x) (by rw [hR]; simp)
      obtain ⟨hw1, hw2⟩ := h.wrds x hxm
      obtain ⟨gw, cw, hw⟩ := wform hw1 hw2
      rw [hw] at e2
      obtain ⟨b1, b2, _⟩ := h.bnd x hxm
      have HR : Hid (R = l ++ x :: r) := hR
      have HL : Hid _ := hl
      have HB := hB.alloc hB.size (.cells #[.int .i64 x.1.at_, .int .u8 x.1.kind, x.2] 85)
      rw [hw] at HB
      clear hR hl hw1 hw2 hw hxm
      by_cases hx1 : (x.1.at_ : Int) < t
      · by_cases hx2 : t ≤ (x.1.at_ : Int) + x.1.ws.length
        · have E1 : Hid _ := (show R.any (withinR t) = true by rw [HR.out]; simp [withinR, hx1, hx2])
          go_wp2
          go_ret
          exact ⟨by rw [E1.out]; rfl, HB⟩
        · have E1 : Hid _ := (show withinR t x = false by simp [withinR, hx2])
          go_wp2
          go_roundw
          case rel =>
            have e1 : (((l ++ [x]).length : Nat) : Int) = l.length + 1 := by simp
            refine ⟨l ++ [x], r, by have := HR.out; simpa using this, by rw [e1], ?_, HB⟩
            rw [List.any_append, HL.out]; simp [E1.out]
          case measure => simp [intOf]; omega
      · have E1 : Hid _ := (show withinR t x = false by simp [withinR, hx1])
        go_wp2
        go_roundw
        case rel =>
          have e1 : (((l ++ [x]).length : Nat) : Int) = l.length + 1 := by simp
          refine ⟨l ++ [x], r, by have := HR.out; simpa using this, by rw [e1], ?_, HB⟩
          rw [List.any_append, HL.out]; simp [E1.out]
        case measure => simp [intOf]; omega

end Go.Proofs.YtampilfebmfhaaaGreatDoor
