/- Move, Cut. -/
import Derived.Test.YtampilfebmfhaaaGreatDoorMove
namespace Go.Proofs.YtampilfebmfhaaaGreatDoor
open Go.RowKit

variable {n₀ bh b : Nat} {vw vb : Value} {w : World} {A : Ar}

set_option maxHeartbeats 1000000 in
theorem moveH_none (h : IsHp n₀ bh b vw vb w A) (hl : A.bs.length = A.ws.length) (i t : Int) (hi : hasA A i = false) :
    Calls Tryz.prog 111 #[.pointer (some ⟨bh, 0, none⟩), .int .i64 i, .int .i64 t] w fun e w' => e = .returned (.int .i64 1) ∧ w' = w := by
  have h1 := find_no h hl i hi
  clear h hl hi
  go_enter Tryz.func111, Tryz.ntmps111
  go_wp2_with (first
    | (go_at_call 129; refine h1.mono ?_; clear h1; rintro e w' ⟨rfl, rfl⟩))
  go_ret
  exact ⟨rfl, rfl⟩

set_option maxHeartbeats 1000000 in
theorem moveH_out (h : IsHp n₀ bh b vw vb w A) (hl : A.bs.length = A.ws.length) (i t : Int) (hi : hasA A i = true) (ht : t < 0 ∨ i < t) :
    Calls Tryz.prog 111 #[.pointer (some ⟨bh, 0, none⟩), .int .i64 i, .int .i64 t] w fun e w' => e = .returned (.int .i64 1) ∧ w' = w := by
  have h1 := find_yes h hl i hi
  clear h hl hi
  by_cases c1 : t < 0
  · clear ht
    go_enter Tryz.func111, Tryz.ntmps111
    go_wp2_with (first
      | (go_at_call 129; refine h1.mono ?_; clear h1; rintro e w' ⟨rfl, rfl⟩))
    go_ret
    exact ⟨rfl, rfl⟩
  · have c2 : i < t := by omega
    clear ht
    go_enter Tryz.func111, Tryz.ntmps111
    go_wp2_with (first
      | (go_at_call 129; refine h1.mono ?_; clear h1; rintro e w' ⟨rfl, rfl⟩))
    go_ret
    exact ⟨rfl, rfl⟩

theorem back_find {ws : List Nat} {o : Option Nat} {L : List Nat} (hL : BackOf ws o L) {p i : Nat} (hi : L.find? (fun y => decide (y < p)) = some i) : i < ws.length ∧ i < p :=
  ⟨hL.lt i (List.mem_of_find?_eq_some hi), by have := List.find?_some hi; simpa using this⟩

set_option maxHeartbeats 1000000 in
theorem moveH_within (h : IsHp n₀ bh b vw vb w A) (hl : A.bs.length = A.ws.length) (i t : Nat) (hi : hasA A i = true) (ht : t ≤ i) (L : List Nat) (hL : BackOf A.ws (some i) L)
    (hw : t < endAt A (L.find? (fun y => decide (y < t)))) :
    Calls Tryz.prog 111 #[.pointer (some ⟨bh, 0, none⟩), .int .i64 i, .int .i64 t] w fun e w' => e = .returned (.int .i64 1) ∧ Below w.heap.size w w' := by
  have h1 := find_yes h hl i hi
  have h2 := lastAhead_in h.ar (some i) L hL t
  obtain ⟨st, hst⟩ : ∃ st, L.find? (fun y => decide (y < t)) = st := ⟨_, rfl⟩
  have hst2 : ∀ j, st = some j → j < A.ws.length := fun j hj => (back_find hL (by rw [hst]; exact hj)).1
  rw [hst] at h2 hw
  clear hl hi hL hst
  obtain ⟨en, hen⟩ : ∃ en, endAt A st = en := ⟨_, rfl⟩
  go_enter Tryz.func111, Tryz.ntmps111
  go_wp2_with (first
    | (go_at_call 129; refine h1.mono ?_; clear h1; rintro e w' ⟨rfl, rfl⟩)
    | (go_at_call 174; refine h2.mono ?_; clear h2; rintro e w2 ⟨rfl, hB⟩; have h3 := endOf_in (h.ar.below hB) st hst2; rw [hen] at h3 hw)
    | (go_at_call 175; refine h3.mono ?_; clear h3; rintro e w3 ⟨rfl, rfl⟩))
  go_ret
  exact ⟨rfl, hB⟩

set_option maxHeartbeats 1000000 in
theorem moveH_ok (h : IsHp n₀ bh b vw vb w A) (hl : A.bs.length = A.ws.length) (i t x : Nat) (hi : hasA A i = true) (hx : A.ws[i]? = some x) (ht : t ≤ i) (L : List Nat) (hL : BackOf A.ws (some i) L)
    (hw : endAt A (L.find? (fun y => decide (y < t))) ≤ t) (hend : i + 1 + fld x 0 ≤ A.ws.length) (hnx : ∀ j, bhd x = some j → i < j ∧ j < A.ws.length) :
    Calls Tryz.prog 111 #[.pointer (some ⟨bh, 0, none⟩), .int .i64 i, .int .i64 t] w fun e w' => e = .returned (.int .i64 0) ∧
      IsHp n₀ bh b vw vb w' (moveA A L (L.find? (fun y => decide (y < t))) i t x) ∧ Step b vw vb w vw vb w' := by
  have h1 := find_yes h hl i hi
  have h2 := lastAhead_in h.ar (some i) L hL t
  obtain ⟨st, hst⟩ : ∃ st, L.find? (fun y => decide (y < t)) = st := ⟨_, rfl⟩
  have hst2 : ∀ j, st = some j → j < A.ws.length ∧ j < t := fun j hj => back_find hL (by rw [hst]; exact hj)
  have HH : Hid (A.bs.length = A.ws.length ∧ A.ws[i]? = some x ∧ BackOf A.ws (some i) L) := ⟨hl, hx, hL⟩
  rw [hst] at h2 hw ⊢
  clear hl hi hL hst hx
  obtain ⟨en, hen⟩ : ∃ en, endAt A st = en := ⟨_, rfl⟩
  go_enter Tryz.func111, Tryz.ntmps111
  go_wp2_with (first
    | (go_at_call 129; refine h1.mono ?_; clear h1; rintro e w' ⟨rfl, rfl⟩)
    | (go_at_call 174; refine h2.mono ?_; clear h2; rintro e w2 ⟨rfl, hB⟩; have h3 := endOf_in (h.ar.below hB) st (fun j hj => (hst2 j hj).1); rw [hen] at h3 hw)
    | (go_at_call 175; refine h3.mono ?_; clear h3; rintro e w3 ⟨rfl, rfl⟩; have h4 := move_in (h.ar.below hB) HH.out.1 st i t x L HH.out.2.1 HH.out.2.2 ht hend (fun j hj => (hst2 j hj).2) hnx)
    | (go_at_call 183; refine h4.mono ?_; clear h4; rintro e w4 ⟨rfl, hA4, hS4⟩))
  go_ret
  exact ⟨rfl, (h.below hB).step hS4 hA4, (Step.of_below hB).trans hS4⟩

set_option maxHeartbeats 1000000 in
theorem cutH_out (h : IsHp n₀ bh b vw vb w A) (t : Int) (ht : t < 0 ∨ (A.ws.length : Int) < t) :
    Calls Tryz.prog 99 #[.pointer (some ⟨bh, 0, none⟩), .int .i64 t] w fun e w' => e = .returned (.int .i64 1) ∧ w' = w := by
  have h1 := there_in h
  have h2 := end_in h.ar
  clear h
  by_cases c1 : t < 0
  · clear ht
    go_enter Tryz.func99, Tryz.ntmps99
    go_wp2_with (first
      | (go_at_call 125; refine h1.mono ?_; clear h1; rintro e w' ⟨rfl, rfl⟩)
      | (go_at_call 126; refine h2.mono ?_; clear h2; rintro e w' ⟨rfl, rfl⟩))
    go_ret
    exact ⟨rfl, rfl⟩
  · have c2 : (A.ws.length : Int) < t := by omega
    clear ht
    go_enter Tryz.func99, Tryz.ntmps99
    go_wp2_with (first
      | (go_at_call 125; refine h1.mono ?_; clear h1; rintro e w' ⟨rfl, rfl⟩)
      | (go_at_call 126; refine h2.mono ?_; clear h2; rintro e w' ⟨rfl, rfl⟩))
    go_ret
    exact ⟨rfl, rfl⟩

set_option maxHeartbeats 1000000 in
theorem cutH_within (h : IsHp n₀ bh b vw vb w A) (t : Nat) (ht : t ≤ A.ws.length) (L : List Nat) (hL : BackOf A.ws A.last L)
    (hw : t < endAt A (L.find? (fun y => decide (y < t)))) :
    Calls Tryz.prog 99 #[.pointer (some ⟨bh, 0, none⟩), .int .i64 t] w fun e w' => e = .returned (.int .i64 1) ∧ Below w.heap.size w w' := by
  have h1 := there_in h
  have h2 := end_in h.ar
  have h3 := lastAhead_in h.ar A.last L hL t
  have hc3 := h.ar.c3
  obtain ⟨st, hst⟩ : ∃ st, L.find? (fun y => decide (y < t)) = st := ⟨_, rfl⟩
  have hst2 : ∀ j, st = some j → j < A.ws.length := fun j hj => (back_find hL (by rw [hst]; exact hj)).1
  rw [hst] at h3 hw
  clear hL hst
  obtain ⟨en, hen⟩ : ∃ en, endAt A st = en := ⟨_, rfl⟩
  go_enter Tryz.func99, Tryz.ntmps99
  go_wp2_with (first
    | (go_at_call 125; refine h1.mono ?_; clear h1; rintro e w' ⟨rfl, rfl⟩)
    | (go_at_call 126; refine h2.mono ?_; clear h2; rintro e w' ⟨rfl, rfl⟩)
    | (go_at_call 174; refine h3.mono ?_; clear h3; rintro e w2 ⟨rfl, hB⟩; have h4 := endOf_in (h.ar.below hB) st hst2; rw [hen] at h4 hw)
    | (go_at_call 175; refine h4.mono ?_; clear h4; rintro e w3 ⟨rfl, rfl⟩))
  go_ret
  exact ⟨rfl, hB⟩

set_option maxHeartbeats 1000000 in
theorem cutH_ok (h : IsHp n₀ bh b vw vb w A) (hl : A.bs.length = A.ws.length) (t : Nat) (ht : t ≤ A.ws.length) (L : List Nat) (hL : BackOf A.ws A.last L)
    (hw : endAt A (L.find? (fun y => decide (y < t))) ≤ t) :
    Calls Tryz.prog 99 #[.pointer (some ⟨bh, 0, none⟩), .int .i64 t] w fun e w' => e = .returned (.int .i64 0) ∧
      ∃ vw' vb', IsHp n₀ bh b vw' vb' w' (cutA A (L.find? (fun y => decide (y < t))) t) ∧ Step b vw vb w vw' vb' w' := by
  have h1 := there_in h
  have h2 := end_in h.ar
  have h3 := lastAhead_in h.ar A.last L hL t
  have hc3 := h.ar.c3
  obtain ⟨st, hst⟩ : ∃ st, L.find? (fun y => decide (y < t)) = st := ⟨_, rfl⟩
  have hst2 : ∀ j, st = some j → j < A.ws.length := fun j hj => (back_find hL (by rw [hst]; exact hj)).1
  rw [hst] at h3 hw ⊢
  have HL : Hid (A.bs.length = A.ws.length) := hl
  clear hL hst hl
  obtain ⟨en, hen⟩ : ∃ en, endAt A st = en := ⟨_, rfl⟩
  go_enter Tryz.func99, Tryz.ntmps99
  go_wp2_with (first
    | (go_at_call 125; refine h1.mono ?_; clear h1; rintro e w' ⟨rfl, rfl⟩)
    | (go_at_call 126; refine h2.mono ?_; clear h2; rintro e w' ⟨rfl, rfl⟩)
    | (go_at_call 174; refine h3.mono ?_; clear h3; rintro e w2 ⟨rfl, hB⟩; have h4 := endOf_in (h.ar.below hB) st hst2; rw [hen] at h4 hw)
    | (go_at_call 175; refine h4.mono ?_; clear h4; rintro e w3 ⟨rfl, rfl⟩; have h5 := cut_in (h.ar.below hB) st t hst2 ht HL.out)
    | (go_at_call 176; refine h5.mono ?_; clear h5; rintro e w4 ⟨rfl, vw', vb', hA4, hS4⟩))
  go_ret
  exact ⟨rfl, _, _, (h.below hB).step hS4 hA4, (Step.of_below hB).trans hS4⟩

end Go.Proofs.YtampilfebmfhaaaGreatDoor
