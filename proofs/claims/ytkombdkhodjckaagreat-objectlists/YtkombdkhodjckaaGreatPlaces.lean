/- Move, Cut. -/
import Derived.Test.YtkombdkhodjckaaGreatMove
import Derived.Maps.AppendAt
namespace Go.Proofs.YtkombdkhodjckaaGreat
open Go.RowKit

variable {n₀ bh b : Nat} {vw vb : Value} {w : World} {A : Ar}

set_option maxHeartbeats 1000000 in
theorem moveH_none (h : IsHp n₀ bh b vw vb w A) (hl : A.bs.length = A.ws.length) (i t : Int) (hi : hasA A i = false) :
    Calls Tryz.prog 81 #[.pointer (some ⟨bh, 0, none⟩), .int .i64 i, .int .i64 t] w fun e w' => e = .returned (.int .i64 1) ∧ w' = w := by
  have h1 := find_no h hl i hi
  clear h hl hi
  go_enter Tryz.func81, Tryz.ntmps81
  go_wp2_with (first
    | (go_at_call 109; refine h1.mono ?_; clear h1; rintro e w' ⟨rfl, rfl⟩))
  go_ret
  exact ⟨rfl, rfl⟩

set_option maxHeartbeats 1000000 in
theorem moveH_out (h : IsHp n₀ bh b vw vb w A) (hl : A.bs.length = A.ws.length) (i t : Int) (hi : hasA A i = true) (ht : t < 0 ∨ i < t) :
    Calls Tryz.prog 81 #[.pointer (some ⟨bh, 0, none⟩), .int .i64 i, .int .i64 t] w fun e w' => e = .returned (.int .i64 1) ∧ w' = w := by
  have h1 := find_yes h hl i hi
  clear h hl hi
  by_cases c1 : t < 0
  · clear ht
    go_enter Tryz.func81, Tryz.ntmps81
    go_wp2_with (first
      | (go_at_call 109; refine h1.mono ?_; clear h1; rintro e w' ⟨rfl, rfl⟩))
    go_ret
    exact ⟨rfl, rfl⟩
  · have c2 : i < t := by omega
    clear ht
    go_enter Tryz.func81, Tryz.ntmps81
    go_wp2_with (first
      | (go_at_call 109; refine h1.mono ?_; clear h1; rintro e w' ⟨rfl, rfl⟩))
    go_ret
    exact ⟨rfl, rfl⟩

theorem back_find {ws : List Nat} {o : Option Nat} {L : List Nat} (hL : BackOf ws o L) {p i : Nat} (hi : L.find? (fun y => decide (y < p)) = some i) : i < ws.length ∧ i < p :=
  ⟨hL.lt i (List.mem_of_find?_eq_some hi), by have := List.find?_some hi; simpa using this⟩

set_option maxHeartbeats 1000000 in
theorem moveH_within (h : IsHp n₀ bh b vw vb w A) (hl : A.bs.length = A.ws.length) (i t : Nat) (hi : hasA A i = true) (ht : t ≤ i) (L : List Nat) (hL : BackOf A.ws (some i) L)
    (hw : t < endAt A (L.find? (fun y => decide (y < t)))) :
    Calls Tryz.prog 81 #[.pointer (some ⟨bh, 0, none⟩), .int .i64 i, .int .i64 t] w fun e w' => e = .returned (.int .i64 1) ∧ Below w.heap.size w w' := by
  have h1 := find_yes h hl i hi
  have h2 := lastAhead_in h.ar (some i) L hL t
  obtain ⟨st, hst⟩ : ∃ st, L.find? (fun y => decide (y < t)) = st := ⟨_, rfl⟩
  have hst2 : ∀ j, st = some j → j < A.ws.length := fun j hj => (back_find hL (by rw [hst]; exact hj)).1
  rw [hst] at h2 hw
  clear hl hi hL hst
  obtain ⟨en, hen⟩ : ∃ en, endAt A st = en := ⟨_, rfl⟩
  go_enter Tryz.func81, Tryz.ntmps81
  go_wp2_with (first
    | (go_at_call 109; refine h1.mono ?_; clear h1; rintro e w' ⟨rfl, rfl⟩)
    | (go_at_call 82; refine h2.mono ?_; clear h2; rintro e w2 ⟨rfl, hB⟩; have h3 := endOf_in (h.ar.below hB) st hst2; rw [hen] at h3 hw)
    | (go_at_call 83; refine h3.mono ?_; clear h3; rintro e w3 ⟨rfl, rfl⟩))
  go_ret
  exact ⟨rfl, hB⟩

set_option maxHeartbeats 1000000 in
theorem moveH_ok (h : IsHp n₀ bh b vw vb w A) (hl : A.bs.length = A.ws.length) (i t x : Nat) (hi : hasA A i = true) (hx : A.ws[i]? = some x) (ht : t ≤ i) (L : List Nat) (hL : BackOf A.ws (some i) L)
    (hw : endAt A (L.find? (fun y => decide (y < t))) ≤ t) (hend : i + 1 + fld x 0 ≤ A.ws.length) (hnx : ∀ j, bhd x = some j → i < j ∧ j < A.ws.length) :
    Calls Tryz.prog 81 #[.pointer (some ⟨bh, 0, none⟩), .int .i64 i, .int .i64 t] w fun e w' => e = .returned (.int .i64 0) ∧
      IsHp n₀ bh b vw vb w' (moveA A L (L.find? (fun y => decide (y < t))) i t x) ∧ Step b vw vb w vw vb w' := by
  have h1 := find_yes h hl i hi
  have h2 := lastAhead_in h.ar (some i) L hL t
  obtain ⟨st, hst⟩ : ∃ st, L.find? (fun y => decide (y < t)) = st := ⟨_, rfl⟩
  have hst2 : ∀ j, st = some j → j < A.ws.length ∧ j < t := fun j hj => back_find hL (by rw [hst]; exact hj)
  have HH : Hid (A.bs.length = A.ws.length ∧ A.ws[i]? = some x ∧ BackOf A.ws (some i) L) := ⟨hl, hx, hL⟩
  rw [hst] at h2 hw ⊢
  clear hl hi hL hst hx
  obtain ⟨en, hen⟩ : ∃ en, endAt A st = en := ⟨_, rfl⟩
  go_enter Tryz.func81, Tryz.ntmps81
  go_wp2_with (first
    | (go_at_call 109; refine h1.mono ?_; clear h1; rintro e w' ⟨rfl, rfl⟩)
    | (go_at_call 82; refine h2.mono ?_; clear h2; rintro e w2 ⟨rfl, hB⟩; have h3 := endOf_in (h.ar.below hB) st (fun j hj => (hst2 j hj).1); rw [hen] at h3 hw)
    | (go_at_call 83; refine h3.mono ?_; clear h3; rintro e w3 ⟨rfl, rfl⟩; have h4 := move_in (h.ar.below hB) HH.out.1 st i t x L HH.out.2.1 HH.out.2.2 ht hend (fun j hj => (hst2 j hj).2) hnx)
    | (go_at_call 110; refine h4.mono ?_; clear h4; rintro e w4 ⟨rfl, hA4, hS4⟩))
  go_ret
  exact ⟨rfl, (h.below hB).step hS4 hA4, (Step.of_below hB).trans hS4⟩

set_option maxHeartbeats 1000000 in
theorem cutH_out (h : IsHp n₀ bh b vw vb w A) (t : Int) (ht : t < 0 ∨ (A.ws.length : Int) < t) :
    Calls Tryz.prog 38 #[.pointer (some ⟨bh, 0, none⟩), .int .i64 t] w fun e w' => e = .returned (.int .i64 1) ∧ w' = w := by
  have h1 := there_in h
  have h2 := end_in h.ar
  clear h
  by_cases c1 : t < 0
  · clear ht
    go_enter Tryz.func38, Tryz.ntmps38
    go_wp2_with (first
      | (go_at_call 40; refine h1.mono ?_; clear h1; rintro e w' ⟨rfl, rfl⟩)
      | (go_at_call 41; refine h2.mono ?_; clear h2; rintro e w' ⟨rfl, rfl⟩))
    go_ret
    exact ⟨rfl, rfl⟩
  · have c2 : (A.ws.length : Int) < t := by omega
    clear ht
    go_enter Tryz.func38, Tryz.ntmps38
    go_wp2_with (first
      | (go_at_call 40; refine h1.mono ?_; clear h1; rintro e w' ⟨rfl, rfl⟩)
      | (go_at_call 41; refine h2.mono ?_; clear h2; rintro e w' ⟨rfl, rfl⟩))
    go_ret
    exact ⟨rfl, rfl⟩

set_option maxHeartbeats 1000000 in
theorem cutH_within (h : IsHp n₀ bh b vw vb w A) (t : Nat) (ht : t ≤ A.ws.length) (L : List Nat) (hL : BackOf A.ws A.last L)
    (hw : t < endAt A (L.find? (fun y => decide (y < t)))) :
    Calls Tryz.prog 38 #[.pointer (some ⟨bh, 0, none⟩), .int .i64 t] w fun e w' => e = .returned (.int .i64 1) ∧ Below w.heap.size w w' := by
  have h1 := there_in h
  have h2 := end_in h.ar
  have h3 := lastAhead_in h.ar A.last L hL t
  have hc3 := h.ar.c3
  obtain ⟨st, hst⟩ : ∃ st, L.find? (fun y => decide (y < t)) = st := ⟨_, rfl⟩
  have hst2 : ∀ j, st = some j → j < A.ws.length := fun j hj => (back_find hL (by rw [hst]; exact hj)).1
  rw [hst] at h3 hw
  clear hL hst
  obtain ⟨en, hen⟩ : ∃ en, endAt A st = en := ⟨_, rfl⟩
  go_enter Tryz.func38, Tryz.ntmps38
  go_wp2_with (first
    | (go_at_call 40; refine h1.mono ?_; clear h1; rintro e w' ⟨rfl, rfl⟩)
    | (go_at_call 41; refine h2.mono ?_; clear h2; rintro e w' ⟨rfl, rfl⟩)
    | (go_at_call 82; refine h3.mono ?_; clear h3; rintro e w2 ⟨rfl, hB⟩; have h4 := endOf_in (h.ar.below hB) st hst2; rw [hen] at h4 hw)
    | (go_at_call 83; refine h4.mono ?_; clear h4; rintro e w3 ⟨rfl, rfl⟩))
  go_ret
  exact ⟨rfl, hB⟩

set_option maxHeartbeats 1000000 in
theorem cutH_ok (h : IsHp n₀ bh b vw vb w A) (hl : A.bs.length = A.ws.length) (t : Nat) (ht : t ≤ A.ws.length) (L : List Nat) (hL : BackOf A.ws A.last L)
    (hw : endAt A (L.find? (fun y => decide (y < t))) ≤ t) :
    Calls Tryz.prog 38 #[.pointer (some ⟨bh, 0, none⟩), .int .i64 t] w fun e w' => e = .returned (.int .i64 0) ∧
      ∃ vw' vb', IsHp n₀ bh b vw' vb' w' (cutA A (L.find? (fun y => decide (y < t))) t) ∧ Step b vw vb w vw' vb' w' := by
  have h1 := there_in h
  have h2 := end_in h.ar
  have h3 := lastAhead_in h.ar A.last L hL t
  have hc3 := h.ar.c3
  obtain ⟨st, hst⟩ : ∃ st, L.find? (fun y => decide (y < t)) = st := ⟨_, rfl⟩
  have hst2 : ∀ j, st = some j → j < A.ws.length := fun j hj => (back_find hL (by rw [hst]; exact hj)).1
  rw [hst] at h3 hw ⊢
  have HL : Hid (A.bs.length = A.ws.length) := hl
  clear hL hst hl
  obtain ⟨en, hen⟩ : ∃ en, endAt A st = en := ⟨_, rfl⟩
  go_enter Tryz.func38, Tryz.ntmps38
  go_wp2_with (first
    | (go_at_call 40; refine h1.mono ?_; clear h1; rintro e w' ⟨rfl, rfl⟩)
    | (go_at_call 41; refine h2.mono ?_; clear h2; rintro e w' ⟨rfl, rfl⟩)
    | (go_at_call 82; refine h3.mono ?_; clear h3; rintro e w2 ⟨rfl, hB⟩; have h4 := endOf_in (h.ar.below hB) st hst2; rw [hen] at h4 hw)
    | (go_at_call 83; refine h4.mono ?_; clear h4; rintro e w3 ⟨rfl, rfl⟩; have h5 := cut_in (h.ar.below hB) st t hst2 ht HL.out)
    | (go_at_call 84; refine h5.mono ?_; clear h5; rintro e w4 ⟨rfl, vw', vb', hA4, hS4⟩))
  go_ret
  exact ⟨rfl, _, _, (h.below hB).step hS4 hA4, (Step.of_below hB).trans hS4⟩

end Go.Proofs.YtkombdkhodjckaaGreat

namespace Go.Proofs.YtkombdkhodjckaaGreat
open Go.RowKit

def iv (x : Int) : Value := .int .i64 x

/-- k pairs, from outside, have been exchanged. -/
def RevAt (xs vals : List Int) (k : Nat) : Prop :=
  vals.length = xs.length ∧ ∀ t, t < xs.length → vals[t]? = if t < k ∨ xs.length - k ≤ t then xs[xs.length - 1 - t]? else xs[t]?

theorem RevAt.zero (xs : List Int) : RevAt xs xs 0 := ⟨rfl, fun t ht => by rw [if_neg (by omega)]⟩

theorem RevAt.all {xs vals : List Int} {k : Nat} (h : RevAt xs vals k) (hk : xs.length ≤ 2 * k + 1) : vals = xs.reverse := by
  apply List.ext_getElem?
  intro t
  by_cases ht : t < xs.length
  · rw [h.2 t ht, List.getElem?_reverse ht]
    by_cases hc : t < k ∨ xs.length - k ≤ t
    · rw [if_pos hc]
    · rw [if_neg hc, show xs.length - 1 - t = t by omega]
  · rw [List.getElem?_eq_none (by rw [h.1]; omega), List.getElem?_eq_none (by simp; omega)]

theorem RevAt.swap {xs vals : List Int} {k m : Nat} (h : RevAt xs vals k) (hm : m = xs.length - 1 - k) (hlt : k < m) (hkn : k < xs.length) {a c : Int} (ha : vals[k]? = some a) (hc : vals[m]? = some c) : RevAt xs ((vals.set k c).set m a) (k + 1) := by
  have ha' := h.2 k hkn
  have hc' := h.2 m (by omega)
  rw [if_neg (by omega)] at ha' hc'
  refine ⟨by simp [h.1], fun t ht => ?_⟩
  rw [List.getElem?_set, List.getElem?_set]
  by_cases e1 : m = t
  · subst e1
    rw [if_pos rfl, if_pos (by simp [h.1]; omega), if_pos (by omega), show xs.length - 1 - m = k by omega, ← ha', ha]
  · rw [if_neg e1]
    by_cases e2 : k = t
    · subst e2
      rw [if_pos rfl, if_pos (by rw [h.1]; omega), if_pos (by omega), ← hm, ← hc', hc]
    · rw [if_neg e2, h.2 t ht]
      by_cases e3 : t < k ∨ xs.length - k ≤ t
      · rw [if_pos e3, if_pos (by omega)]
      · rw [if_neg e3, if_neg (by omega)]

end Go.Proofs.YtkombdkhodjckaaGreat

namespace Go.Proofs.YtkombdkhodjckaaGreat
open Go.RowKit Go.Shelf

attribute [local go_sem] Oper.semAt_some

variable {n₀ bh b : Nat} {vw vb : Value} {w : World} {A : Ar}

theorem info2 : (Tryz.prog.info? 2).map (fun i => (i.zero, i.size, i.bytes)) = some (some (.int .i64 0), 1, 8) := by kernel_rfl

def pv (x : Nat) : Value := .int .i64 x

theorem row_mono {w : World} {base base' : Nat} {e : TypeId} {v : Value} {n : Nat} {xs : List Value} (h : w.ownsRow base e 1 v n xs) (hb : base' ≤ base) : w.ownsRow base' e 1 v n xs := by
  refine ⟨h.1, ?_⟩
  rcases h.2 with hn | ⟨g, cap, cur, hv, hg, rest⟩
  · exact .inl hn
  · exact .inr ⟨g, cap, cur, hv, Nat.le_trans hb hg, rest⟩

theorem boxed_appended {W w1 : World} {m₀ B : Nat} {t e : TypeId} {v v' : Value} {k m : Nat} {xs ys : List Value} {tmp : Obj}
    (hv : Boxed W B t v) (hrow : W.ownsRow m₀ e 1 v k xs) (hm₀ : m₀ ≤ W.heap.size) (hB : B < m₀)
    (hown' : w1.ownsRow m₀ e 1 v' m ys) (hgrow : (W.alloc tmp).grownBy w1 v.ownBlock) :
    Boxed w1 B t v ∧ Boxed (w1.setCell ⟨B, 0, none⟩ v') B t v' ∧ (w1.setCell ⟨B, 0, none⟩ v').ownsRow m₀ e 1 v' m ys ∧ KeepsOthers W (w1.setCell ⟨B, 0, none⟩ v') ∧
      (∀ q, q < m₀ → q ≠ B → (w1.setCell ⟨B, 0, none⟩ v').heap[q]? = W.heap[q]?) ∧ (w1.setCell ⟨B, 0, none⟩ v').os = W.os ∧ (w1.setCell ⟨B, 0, none⟩ v').tape = W.tape ∧ (w1.setCell ⟨B, 0, none⟩ v').output = W.output := by
  have hne : ∀ q, q < m₀ → some q ≠ v.ownBlock := fun q hq e => by have := (hrow.lt q e.symm).1; omega
  have hne' : ∀ q, q < m₀ → v'.ownBlock ≠ some q := fun q hq e => by have := (hown'.lt q e).1; omega
  have hv1 : Boxed w1 B t v := (hv.alloc tmp).kept hgrow (hne B hB)
  refine ⟨hv1, hv1.set v', hown'.kept (grownBy_setCell' w1 B v') (.inr (hne' B hB)), ?_, ?_, hgrow.os, hgrow.tape, hgrow.output⟩
  · refine ((KeepsOthers.alloc W tmp).trans (KeepsOthers.of_grownBy hgrow fun j o ej hj => ?_)).trans (KeepsOthers.setCell _ _ _)
    rcases (hrow.alloc tmp).2 with ⟨rfl, _⟩ | ⟨g, cap, cur, rfl, _, hgb, _⟩
    · simp [Value.ownBlock] at ej
    · obtain rfl : g = j := by simpa [Value.ownBlock] using ej
      rw [hgb] at hj; cases hj; rfl
  · intro q hq hqB
    rw [heap_setCell_other w1 ⟨B, 0, none⟩ q _ hqB, hgrow.block q (by simp; omega) (hne q hq)]
    exact Below.heap_alloc _ _ _ (by omega)

end Go.Proofs.YtkombdkhodjckaaGreat
