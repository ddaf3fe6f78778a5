/- Move, Cut. -/
import Derived.Test.YtampilfebmfhaaaGreatDoorMove
import Derived.Maps.AppendAt
namespace Go.Proofs.YtampilfebmfhaaaGreatDoor
open Go.RowKit

variable {n₀ bh b : Nat} {vw vb : Value} {w : World} {A : Ar}

set_option maxHeartbeats 1000000 in
theorem moveH_none (h : IsHp n₀ bh b vw vb w A) (hl : A.bs.length = A.ws.length) (i t : Int) (hi : hasA A i = false) :
    Calls Tryz.prog 111 #[.pointer (some ⟨bh, 0, none⟩), .int .i64 i, .int .i64 t] w fun e w' => e = .returned (.int .i64 1) ∧ w' = w := by
  have h1 := find_no h hl i hi
  clear h hl hi
  go_enter Tryz.func111, Tryz.ntmps111
  go_wp2_with (first
    | (go_at_call 129; refine h1.mono ?_; clear h1; rintro e w' ⟨rfl, rfl⟩))
  go_ret
  exact ⟨rfl, rfl⟩

set_option maxHeartbeats 1000000 in
theorem moveH_out (h : IsHp n₀ bh b vw vb w A) (hl : A.bs.length = A.ws.length) (i t : Int) (hi : hasA A i = true) (ht : t < 0 ∨ i < t) :
    Calls Tryz.prog 111 #[.pointer (some ⟨bh, 0, none⟩), .int .i64 i, .int .i64 t] w fun e w' => e = .returned (.int .i64 1) ∧ w' = w := by
  have h1 := find_yes h hl i hi
  clear h hl hi
  by_cases c1 : t < 0
  · clear ht
    go_enter Tryz.func111, Tryz.ntmps111
    go_wp2_with (first
      | (go_at_call 129; refine h1.mono ?_; clear h1; rintro e w' ⟨rfl, rfl⟩))
    go_ret
    exact ⟨rfl, rfl⟩
  · have c2 : i < t := by omega
    clear ht
    go_enter Tryz.func111, Tryz.ntmps111
    go_wp2_with (first
      | (go_at_call 129; refine h1.mono ?_; clear h1; rintro e w' ⟨rfl, rfl⟩))
    go_ret
    exact ⟨rfl, rfl⟩

theorem back_find {ws : List Nat} {o : Option Nat} {L : List Nat} (hL : BackOf ws o L) {p i : Nat} (hi : L.find? (fun y => decide (y < p)) = some i) : i < ws.length ∧ i < p :=
  ⟨hL.lt i (List.mem_of_find?_eq_some hi), by have := List.find?_some hi; simpa using this⟩

set_option maxHeartbeats 1000000 in
theorem moveH_within (h : IsHp n₀ bh b vw vb w A) (hl : A.bs.length = A.ws.length) (i t : Nat) (hi : hasA A i = true) (ht : t ≤ i) (L : List Nat) (hL : BackOf A.ws (some i) L)
    (hw : t < endAt A (L.find? (fun y => decide (y < t)))) :
    Calls Tryz.prog 111 #[.pointer (some ⟨bh, 0, none⟩), .int .i64 i, .int .i64 t] w fun e w' => e = .returned (.int .i64 1) ∧ Below w.heap.size w w' := by
  have h1 := find_yes h hl i hi
  have h2 := lastAhead_in h.ar (some i) L hL t
  obtain ⟨st, hst⟩ : ∃ st, L.find? (fun y => decide (y < t)) = st := ⟨_, rfl⟩
  have hst2 : ∀ j, st = some j → j < A.ws.length := fun j hj => (back_find hL (by rw [hst]; exact hj)).1
  rw [hst] at h2 hw
  clear hl hi hL hst
  obtain ⟨en, hen⟩ : ∃ en, endAt A st = en := ⟨_, rfl⟩
  go_enter Tryz.func111, Tryz.ntmps111
  go_wp2_with (first
    | (go_at_call 129; refine h1.mono ?_; clear h1; rintro e w' ⟨rfl, rfl⟩)
    | (go_at_call 174; refine h2.mono ?_; clear h2; rintro e w2 ⟨rfl, hB⟩; have h3 := endOf_in (h.ar.below hB) st hst2; rw [hen] at h3 hw)
    | (go_at_call 175; refine h3.mono ?_; clear h3; rintro e w3 ⟨rfl, rfl⟩))
  go_ret
  exact ⟨rfl, hB⟩

set_option maxHeartbeats 1000000 in
theorem moveH_ok (h : IsHp n₀ bh b vw vb w A) (hl : A.bs.length = A.ws.length) (i t x : Nat) (hi : hasA A i = true) (hx : A.ws[i]? = some x) (ht : t ≤ i) (L : List Nat) (hL : BackOf A.ws (some i) L)
    (hw : endAt A (L.find? (fun y => decide (y < t))) ≤ t) (hend : i + 1 + fld x 0 ≤ A.ws.length) (hnx : ∀ j, bhd x = some j → i < j ∧ j < A.ws.length) :
    Calls Tryz.prog 111 #[.pointer (some ⟨bh, 0, none⟩), .int .i64 i, .int .i64 t] w fun e w' => e = .returned (.int .i64 0) ∧
      IsHp n₀ bh b vw vb w' (moveA A L (L.find? (fun y => decide (y < t))) i t x) ∧ Step b vw vb w vw vb w' := by
  have h1 := find_yes h hl i hi
  have h2 := lastAhead_in h.ar (some i) L hL t
  obtain ⟨st, hst⟩ : ∃ st, L.find? (fun y => decide (y < t)) = st := ⟨_, rfl⟩
  have hst2 : ∀ j, st = some j → j < A.ws.length ∧ j < t := fun j hj => back_find hL (by rw [hst]; exact hj)
  have HH : Hid (A.bs.length = A.ws.length ∧ A.ws[i]? = some x ∧ BackOf A.ws (some i) L) := ⟨hl, hx, hL⟩
  rw [hst] at h2 hw ⊢
  clear hl hi hL hst hx
  obtain ⟨en, hen⟩ : ∃ en, endAt A st = en := ⟨_, rfl⟩
  go_enter Tryz.func111, Tryz.ntmps111
  go_wp2_with (first
    | (go_at_call 129; refine h1.mono ?_; clear h1; rintro e w' ⟨rfl, rfl⟩)
    | (go_at_call 174; refine h2.mono ?_; clear h2; rintro e w2 ⟨rfl, hB⟩; have h3 := endOf_in (h.ar.below hB) st (fun j hj => (hst2 j hj).1); rw [hen] at h3 hw)
    | (go_at_call 175; refine h3.mono ?_; clear h3; rintro e w3 ⟨rfl, rfl⟩; have h4 := move_in (h.ar.below hB) HH.out.1 st i t x L HH.out.2.1 HH.out.2.2 ht hend (fun j hj => (hst2 j hj).2) hnx)
    | (go_at_call 183; refine h4.mono ?_; clear h4; rintro e w4 ⟨rfl, hA4, hS4⟩))
  go_ret
  exact ⟨rfl, (h.below hB).step hS4 hA4, (Step.of_below hB).trans hS4⟩

set_option maxHeartbeats 1000000 in
theorem cutH_out (h : IsHp n₀ bh b vw vb w A) (t : Int) (ht : t < 0 ∨ (A.ws.length : Int) < t) :
    Calls Tryz.prog 99 #[.pointer (some ⟨bh, 0, none⟩), .int .i64 t] w fun e w' => e = .returned (.int .i64 1) ∧ w' = w := by
  have h1 := there_in h
  have h2 := end_in h.ar
  clear h
  by_cases c1 : t < 0
  · clear ht
    go_enter Tryz.func99, Tryz.ntmps99
    go_wp2_with (first
      | (go_at_call 125; refine h1.mono ?_; clear h1; rintro e w' ⟨rfl, rfl⟩)
      | (go_at_call 126; refine h2.mono ?_; clear h2; rintro e w' ⟨rfl, rfl⟩))
    go_ret
    exact ⟨rfl, rfl⟩
  · have c2 : (A.ws.length : Int) < t := by omega
    clear ht
    go_enter Tryz.func99, Tryz.ntmps99
    go_wp2_with (first
      | (go_at_call 125; refine h1.mono ?_; clear h1; rintro e w' ⟨rfl, rfl⟩)
      | (go_at_call 126; refine h2.mono ?_; clear h2; rintro e w' ⟨rfl, rfl⟩))
    go_ret
    exact ⟨rfl, rfl⟩

set_option maxHeartbeats 1000000 in
theorem cutH_within (h : IsHp n₀ bh b vw vb w A) (t : Nat) (ht : t ≤ A.ws.length) (L : List Nat) (hL : BackOf A.ws A.last L)
    (hw : t < endAt A (L.find? (fun y => decide (y < t)))) :
    Calls Tryz.prog 99 #[.pointer (some ⟨bh, 0, none⟩), .int .i64 t] w fun e w' => e = .returned (.int .i64 1) ∧ Below w.heap.size w w' := by
  have h1 := there_in h
  have h2 := end_in h.ar
  have h3 := lastAhead_in h.ar A.last L hL t
  have hc3 := h.ar.c3
  obtain ⟨st, hst⟩ : ∃ st, L.find? (fun y => decide (y < t)) = st := ⟨_, rfl⟩
  have hst2 : ∀ j, st = some j → j < A.ws.length := fun j hj => (back_find hL (by rw [hst]; exact hj)).1
  rw [hst] at h3 hw
  clear hL hst
  obtain ⟨en, hen⟩ : ∃ en, endAt A st = en := ⟨_, rfl⟩
  go_enter Tryz.func99, Tryz.ntmps99
  go_wp2_with (first
    | (go_at_call 125; refine h1.mono ?_; clear h1; rintro e w' ⟨rfl, rfl⟩)
    | (go_at_call 126; refine h2.mono ?_; clear h2; rintro e w' ⟨rfl, rfl⟩)
    | (go_at_call 174; refine h3.mono ?_; clear h3; rintro e w2 ⟨rfl, hB⟩; have h4 := endOf_in (h.ar.below hB) st hst2; rw [hen] at h4 hw)
    | (go_at_call 175; refine h4.mono ?_; clear h4; rintro e w3 ⟨rfl, rfl⟩))
  go_ret
  exact ⟨rfl, hB⟩

set_option maxHeartbeats 1000000 in
theorem cutH_ok (h : IsHp n₀ bh b vw vb w A) (hl : A.bs.length = A.ws.length) (t : Nat) (ht : t ≤ A.ws.length) (L : List Nat) (hL : BackOf A.ws A.last L)
    (hw : endAt A (L.find? (fun y => decide (y < t))) ≤ t) :
    Calls Tryz.prog 99 #[.pointer (some ⟨bh, 0, none⟩), .int .i64 t] w fun e w' => e = .returned (.int .i64 0) ∧
      ∃ vw' vb', IsHp n₀ bh b vw' vb' w' (cutA A (L.find? (fun y => decide (y < t))) t) ∧ Step b vw vb w vw' vb' w' := by
  have h1 := there_in h
  have h2 := end_in h.ar
  have h3 := lastAhead_in h.ar A.last L hL t
  have hc3 := h.ar.c3
  obtain ⟨st, hst⟩ : ∃ st, L.find? (fun y => decide (y < t)) = st := ⟨_, rfl⟩
  have hst2 : ∀ j, st = some j → j < A.ws.length := fun j hj => (back_find hL (by rw [hst]; exact hj)).1
  rw [hst] at h3 hw ⊢
  have HL : Hid (A.bs.length = A.ws.length) := hl
  clear hL hst hl
  obtain ⟨en, hen⟩ : ∃ en, endAt A st = en := ⟨_, rfl⟩
  go_enter Tryz.func99, Tryz.ntmps99
  go_wp2_with (first
    | (go_at_call 125; refine h1.mono ?_; clear h1; rintro e w' ⟨rfl, rfl⟩)
    | (go_at_call 126; refine h2.mono ?_; clear h2; rintro e w' ⟨rfl, rfl⟩)
    | (go_at_call 174; refine h3.mono ?_; clear h3; rintro e w2 ⟨rfl, hB⟩; have h4 := endOf_in (h.ar.below hB) st hst2; rw [hen] at h4 hw)
    | (go_at_call 175; refine h4.mono ?_; clear h4; rintro e w3 ⟨rfl, rfl⟩; have h5 := cut_in (h.ar.below hB) st t hst2 ht HL.out)
    | (go_at_call 176; refine h5.mono ?_; clear h5; rintro e w4 ⟨rfl, vw', vb', hA4, hS4⟩))
  go_ret
  exact ⟨rfl, _, _, (h.below hB).step hS4 hA4, (Step.of_below hB).trans hS4⟩

end Go.Proofs.YtampilfebmfhaaaGreatDoor

namespace Go.Proofs.YtampilfebmfhaaaGreatDoor
open Go.RowKit

def iv (x : Int) : Value := .int .i64 x

/-- k pairs, from outside, have been exchanged. -/
def RevAt (xs vals : List Int) (k : Nat) : Prop :=
  vals.length = xs.length ∧ ∀ t, t < xs.length → vals[t]? = if t < k ∨ xs.length - k ≤ t then xs[xs.length - 1 - t]? else xs[t]?

theorem RevAt.zero (xs : List Int) : RevAt xs xs 0 := ⟨rfl, fun t ht => by rw [if_neg (by omega)]⟩

theorem RevAt.all {xs vals : List Int} {k : Nat} (h : RevAt xs vals k) (hk : xs.length ≤ 2 * k + 1) : vals = xs.reverse := by
  apply List.ext_getElem?
  intro t
  by_cases ht : t < xs.length
  · rw [h.2 t ht, List.getElem?_reverse ht]
    by_cases hc : t < k ∨ xs.length - k ≤ t
    · rw [if_pos hc]
    · rw [if_neg hc, show xs.length - 1 - t = t by omega]
  · rw [List.getElem?_eq_none (by rw [h.1]; omega), List.getElem?_eq_none (by simp; omega)]

theorem RevAt.swap {xs vals : List Int} {k m : Nat} (h : RevAt xs vals k) (hm : m = xs.length - 1 - k) (hlt : k < m) (hkn : k < xs.length) {a c : Int} (ha : vals[k]? = some a) (hc : vals[m]? = some c) : RevAt xs ((vals.set k c).set m a) (k + 1) := by
  have ha' := h.2 k hkn
  have hc' := h.2 m (by omega)
  rw [if_neg (by omega)] at ha' hc'
  refine ⟨by simp [h.1], fun t ht => ?_⟩
  rw [List.getElem?_set, List.getElem?_set]
  by_cases e1 : m = t
  · subst e1
    rw [if_pos rfl, if_pos (by simp [h.1]; omega), if_pos (by omega), show xs.length - 1 - m = k by omega, ← ha', ha]
  · rw [if_neg e1]
    by_cases e2 : k = t
    · subst e2
      rw [if_pos rfl, if_pos (by rw [h.1]; omega), if_pos (by omega), ← hm, ← hc', hc]
    · rw [if_neg e2, h.2 t ht]
      by_cases e3 : t < k ∨ xs.length - k ≤ t
      · rw [if_pos e3, if_pos (by omega)]
      · rw [if_neg e3, if_neg (by omega)]

set_option maxHeartbeats 4000000 in
theorem reverse_in (n₀ n c : Nat) (p : Option Addr) (xs : List Int) (w : World) (h : w.ownsRow n₀ 2 1 (.slice p n c) n (xs.map iv)) (hn : n ≤ 1048576) :
    Calls Tryz.prog 128 #[.slice p n c] w fun e w' => e = .returned (.tuple #[]) ∧ w'.ownsRow n₀ 2 1 (.slice p n c) n (xs.reverse.map iv) ∧ w.grownBy w' (Value.slice p n c).ownBlock := by
  have hxl : xs.length = n := by simpa using h.1
  go_enter Tryz.func128, Tryz.ntmps128
  go_wp2
  go_loopw [2, 3] (fun i j wr => ∃ (k : Nat) (vals : List Int), i = .int .i64 k ∧ j = .int .i64 ((n : Int) - 1 - k) ∧ 2 * k ≤ n + 1 ∧ RevAt xs vals k ∧ wr.ownsRow n₀ 2 1 (.slice p n c) n (vals.map iv) ∧ w.grownBy wr (Value.slice p n c).ownBlock) (fun i _ _ => n - (intOf i).toNat)
  case atStart => exact ⟨0, xs, rfl, by simp, by omega, RevAt.zero xs, h, World.grownBy.refl _ _⟩
  case round =>
    obtain ⟨k, vals, rfl, rfl, hk, hR, hown, hg⟩ := hrel
    by_cases hlt : 2 * k + 1 < n
    · obtain ⟨m, hm⟩ : ∃ m : Nat, (n : Int) - 1 - k = m := ⟨n - 1 - k, by omega⟩
      rw [hm]
      have hkm : k < m := by omega
      have hmn : m < n := by omega
      have hne : ¬ k = m := by omega
      have hne' : ¬ m = k := by omega
      obtain ⟨g, c', hs, _, _⟩ := IsAr.row_some hown (by omega)
      simp only [Value.slice.injEq, true_and] at hs
      obtain ⟨rfl, rfl⟩ := hs
      have hvl : vals.length = n := by rw [hR.1, hxl]
      obtain ⟨a, ha⟩ : ∃ a, vals[k]? = some a := ⟨vals[k]'(by omega), by simp⟩
      obtain ⟨d, hd⟩ : ∃ d, vals[m]? = some d := ⟨vals[m]'(by omega), by simp⟩
      have c1 : wr.cell? ⟨g, k, none⟩ = some (.int .i64 a) := by rw [hown.cellAt k (by omega)]; simp [ha, iv]
      have c2 : wr.cell? ⟨g, m, none⟩ = some (.int .i64 d) := by rw [hown.cellAt m (by omega)]; simp [hd, iv]
      have f1 := hown.frozenAt k
      have f2 := hown.frozenAt m
      have o1 := hown.stored k (.int .i64 d)
      have o2 := o1.1.stored m (.int .i64 a)
      have H : Hid (RevAt xs ((vals.set k d).set m a) (k + 1) ∧ ((wr.setCell ⟨g, k, none⟩ (.int .i64 d)).setCell ⟨g, m, none⟩ (.int .i64 a)).ownsRow n₀ 2 1 (.slice (some ⟨g, 0, none⟩) n c) n (((vals.set k d).set m a).map iv)) :=
        ⟨hR.swap (by omega) hkm (by omega) ha hd, by simpa [iv, List.map_set] using o2.1⟩
      have HG : Hid (w.grownBy ((wr.setCell ⟨g, k, none⟩ (.int .i64 d)).setCell ⟨g, m, none⟩ (.int .i64 a)) (some g)) :=
        ⟨hg.os, hg.tape, hg.output, Nat.le_trans hg.size (Nat.le_trans o1.2.size o2.2.size), fun q hq hqr => (o2.2.block q (Nat.lt_of_lt_of_le hq (Nat.le_trans hg.size o1.2.size)) hqr).trans ((o1.2.block q (Nat.lt_of_lt_of_le hq hg.size) hqr).trans (hg.block q hq hqr))⟩
      have HM : Hid ((n : Int) - 1 - k = m) := hm
      clear hm hR hown hg ha hd hvl o1 o2 hxl h
      go_wp2
      go_region
      go_wp2
      go_roundw
      case rel =>
        refine ⟨k + 1, _, by go_num, ?_, by omega, H.out.1, H.out.2, ⟨HG.out.os, HG.out.tape, HG.out.output, HG.out.size, HG.out.block⟩⟩
        have := HM.out
        congr 1
        omega
      case measure => simp [intOf]; omega
    · have hge : (n : Int) - 1 - k ≤ k := by omega
      go_wp2
      go_end0
      refine ⟨rfl, ?_, hg⟩
      rw [hR.all (by omega)] at hown
      exact hown

end Go.Proofs.YtampilfebmfhaaaGreatDoor

namespace Go.Proofs.YtampilfebmfhaaaGreatDoor
open Go.RowKit Go.Shelf

attribute [local go_sem] Oper.semAt_some

variable {n₀ bh b : Nat} {vw vb : Value} {w : World} {A : Ar}

theorem info2 : (Tryz.prog.info? 2).map (fun i => (i.zero, i.size, i.bytes)) = some (some (.int .i64 0), 1, 8) := by kernel_rfl

def pv (x : Nat) : Value := .int .i64 x

theorem row_mono {w : World} {base base' : Nat} {e : TypeId} {v : Value} {n : Nat} {xs : List Value} (h : w.ownsRow base e 1 v n xs) (hb : base' ≤ base) : w.ownsRow base' e 1 v n xs := by
  refine ⟨h.1, ?_⟩
  rcases h.2 with hn | ⟨g, cap, cur, hv, hg, rest⟩
  · exact .inl hn
  · exact .inr ⟨g, cap, cur, hv, Nat.le_trans hb hg, rest⟩

theorem boxed_appended {W w1 : World} {m₀ B : Nat} {t e : TypeId} {v v' : Value} {k m : Nat} {xs ys : List Value} {tmp : Obj}
    (hv : Boxed W B t v) (hrow : W.ownsRow m₀ e 1 v k xs) (hm₀ : m₀ ≤ W.heap.size) (hB : B < m₀)
    (hown' : w1.ownsRow m₀ e 1 v' m ys) (hgrow : (W.alloc tmp).grownBy w1 v.ownBlock) :
    Boxed w1 B t v ∧ Boxed (w1.setCell ⟨B, 0, none⟩ v') B t v' ∧ (w1.setCell ⟨B, 0, none⟩ v').ownsRow m₀ e 1 v' m ys ∧ KeepsOthers W (w1.setCell ⟨B, 0, none⟩ v') ∧
      (∀ q, q < m₀ → q ≠ B → (w1.setCell ⟨B, 0, none⟩ v').heap[q]? = W.heap[q]?) ∧ (w1.setCell ⟨B, 0, none⟩ v').os = W.os ∧ (w1.setCell ⟨B, 0, none⟩ v').tape = W.tape ∧ (w1.setCell ⟨B, 0, none⟩ v').output = W.output := by
  have hne : ∀ q, q < m₀ → some q ≠ v.ownBlock := fun q hq e => by have := (hrow.lt q e.symm).1; omega
  have hne' : ∀ q, q < m₀ → v'.ownBlock ≠ some q := fun q hq e => by have := (hown'.lt q e).1; omega
  have hv1 : Boxed w1 B t v := (hv.alloc tmp).kept hgrow (hne B hB)
  refine ⟨hv1, hv1.set v', hown'.kept (grownBy_setCell' w1 B v') (.inr (hne' B hB)), ?_, ?_, hgrow.os, hgrow.tape, hgrow.output⟩
  · refine ((KeepsOthers.alloc W tmp).trans (KeepsOthers.of_grownBy hgrow fun j o ej hj => ?_)).trans (KeepsOthers.setCell _ _ _)
    rcases (hrow.alloc tmp).2 with ⟨rfl, _⟩ | ⟨g, cap, cur, rfl, _, hgb, _⟩
    · simp [Value.ownBlock] at ej
    · obtain rfl : g = j := by simpa [Value.ownBlock] using ej
      rw [hgb] at hj; cases hj; rfl
  · intro q hq hqB
    rw [heap_setCell_other w1 ⟨B, 0, none⟩ q _ hqB, hgrow.block q (by simp; omega) (hne q hq)]
    exact Below.heap_alloc _ _ _ (by omega)

set_option maxRecDepth 100000 in
set_option maxHeartbeats 2000000 in
theorem places_in (h : IsHp n₀ bh b vw vb w A) (L : List Nat) (hL : BackOf A.ws A.last L) (hLl : L.length ≤ 1048576) :
    Calls Tryz.prog 30 #[.pointer (some ⟨bh, 0, none⟩)] w fun e W' => ∃ p c, e = .returned (.slice p L.length c) ∧
      W'.ownsRow w.heap.size 2 1 (.slice p L.length c) L.length (L.reverse.map pv) ∧ Below w.heap.size w W' := by
  obtain ⟨xs, rfl⟩ := fins (M := A.ws.length) L hL.lt
  have hth := there_in h
  have hc3 := cell_alloc_l (.cells #[.slice none 0 0] 29) h.ar.c3
  obtain ⟨i0, hi, hz0, hz1, hz2⟩ := info_parts info2
  refine (callsIn_wide (n := 3)).1 ?_
  have h1 : 1 ≤ 3 := by omega
  refine callsIn_of_wp_marks Tryz.func30 rfl trivial ?_ rfl
  simp only [Tryz.ntmps30, List.size_toArray, List.length_cons, List.length_nil, Nat.reduceAdd, Nat.reduceSub, Array.replicate_succ, Array.replicate_zero, List.push_toArray, List.append_toArray, List.nil_append, List.cons_append]
  gi_wp2_with (first
    | (refine ⟨trivial, ?_⟩; gi_at_call 125; refine (callsIn_wide.2 hth).mono ?_; clear hth; rintro e w' ⟨rfl, rfl⟩)
    | (refine ⟨trivial, ?_⟩; gi_at_call 127; refine (callsIn_wide.2 (back_in _ _)).mono ?_; rintro e w' ⟨rfl, rfl⟩))
  obtain ⟨w, hw⟩ : ∃ w, w = w' := ⟨_, rfl⟩
  subst hw
  have bO := Boxed.new w 29 (.slice none 0 0)
  have c1 := cell_new_l (w.alloc (.cells #[.slice none 0 0] 29)) (.pointer (some ⟨b, 0, none⟩)) 111
  have c2 := cell_new_l ((w.alloc (.cells #[.slice none 0 0] 29)).alloc (.cells #[.pointer (some ⟨b, 0, none⟩)] 111)) (.int .i64 (optI A.last)) 2
  simp only [World.size_alloc] at c1 c2
  have hB0 : Below w.heap.size w (((w.alloc (.cells #[.slice none 0 0] 29)).alloc (.cells #[.pointer (some ⟨b, 0, none⟩)] 111)).alloc (.cells #[.int .i64 (optI A.last)] 2)) :=
    (((Below.refl _ w).alloc (Nat.le_refl _) _).alloc (by simp) _).alloc (by simp; omega) _
  have hA0 := h.ar.below hB0
  have hbl := h.ar.lt
  have hvl := fun k e => (h.ar.rw.lt k e).2
  refine wpIn_rangeFunc_ownF rfl h1 (gf := 187) (lb := #[.pointer (some ⟨w.heap.size + 1 + 1, 0, none⟩), .pointer (some ⟨w.heap.size + 1, 0, none⟩)]) rfl trivial (enters_of Tryz.func187 (by kernel_rfl) rfl)
    (back1_stops 2 (w.heap.size + 1) (w.heap.size + 1 + 1) A.ws.length (by omega) A.last xs hL hA0.toW (by simp; omega) c2.1 (cell_alloc_l _ c1.1)) (fun h k => h.trans k) (fun W l o o' hl _ _ _ => KpW.putObj (S := w.heap.size + 1 + 1 + 1) (by omega) (fun k e => by have := hvl k e; omega) (by omega) (by omega) W l o' (by simpa using hl)) (Below.refl _ _) (fun _ => rfl)
    (fun pre W => (∃ v, Boxed W w.heap.size 29 v ∧ W.ownsRow (w.heap.size + 3) 2 1 v pre.length (pre.map (fun x => pv x.val)) ∧ True) ∧ (Below w.heap.size w W ∧ w.heap.size + 3 ≤ W.heap.size))
    (fun _ _ _ => False)
    (OwnFrom.and (Own.from (holdsRow_own (w.heap.size + 3) w.heap.size 29 2 1 (fun pre : List (Fin A.ws.length) => pre.length) (fun pre : List (Fin A.ws.length) => pre.map (fun x => pv x.val)) (fun _ _ => True)) _) (OwnFrom.and (ownFrom_below (Nat.le_refl _) (by simp; omega)) (fun s W W' row hs hg hr => Nat.le_trans hs hg.size)))
    (fun _ _ _ _ _ hs _ _ => hs)
    ⟨⟨_, (bO.alloc _).alloc _, World.ownsRow_nil _ _ _ _, trivial⟩, hB0, by simp⟩
    (fun x => { tmps := #[.pointer (some ⟨bh, 0, none⟩), undef, .slice none 0 0, .pointer (some ⟨b, 0, none⟩), .pointer (some ⟨w.heap.size, 0, none⟩), .int .i64 x.val, .pointer (some ⟨bh, 0, none⟩), .pointer (some ⟨b, 0, none⟩), .pointer (some ⟨b, 0, none⟩), .bool false, .pointer (some ⟨b, 0, none⟩), .pointer (some ⟨b, 0, none⟩), .pointer (some ⟨b, 0, none⟩), .pointer (some ⟨b, 3, none⟩), .int .i64 (optI A.last), .func (.func 187) #[] #[.pointer (some ⟨w.heap.size + 1 + 1, 0, none⟩), .pointer (some ⟨w.heap.size + 1, 0, none⟩)], .int .i64 x.val, undef, undef, undef, undef, undef, undef, undef], defers := [] }) ?assign ?body ?done ?stop
  case assign =>
    intro l x W K hK
    gi_wp2
    exact hK
  case body =>
    rintro l pre x W ⟨⟨v, hv, hrow, -⟩, hB, hsz⟩ hlt
    have hc := hv.cell
    have hpl : pre.length < 1048576 := by simp at hLl; omega
    gi_wp2_with (gi_at_builtin; refine wpListIn_append_own _ rfl _ _ 29 rfl (w.heap.size + 3) 2 i0 (.int .i64 0) 1 8 Tryz.underlying29 hi hz0 hz1 hz2 rfl (by decide) _ _ _ rfl (hrow.alloc _) ⟨W.heap.size, 0, none⟩ 1 1 [.int .i64 x.val] rfl rfl (cell_one_new _ _ _) (by simp [Value.oneCell']) (by unfold maxLen; omega) (by omega) (by simp; omega) ?_; intro v' w1 hown' hgrow _; obtain ⟨g', cap', rfl⟩ := ownsRow_succ hown'; obtain ⟨hv1, hv2, hr2, hk2, hb2, ho1, ho2, ho3⟩ := boxed_appended hv hrow hsz (by omega) hown' hgrow; have hc1 := hv1.cell; have hf1 := hv1.frozen)
    have hbw : Below w.heap.size W (w1.setCell ⟨w.heap.size, 0, none⟩ (.slice (some ⟨g', 0, none⟩) (pre.length + 1) cap')) := ⟨ho1, ho2, ho3, hk2.size, fun k hk => hb2 k (by omega) (by omega)⟩
    exact ⟨hk2, ⟨hb2 b (by omega) (by omega), fun k e => hb2 k (by have := hvl k e; omega) (by have := hvl k e; omega), hb2 _ (by omega) (by omega), hb2 _ (by omega) (by omega)⟩, ⟨_, hv2, by simpa [pv] using hr2, trivial⟩, hB.trans hbw, Nat.le_trans hsz hk2.size⟩
  case done =>
    rintro D ys W hD rfl ⟨⟨v, hv, hrow, -⟩, hB, hsz⟩ hK
    have hc := hv.cell
    obtain ⟨p, c, rfl, _, _⟩ := IsAr.row_form hrow
    have hrev := reverse_in (w.heap.size + 3) ys.length c p (ys.map (fun x => (x.val : Int))) W (by simpa [pv, iv, Function.comp_def] using hrow) (by simpa using hLl)
    gi_wp2_with (refine ⟨trivial, ?_⟩; gi_at_call 128; refine (callsIn_wide.2 hrev).mono ?_; clear hrev; rintro e W2 ⟨rfl, hrow2, hg2⟩
                 have hv2 := hv.kept hg2 (fun e => by have := (hrow.lt _ e.symm).1; omega)
                 have hc2 := hv2.cell)
    have hKW : W2.heap[D]? = some (.deferred (some [])) := (hg2.block D (Array.getElem?_eq_some_iff.1 hK).1 (fun e => by obtain ⟨cur, hcur⟩ := IsAr.row_type hrow e.symm; rw [hK] at hcur; cases hcur)).trans hK
    have hB2 : Below w.heap.size w W2 := hB.grown hg2 hB.size (fun k e => by have := (hrow.lt k e).1; omega)
    refine ⟨by simp, .inl ⟨_, _, rfl, run_takeDeferred hKW, ?_⟩⟩
    refine ⟨_, results_tmp rfl _ _ _, p, c, by simp, ?_, hB2.trans (belowK_b (w := w) (Nat.le_refl _) W2 D _ _ (by simp at hD; omega) hKW rfl rfl)⟩
    have hr3 := row_mono (ownsRow_putObj hrow2 (.deferred none) hKW rfl) (base' := w.heap.size) (by omega)
    simpa [pv, iv, Function.comp_def, List.map_reverse] using hr3
  case stop =>
    rintro D c pre W _ _ h _
    exact h.elim

end Go.Proofs.YtampilfebmfhaaaGreatDoor
