/- slices.Reverse at []int64. -/
import Derived.Test.YtampilfebmfhaaaGreatDoorOps
namespace Go.Proofs.YtampilfebmfhaaaGreatDoor
open Go.RowKit

def iv (x : Int) : Value := .int .i64 x

/-- k pairs, from outside, have been exchanged. -/
def RevAt (xs vals : List Int) (k : Nat) : Prop :=
  vals.length = xs.length ∧ ∀ t, t < xs.length → vals[t]? = if t < k ∨ xs.length - k ≤ t then xs[xs.length - 1 - t]? else xs[t]?

theorem RevAt.zero (xs : List Int) : RevAt xs xs 0 := ⟨rfl, fun t ht => by rw [if_neg (by omega)]⟩

theorem RevAt.all {xs vals : List Int} {k : Nat} (h : RevAt xs vals k) (hk : xs.length ≤ 2 * k + 1) : vals = xs.reverse := by
  apply List.ext_getElem?
  intro t
  by_cases ht : t < xs.length
  · rw [h.2 t ht, List.getElem?_reverse ht]
    by_cases hc : t < k ∨ xs.length - k ≤ t
    · rw [if_pos hc]
    · rw [if_neg hc, show xs.length - 1 - t = t by omega]
  · rw [List.getElem?_eq_none (by rw [h.1]; omega), List.getElem?_eq_none (by simp; omega)]

theorem RevAt.swap {xs vals : List Int} {k m : Nat} (h : RevAt xs vals k) (hm : m = xs.length - 1 - k) (hlt : k < m) (hkn : k < xs.length) {a c : Int} (ha : vals[k]? = some a) (hc : vals[m]? = some c) : RevAt xs ((vals.set k c).set m a) (k + 1) := by
  have ha' := h.2 k hkn
  have hc' := h.2 m (by omega)
  rw [if_neg (by omega)] at ha' hc'
  refine ⟨by simp [h.1], fun t ht => ?_⟩
  rw [List.getElem?_set, List.getElem?_set]
  by_cases e1 : m = t
  · subst e1
    rw [if_pos rfl, if_pos (by simp [h.1]; omega), if_pos (by omega), show xs.length - 1 - m = k by omega, ← ha', ha]
  · rw [if_neg e1]
    by_cases e2 : k = t
    · subst e2
      rw [if_pos rfl, if_pos (by rw [h.1]; omega), if_pos (by omega), ← hm, ← hc', hc]
    · rw [if_neg e2, h.2 t ht]
      by_cases e3 : t < k ∨ xs.length - k ≤ t
      · rw [if_pos e3, if_pos (by omega)]
      · rw [if_neg e3, if_neg (by omega)]

set_option maxHeartbeats 4000000 in
theorem reverse_in (n₀ n c : Nat) (p : Option Addr) (xs : List Int) (w : World) (h : w.ownsRow n₀ 2 1 (.slice p n c) n (xs.map iv)) (hn : n ≤ 1048576) :
    Calls Tryz.prog 128 #[.slice p n c] w fun e w' => e = .returned (.tuple #[]) ∧ w'.ownsRow n₀ 2 1 (.slice p n c) n (xs.reverse.map iv) ∧ w.grownBy w' (Value.slice p n c).ownBlock := by
  have hxl : xs.length = n := by simpa using h.1
  go_enter Tryz.func128, Tryz.ntmps128
  go_wp2
  go_loopw [2, 3] (fun i j wr => ∃ (k : Nat) (vals : List Int), i = .int .i64 k ∧ j = .int .i64 ((n : Int) - 1 - k) ∧ 2 * k ≤ n + 1 ∧ RevAt xs vals k ∧ wr.ownsRow n₀ 2 1 (.slice p n c) n (vals.map iv) ∧ w.grownBy wr (Value.slice p n c).ownBlock) (fun i _ _ => n - (intOf i).toNat)
  case atStart => exact ⟨0, xs, rfl, by simp, by omega, RevAt.zero xs, h, World.grownBy.refl _ _⟩
  case round =>
    obtain ⟨k, vals, rfl, rfl, hk, hR, hown, hg⟩ := hrel
    by_cases hlt : 2 * k + 1 < n
    · obtain ⟨m, hm⟩ : ∃ m : Nat, (n : Int) - 1 - k = m := ⟨n - 1 - k, by omega⟩
      rw [hm]
      have hkm : k < m := by omega
      have hmn : m < n := by omega
      have hne : ¬ k = m := by omega
      have hne' : ¬ m = k := by omega
      obtain ⟨g, c', hs, _, _⟩ := IsAr.row_some hown (by omega)
      simp only [Value.slice.injEq, true_and] at hs
      obtain ⟨rfl, rfl⟩ := hs
      have hvl : vals.length = n := by rw [hR.1, hxl]
      obtain ⟨a, ha⟩ : ∃ a, vals[k]? = some a := ⟨vals[k]'(by omega), by simp⟩
      obtain ⟨d, hd⟩ : ∃ d, vals[m]? = some d := ⟨vals[m]'(by omega), by simp⟩
      have c1 : wr.cell? ⟨g, k, none⟩ = some (.int .i64 a) := by rw [hown.cellAt k (by omega)]; simp [ha, iv]
      have c2 : wr.cell? ⟨g, m, none⟩ = some (.int .i64 d) := by rw [hown.cellAt m (by omega)]; simp [hd, iv]
      have f1 := hown.frozenAt k
      have f2 := hown.frozenAt m
      have o1 := hown.stored k (.int .i64 d)
      have o2 := o1.1.stored m (.int .i64 a)
      have H : Hid (RevAt xs ((vals.set k d).set m a) (k + 1) ∧ ((wr.setCell ⟨g, k, none⟩ (.int .i64 d)).setCell ⟨g, m, none⟩ (.int .i64 a)).ownsRow n₀ 2 1 (.slice (some ⟨g, 0, none⟩) n c) n (((vals.set k d).set m a).map iv)) :=
        ⟨hR.swap (by omega) hkm (by omega) ha hd, by simpa [iv, List.map_set] using o2.1⟩
      have HG : Hid (w.grownBy ((wr.setCell ⟨g, k, none⟩ (.int .i64 d)).setCell ⟨g, m, none⟩ (.int .i64 a)) (some g)) :=
        ⟨hg.os, hg.tape, hg.output, Nat.le_trans hg.size (Nat.le_trans o1.2.size o2.2.size), fun q hq hqr => (o2.2.block q (Nat.lt_of_lt_of_le hq (Nat.le_trans hg.size o1.2.size)) hqr).trans ((o1.2.block q (Nat.lt_of_lt_of_le hq hg.size) hqr).trans (hg.block q hq hqr))⟩
      have HM : Hid ((n : Int) - 1 - k = m) := hm
      clear hm hR hown hg ha hd hvl o1 o2 hxl h
      go_wp2
      go_region
      go_wp2
      go_roundw
      case rel =>
        refine ⟨k + 1, _, by go_num, ?_, by omega, H.out.1, H.out.2, ⟨HG.out.os, HG.out.tape, HG.out.output, HG.out.size, HG.out.block⟩⟩
        have := HM.out
        congr 1
        omega
      case measure => simp [intOf]; omega
    · have hge : (n : Int) - 1 - k ≤ k := by omega
      go_wp2
      go_end0
      refine ⟨rfl, ?_, hg⟩
      rw [hR.all (by omega)] at hown
      exact hown

end Go.Proofs.YtampilfebmfhaaaGreatDoor
