/- slices.Reverse at []int64. -/
import Derived.Test.YtkombdkhodjckaaOps
import Derived.Maps.AppendAt
namespace Go.Proofs.Ytkombdkhodjckaa
open Go.RowKit

def iv (x : Int) : Value := .int .i64 x

/-- k pairs, from outside, have been exchanged. -/
def RevAt (xs vals : List Int) (k : Nat) : Prop :=
  vals.length = xs.length ∧ ∀ t, t < xs.length → vals[t]? = if t < k ∨ xs.length - k ≤ t then xs[xs.length - 1 - t]? else xs[t]?

theorem RevAt.zero (xs : List Int) : RevAt xs xs 0 := ⟨rfl, fun t ht => by rw [if_neg (by omega)]⟩

theorem RevAt.all {xs vals : List Int} {k : Nat} (h : RevAt xs vals k) (hk : xs.length ≤ 2 * k + 1) : vals = xs.reverse := by
  apply List.ext_getElem?
  intro t
  by_cases ht : t < xs.length
  · rw [h.2 t ht, List.getElem?_reverse ht]
    by_cases hc : t < k ∨ xs.length - k ≤ t
    · rw [if_pos hc]
    · rw [if_neg hc, show xs.length - 1 - t = t by omega]
  · rw [List.getElem?_eq_none (by rw [h.1]; omega), List.getElem?_eq_none (by simp; omega)]

theorem RevAt.swap {xs vals : List Int} {k m : Nat} (h : RevAt xs vals k) (hm : m = xs.length - 1 - k) (hlt : k < m) (hkn : k < xs.length) {a c : Int} (ha : vals[k]? = some a) (hc : vals[m]? = some c) : RevAt xs ((vals.set k c).set m a) (k + 1) := by
  have ha' := h.2 k hkn
  have hc' := h.2 m (by omega)
  rw [if_neg (by omega)] at ha' hc'
  refine ⟨by simp [h.1], fun t ht => ?_⟩
  rw [List.getElem?_set, List.getElem?_set]
  by_cases e1 : m = t
  · subst e1
    rw [if_pos rfl, if_pos (by simp [h.1]; omega), if_pos (by omega), show xs.length - 1 - m = k by omega, ← ha', ha]
  · rw [if_neg e1]
    by_cases e2 : k = t
    · subst e2
      rw [if_pos rfl, if_pos (by rw [h.1]; omega), if_pos (by omega), ← hm, ← hc', hc]
    · rw [if_neg e2, h.2 t ht]
      by_cases e3 : t < k ∨ xs.length - k ≤ t
      · rw [if_pos e3, if_pos (by omega)]
      · rw [if_neg e3, if_neg (by omega)]

end Go.Proofs.Ytkombdkhodjckaa

namespace Go.Proofs.Ytkombdkhodjckaa
open Go.RowKit Go.Shelf

attribute [local go_sem] Oper.semAt_some

variable {n₀ bh b : Nat} {vw vb : Value} {w : World} {A : Ar}

theorem info2 : (Try.prog.info? 2).map (fun i => (i.zero, i.size, i.bytes)) = some (some (.int .i64 0), 1, 8) := by kernel_rfl

def pv (x : Nat) : Value := .int .i64 x

theorem row_mono {w : World} {base base' : Nat} {e : TypeId} {v : Value} {n : Nat} {xs : List Value} (h : w.ownsRow base e 1 v n xs) (hb : base' ≤ base) : w.ownsRow base' e 1 v n xs := by
  refine ⟨h.1, ?_⟩
  rcases h.2 with hn | ⟨g, cap, cur, hv, hg, rest⟩
  · exact .inl hn
  · exact .inr ⟨g, cap, cur, hv, Nat.le_trans hb hg, rest⟩

theorem boxed_appended {W w1 : World} {m₀ B : Nat} {t e : TypeId} {v v' : Value} {k m : Nat} {xs ys : List Value} {tmp : Obj}
    (hv : Boxed W B t v) (hrow : W.ownsRow m₀ e 1 v k xs) (hm₀ : m₀ ≤ W.heap.size) (hB : B < m₀)
    (hown' : w1.ownsRow m₀ e 1 v' m ys) (hgrow : (W.alloc tmp).grownBy w1 v.ownBlock) :
    Boxed w1 B t v ∧ Boxed (w1.setCell ⟨B, 0, none⟩ v') B t v' ∧ (w1.setCell ⟨B, 0, none⟩ v').ownsRow m₀ e 1 v' m ys ∧ KeepsOthers W (w1.setCell ⟨B, 0, none⟩ v') ∧
      (∀ q, q < m₀ → q ≠ B → (w1.setCell ⟨B, 0, none⟩ v').heap[q]? = W.heap[q]?) ∧ (w1.setCell ⟨B, 0, none⟩ v').os = W.os ∧ (w1.setCell ⟨B, 0, none⟩ v').tape = W.tape ∧ (w1.setCell ⟨B, 0, none⟩ v').output = W.output := by
  have hne : ∀ q, q < m₀ → some q ≠ v.ownBlock := fun q hq e => by have := (hrow.lt q e.symm).1; omega
  have hne' : ∀ q, q < m₀ → v'.ownBlock ≠ some q := fun q hq e => by have := (hown'.lt q e).1; omega
  have hv1 : Boxed w1 B t v := (hv.alloc tmp).kept hgrow (hne B hB)
  refine ⟨hv1, hv1.set v', hown'.kept (grownBy_setCell' w1 B v') (.inr (hne' B hB)), ?_, ?_, hgrow.os, hgrow.tape, hgrow.output⟩
  · refine ((KeepsOthers.alloc W tmp).trans (KeepsOthers.of_grownBy hgrow fun j o ej hj => ?_)).trans (KeepsOthers.setCell _ _ _)
    rcases (hrow.alloc tmp).2 with ⟨rfl, _⟩ | ⟨g, cap, cur, rfl, _, hgb, _⟩
    · simp [Value.ownBlock] at ej
    · obtain rfl : g = j := by simpa [Value.ownBlock] using ej
      rw [hgb] at hj; cases hj; rfl
  · intro q hq hqB
    rw [heap_setCell_other w1 ⟨B, 0, none⟩ q _ hqB, hgrow.block q (by simp; omega) (hne q hq)]
    exact Below.heap_alloc _ _ _ (by omega)

end Go.Proofs.Ytkombdkhodjckaa
