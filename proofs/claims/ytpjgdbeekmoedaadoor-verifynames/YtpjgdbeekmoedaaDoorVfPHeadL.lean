/- A region's order, step by step. -/
import Derived.Test.YtpjgdbeekmoedaaDoorVfPHeadG
namespace Go.Proofs.YtpjgdbeekmoedaaDoor
set_option linter.unusedVariables false
set_option linter.unusedSimpArgs false
open Go.RowKit

/-- The first k operations are listed. -/
def lst (n k : Nat) : Array Bool := (List.replicate k true ++ List.replicate (n - k) false).toArray

theorem lst_set {n k : Nat} (h : k < n) : (lst n k).setIfInBounds k true = lst n (k + 1) := by
  unfold lst
  rw [List.setIfInBounds_toArray]
  congr 1
  apply List.ext_getElem?
  intro j
  rw [List.getElem?_set]
  by_cases q : k = j
  · subst q
    simp [List.getElem?_append, List.getElem?_replicate]
    omega
  · simp only [q, if_false]
    simp only [List.getElem?_append, List.getElem?_replicate, List.length_replicate]
    repeat' split
    all_goals first | rfl | (exfalso; omega)

def stepB (n : Nat) (ops : Array Oper) (k : Nat) : Bool := (Region.ready .any ops (lst n k)).contains k && Region.free .any ops (lst n k) k

theorem lex_from {ops : Array Oper} {n : Nat} (h : ∀ k, k < n → stepB n ops k = true) (hl : Region.lexFrom .any ops 0 n (lst n n) = true) : ∀ (m k : Nat), k + m = n → Region.lexFrom .any ops m k (lst n k) = true
  | 0, k, e => by
    have : k = n := by omega
    subst this
    exact hl
  | m + 1, k, e => by
    have h1 := h k (by omega)
    unfold stepB at h1
    rw [Bool.and_eq_true] at h1
    unfold Region.lexFrom
    rw [h1.1, h1.2, lst_set (by omega), lex_from h hl m (k + 1) (by omega)]
    rfl

theorem lex_of {ops : Array Oper} (hn : ops.size = 107) (h0 : Region.noSelect ops = true) (hl : Region.lexFrom .any ops 0 107 (lst 107 107) = true)
    (h : ∀ i, i < 27 → ((List.range' (4 * i) (min 4 (107 - 4 * i))).all (stepB 107 ops)) = true) : Region.lexB .any ops = true := by
  unfold Region.lexB
  rw [h0, Bool.true_and, hn]
  have e : Array.replicate 107 false = lst 107 0 := rfl
  rw [e]
  refine lex_from (fun k hk => ?_) hl 107 0 rfl
  have h1 := h (k / 4) (by omega)
  rw [List.all_eq_true] at h1
  refine h1 k (List.mem_range'.2 ⟨k - 4 * (k / 4), by omega, by omega⟩)

/-- The operations of a region that draws its order. -/
def regOf (k : Nat) : Code → Option (Array Oper)
  | .region id ops true => if id = k then some ops else none
  | .seq a b => (regOf k a).or (regOf k b)
  | .block _ a => regOf k a
  | .scope a => regOf k a
  | .loop a => regOf k a
  | .cond _ a b => (regOf k a).or (regOf k b)
  | _ => none

theorem chunk_of {α β : Type} {x : Option α} {f : α → β} {b : β} (h : x.map f = some b) {a : α} (ha : x = some a) : f a = b := by
  rw [ha] at h
  exact Option.some.inj h

end Go.Proofs.YtpjgdbeekmoedaaDoor
