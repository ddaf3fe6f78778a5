/- HeapKeeps: the plain part. -/
import Derived.Test.YtkegkpaepkolhaaAlive
namespace Go.Proofs.Ytkegkpaepkolhaa
open Go.RowKit

/-- What is told of a slice of numbers that came in. -/
def ToldS (k : IntKind) (B : Nat) (w : World) (p : Option Addr) (len : Nat) (s : Nat → Nat) : Prop :=
  ∀ j, j < len → s j < B ∧ ∃ b0 off : Nat, p = some ⟨b0, off, none⟩ ∧ ∀ w', Below w.heap.size w w' → w'.cell? ⟨b0, off + j, none⟩ = some (.int k (s j))
def ToldB (w : World) (p : Option Addr) (len : Nat) (g : Nat → Bool) : Prop :=
  ∀ j, j < len → ∃ b0 off : Nat, p = some ⟨b0, off, none⟩ ∧ ∀ w', Below w.heap.size w w' → w'.cell? ⟨b0, off + j, none⟩ = some (.bool (g j))

/-- Where object k is made. -/
def Pl (s : Nat → Nat) : Nat → Nat
  | 0 => 0
  | k + 1 => Pl s k + s k + 1
/-- Where object k goes. -/
def Tl (s : Nat → Nat) (gn : Nat → Bool) : Nat → Nat
  | 0 => 0
  | k + 1 => if gn k then Tl s gn k else Tl s gn k + s k + 1

def wsOf (s : Nat → Nat) (wd : Nat → Nat → Nat) (i : Nat) : List Nat := (List.range (s i)).map (wd i)
def obOf (s : Nat → Nat) (wd : Nat → Nat → Nat) (i : Nat) : Ob := ⟨Pl s i, 8, wsOf s wd i⟩
def obs (s : Nat → Nat) (wd : Nat → Nat → Nat) (k : Nat) : List Ob := (List.range k).map (obOf s wd)
def kp (s : Nat → Nat) (gn : Nat → Bool) (wd : Nat → Nat → Nat) : Nat → List Ob
  | 0 => []
  | k + 1 => if gn k then kp s gn wd k else kp s gn wd k ++ [⟨Tl s gn k, 8, wsOf s wd k⟩]
def rst (s : Nat → Nat) (wd : Nat → Nat → Nat) (k len : Nat) : List Ob := (List.range' k (len - k)).map (obOf s wd)
def cnt (gn : Nat → Bool) : Nat → Nat
  | 0 => 0
  | k + 1 => if gn k then cnt gn k else cnt gn k + 1
def rowAt (s : Nat → Nat) (gn : Nat → Bool) (k j : Nat) : Nat := if j < k ∧ gn j = false then Tl s gn j else Pl s j
/-- The first q words are written. -/
def pw (s : Nat → Nat) (wd : Nat → Nat → Nat) (i q : Nat) : List Nat := (List.range (s i)).map (fun t => if t < q then wd i t else 0)

variable {s : Nat → Nat} {gn : Nat → Bool} {wd : Nat → Nat → Nat}

theorem pw_zero (i : Nat) : pw s wd i 0 = List.replicate (s i) 0 := by
  apply List.ext_getElem?; intro j
  by_cases h : j < s i <;> simp [pw, h]
theorem pw_all (i : Nat) : pw s wd i (s i) = wsOf s wd i := by
  apply List.ext_getElem?; intro j
  by_cases h : j < s i <;> simp [pw, wsOf, h]
theorem pw_len (i q : Nat) : (pw s wd i q).length = s i := by simp [pw]
theorem pw_set (i q : Nat) (h : q < s i) : (pw s wd i q).set q (wd i q) = pw s wd i (q + 1) := by
  apply List.ext_getElem?; intro j
  rw [List.getElem?_set]
  by_cases e : q = j
  · subst e; simp [pw, h]
  · by_cases hj : j < s i
    · simp [pw, hj, e]
      by_cases h1 : j < q
      · rw [if_pos h1, if_pos (by omega)]
      · rw [if_neg h1, if_neg (by omega)]
    · simp [pw, hj, e]
theorem obs_succ (k : Nat) : obs s wd (k + 1) = obs s wd k ++ [obOf s wd k] := by simp [obs, List.range_succ]
theorem rst_cons (k len : Nat) (h : k < len) : rst s wd k len = obOf s wd k :: rst s wd (k + 1) len := by
  unfold rst
  rw [show len - k = (len - (k + 1)) + 1 by omega, List.range'_succ]; rfl
theorem rst_zero (len : Nat) : rst s wd 0 len = obs s wd len := by simp [rst, obs, List.range_eq_range']
theorem rst_end (len : Nat) : rst s wd len len = [] := by simp [rst]
theorem kp_len (k : Nat) : (kp s gn wd k).length = cnt gn k := by
  induction k with
  | zero => rfl
  | succ k ih => simp only [kp, cnt]; split <;> simp [ih]
theorem Tl_le_Pl (k : Nat) : Tl s gn k ≤ Pl s k := by
  induction k with
  | zero => simp [Tl, Pl]
  | succ k ih => simp only [Tl, Pl]; split <;> omega
theorem Tl_mono {j k : Nat} (h : j ≤ k) : Tl s gn j ≤ Tl s gn k := by
  induction k with
  | zero => rw [show j = 0 by omega]; exact Nat.le_refl _
  | succ k ih =>
    rcases Nat.lt_or_ge j (k + 1) with h' | h'
    · have := ih (by omega); simp only [Tl]; split <;> omega
    · rw [show j = k + 1 by omega]; exact Nat.le_refl _
theorem Pl_le {len : Nat} (hs : ∀ j, j < len → s j < 256) : ∀ k, k ≤ len → Pl s k ≤ 256 * k := by
  intro k
  induction k with
  | zero => intro _; simp [Pl]
  | succ k ih => intro h; have := ih (by omega); have := hs k (by omega); simp only [Pl]; omega
theorem kp_mem {k : Nat} {q : Ob} (h : q ∈ kp s gn wd k) : ∃ j, j < k ∧ gn j = false ∧ q = ⟨Tl s gn j, 8, wsOf s wd j⟩ := by
  induction k with
  | zero => simp [kp] at h
  | succ k ih =>
    simp only [kp] at h
    split at h
    · obtain ⟨j, h1, h2, h3⟩ := ih h; exact ⟨j, by omega, h2, h3⟩
    · rename_i hg
      rcases List.mem_append.1 h with h | h
      · obtain ⟨j, h1, h2, h3⟩ := ih h; exact ⟨j, by omega, h2, h3⟩
      · simp at h; exact ⟨k, by omega, by simpa using hg, h⟩
theorem kp_has {k j : Nat} (hj : j < k) (hg : gn j = false) : (⟨Tl s gn j, 8, wsOf s wd j⟩ : Ob) ∈ kp s gn wd k := by
  induction k with
  | zero => omega
  | succ k ih =>
    simp only [kp]
    rcases Nat.lt_or_ge j k with h | h
    · split
      · exact ih h
      · exact List.mem_append_left _ (ih h)
    · obtain rfl : j = k := by omega
      rw [hg]; simp
theorem kp_end {k : Nat} : ∀ q ∈ kp s gn wd k, q.end_ ≤ Tl s gn k := by
  intro q hq
  obtain ⟨j, hj, hg, rfl⟩ := kp_mem hq
  have := Tl_mono (s := s) (gn := gn) (show j + 1 ≤ k by omega)
  simp only [Tl, hg] at this
  simp [Ob.end_, wsOf]; simp at this; omega

/-- The list of places is not the heap's. -/
theorem row_step {n₀ bh b lim used base n : Nat} {vw vb vw' vb' v : Value} {w w' : World} {M : List Ob} {xs : List Value} (h : Hp n₀ bh b vw vb w lim used M) (hrow : w.ownsRow base 2 1 v n xs) (hS : Step b vw vb w vw' vb' w') : w'.ownsRow base 2 1 v n xs := by
  refine ⟨hrow.1, ?_⟩
  rcases hrow.2 with hn | ⟨g, cap, cur, rfl, hb, hgg, rest⟩
  · exact .inl hn
  · have hlt : g < w.heap.size := (Array.getElem?_eq_some_iff.1 hgg).1
    have hne : ∀ k, (k = bh ∨ k = b ∨ vw.ownBlock = some k ∨ vb.ownBlock = some k) → k ≠ g := by
      intro k hk e
      obtain ⟨_, _, cur', t, hc, ht⟩ := h.blocks k hk
      rw [e, hgg] at hc
      rcases ht with rfl | rfl | rfl | rfl <;> simp at hc
    refine .inr ⟨g, cap, cur, rfl, hb, ?_, rest⟩
    rw [hS.block g hlt (fun e => hne b (.inr (.inl rfl)) e.symm) (fun e => hne g (.inr (.inr (.inl e.symm))) rfl) (fun e => hne g (.inr (.inr (.inr e.symm))) rfl)]
    exact hgg

theorem hp_grown {n₀ bh b lim used base n : Nat} {vw vb v : Value} {w w' : World} {M : List Ob} {xs : List Value} (h : Hp n₀ bh b vw vb w lim used M) (hrow : w.ownsRow base 2 1 v n xs) (hg : w.grownBy w' v.ownBlock) : Hp n₀ bh b vw vb w' lim used M := by
  refine h.kept (fun k hk => ?_)
  obtain ⟨_, hlt, cur', t, hc, ht⟩ := h.blocks k hk
  refine hg.block k hlt (fun e => ?_)
  obtain ⟨cur, hcur⟩ := IsAr.row_type hrow e.symm
  rw [hc] at hcur
  rcases ht with rfl | rfl | rfl | rfl <;> simp at hcur

end Go.Proofs.Ytkegkpaepkolhaa
