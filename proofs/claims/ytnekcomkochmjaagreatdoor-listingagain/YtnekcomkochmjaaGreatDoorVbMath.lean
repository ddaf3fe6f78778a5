/- Depths, plainly: what telling comes to; the least place. -/
import Derived.Test.YtnekcomkochmjaaGreatDoorVfMath
import Derived.Lib.TrailingZeros
namespace Go.Proofs.YtnekcomkochmjaaGreatDoor
set_option linter.unusedVariables false
set_option linter.unusedSimpArgs false

theorem tellsP_append : ∀ (a b : List (Nat × Int)) (t : List Int), tellsP (a ++ b) t = (tellsP a t).bind (tellsP b)
  | [], b, t => rfl
  | x :: a, b, t => by
    simp only [List.cons_append, tellsP]
    cases tellP t x.1 x.2 with
    | none => rfl
    | some u => exact tellsP_append a b u

theorem tellsP_one (x : Nat × Int) (t : List Int) : tellsP [x] t = tellP t x.1 x.2 := by
  simp only [tellsP]
  cases tellP t x.1 x.2 <;> rfl

theorem tellsP_snoc (a : List (Nat × Int)) (x : Nat × Int) (t : List Int) : tellsP (a ++ [x]) t = (tellsP a t).bind (fun u => tellP u x.1 x.2) := by
  rw [tellsP_append]
  cases tellsP a t with
  | none => rfl
  | some u => exact tellsP_one x u

theorem getD_set_ne {l : List Int} {i j : Nat} (h : i ≠ j) (x d : Int) : (l.set i x).getD j d = l.getD j d := by
  rw [List.getD_eq_getElem?_getD, List.getD_eq_getElem?_getD, List.getElem?_set_ne h]

theorem tellsP_other : ∀ {l : List (Nat × Int)} {t u : List Int} {k : Nat}, tellsP l t = some u → (∀ x ∈ l, x.1 ≠ k) → u.getD k (-1) = t.getD k (-1)
  | [], t, u, k, h, _ => by cases h; rfl
  | x :: l, t, u, k, h, hk => by
    simp only [tellsP] at h
    cases ht : tellP t x.1 x.2 with
    | none => rw [ht] at h; cases h
    | some v =>
      rw [ht] at h
      rw [tellsP_other h (fun y hy => hk y (by simp [hy]))]
      unfold tellP at ht
      split at ht
      · cases ht
      · cases ht; exact getD_set_ne (hk x (by simp)) _ _

theorem tellsP_len : ∀ {l : List (Nat × Int)} {t u : List Int}, tellsP l t = some u → u.length = t.length
  | [], t, u, h => by cases h; rfl
  | x :: l, t, u, h => by
    simp only [tellsP] at h
    cases ht : tellP t x.1 x.2 with
    | none => rw [ht] at h; cases h
    | some v =>
      rw [ht] at h
      rw [tellsP_len h]
      unfold tellP at ht
      split at ht
      · cases ht
      · cases ht; simp

theorem tellsP_range : ∀ {l : List (Nat × Int)} {t u : List Int}, tellsP l t = some u → (∀ x ∈ t, -1 ≤ x ∧ x ≤ 257) → (∀ x ∈ l, -1 ≤ x.2 ∧ x.2 ≤ 257) → ∀ x ∈ u, -1 ≤ x ∧ x ≤ 257
  | [], t, u, h, h1, _ => by cases h; exact h1
  | x :: l, t, u, h, h1, h2 => by
    simp only [tellsP] at h
    cases ht : tellP t x.1 x.2 with
    | none => rw [ht] at h; cases h
    | some v =>
      rw [ht] at h
      refine tellsP_range h ?_ (fun y hy => h2 y (by simp [hy]))
      unfold tellP at ht
      split at ht
      · cases ht
      · cases ht
        intro y hy
        rcases List.mem_or_eq_of_mem_set hy with h3 | h3
        · exact h1 y h3
        · rw [h3]; exact h2 x (by simp)

/-- What is told so far, and whether it was told otherwise ahead. -/
def ToldS (told0 told : List Int) (bad : Bool) (r : Option (List Int)) : Prop := told.length = told0.length ∧ ((r = some told ∧ bad = false) ∨ (r = none ∧ bad = true))

/-- Told and not taken. -/
def Opn (told : List Int) (taken : List Bool) (k : Nat) : Prop := taken.getD k true = false ∧ 0 ≤ told.getD k (-1)

theorem least_some {told : List Int} {taken : List Bool} : ∀ (n k0 pc : Nat), k0 ≤ pc → pc < k0 + n → (∀ k, k0 ≤ k → k < pc → ¬ Opn told taken k) → Opn told taken pc → leastP told taken n k0 = some pc
  | 0, k0, pc, h1, h2, _, _ => by omega
  | n + 1, k0, pc, h1, h2, h3, h4 => by
    by_cases e : k0 = pc
    · subst e
      simp only [leastP]
      exact if_pos h4
    · simp only [leastP]
      exact (if_neg (h3 k0 (Nat.le_refl _) (by omega))).trans (least_some n (k0 + 1) pc (by omega) (by omega) (fun k hk hp => h3 k (by omega) hp) h4)

theorem least_none {told : List Int} {taken : List Bool} : ∀ (n k0 : Nat), (∀ k, k0 ≤ k → k < k0 + n → ¬ Opn told taken k) → leastP told taken n k0 = none
  | 0, k0, _ => rfl
  | n + 1, k0, h => by
    simp only [leastP]
    exact (if_neg (h k0 (Nat.le_refl _) (by omega))).trans (least_none n (k0 + 1) (fun k hk hp => h k (by omega) (by omega)))

def cnt (taken : List Bool) : Nat := taken.countP (fun b => !b)

theorem cnt_set : ∀ {taken : List Bool} {pc : Nat}, taken[pc]? = some false → cnt taken = cnt (taken.set pc true) + 1
  | [], pc, h => by simp at h
  | b :: r, 0, h => by simp at h; subst h; simp [cnt]
  | b :: r, pc + 1, h => by
    have := cnt_set (taken := r) (pc := pc) (by simpa using h)
    unfold cnt at *
    simp only [List.set_cons_succ, List.countP_cons]
    omega

theorem run_step {f : Fm} {told : List Int} {taken : List Bool} {pc : Nat} (hpc : pc < f.code.length) (hlo : ∀ k, k < pc → ¬ Opn told taken k) (ht : taken[pc]? = some false) (hd : 0 ≤ told.getD pc (-1)) :
    runP f (cnt taken) told taken = match stepP f told pc with | none => .error pc | some t => runP f (cnt (taken.set pc true)) t (taken.set pc true) := by
  have ho : Opn told taken pc := ⟨by rw [List.getD_eq_getElem?_getD, ht]; rfl, hd⟩
  rw [cnt_set ht]
  simp only [runP]
  rw [least_some f.code.length 0 pc (Nat.zero_le _) (by omega) (fun k _ hk => hlo k hk) ho]
  cases h : stepP f told pc <;> simp [h]

theorem run_done {f : Fm} {told : List Int} {taken : List Bool} (n : Nat) (hlo : ∀ k, k < f.code.length → ¬ Opn told taken k) : runP f n told taken = .ok told := by
  cases n with
  | zero => rfl
  | succ n =>
    simp only [runP]
    rw [least_none f.code.length 0 (fun k _ hk => hlo k (by omega))]

theorem cnt_replicate : ∀ (n : Nat), cnt (List.replicate n false) = n
  | 0 => rfl
  | n + 1 => by
    have := cnt_replicate n
    unfold cnt at *
    rw [List.replicate_succ, List.countP_cons, this]
    rfl

/-- What the instructions of a function are, once they have been looked at. -/
structure CodeOk (f : Fm) : Prop where
  len1 : 1 ≤ f.code.length
  len : f.code.length ≤ 16384
  op : ∀ i ∈ f.code, i.op < 256
  num : ∀ (pc : Nat) (i : In), f.code[pc]? = some i → (i.op = 22 ∨ i.op = 23 ∨ i.op = 27 → 0 ≤ i.a ∧ i.a ≤ 256) ∧ (i.op = 19 ∨ i.op = 20 → (pc : Int) < i.a ∧ i.a < f.code.length) ∧ (i.op = 21 → 0 ≤ i.a ∧ i.a ≤ (pc : Int)) ∧ (pc + 1 = f.code.length → i.op = 28 ∨ i.op = 29 ∨ i.op = 21)
  hsn : f.hs.length ≤ 16384
  hs : ∀ h ∈ f.hs, 0 ≤ h.fr ∧ h.fr < h.to ∧ h.to ≤ h.at_ ∧ h.at_ < f.code.length ∧ 0 ≤ h.deep ∧ h.deep < 256

theorem takes_range {f : Fm} (h : CodeOk f) {pc : Nat} {i : In} (hi : f.code[pc]? = some i) : 0 ≤ takesP i ∧ takesP i ≤ 512 ∧ 0 ≤ leavesP i ∧ leavesP i ≤ 2 := by
  have := (h.num pc i hi).1
  unfold takesP leavesP
  repeat' split
  all_goals omega

theorem nexts_lt {f : Fm} (h : CodeOk f) {pc : Nat} {i : In} (hi : f.code[pc]? = some i) : ∀ q ∈ nextsP i pc, q < f.code.length := by
  obtain ⟨_, h2, h3, h4⟩ := h.num pc i hi
  have hpc := (List.getElem?_eq_some_iff.1 hi).1
  intro q hq
  unfold nextsP at hq
  split at hq
  · simp at hq
  · split at hq
    · simp at hq
      subst hq
      omega
    · split at hq
      · simp at hq
        rcases hq with rfl | rfl
        · have : ¬ (pc + 1 = f.code.length) := fun e => by have := h4 e; omega
          omega
        · omega
      · simp at hq
        subst hq
        have : ¬ (pc + 1 = f.code.length) := fun e => by have := h4 e; omega
        omega

theorem nexts_a {f : Fm} (h : CodeOk f) {pc : Nat} {i : In} (hi : f.code[pc]? = some i) : (i.op = 19 ∨ i.op = 20 ∨ i.op = 21) → 0 ≤ i.a := by
  obtain ⟨_, h2, h3, h4⟩ := h.num pc i hi
  intro ho
  omega

theorem codeP_ok {fs : List Fm} {fn : Nat} {f : Fm} : ∀ {r : List In} {pc : Nat} {mk : List Int}, (codeP fs fn f r pc mk).1 = none → ∀ j i, r[j]? = some i → ∃ mk', insP fs fn f mk' (pc + j) i = true
  | [], pc, mk, _ => by intro j i hj; simp at hj
  | x :: r, pc, mk, h => by
    intro j i hj
    unfold codeP at h
    split at h
    · rename_i hx
      cases j with
      | zero => simp at hj; subst hj; exact ⟨mk, hx⟩
      | succ j =>
        obtain ⟨mk', h'⟩ := codeP_ok h j i (by simpa using hj)
        exact ⟨mk', by rw [show pc + (j + 1) = pc + 1 + j by omega]; exact h'⟩
    · cases h

theorem ok_of {fs : List Fm} {fn : Nat} {f : Fm} {main : Bool} {mk : List Int} (hh : headP f main = true) (hc : (codeP fs fn f f.code 0 mk).1 = none) (hop : ∀ i ∈ f.code, i.op < 256) : CodeOk f := by
  unfold headP at hh
  simp only [Bool.and_eq_true, decide_eq_true_eq, List.all_eq_true] at hh
  obtain ⟨⟨⟨⟨h1, h2, h3, h4, h5, h6, h7, h8, h9, h10, h11⟩, hk⟩, hl⟩, hhs⟩ := hh
  refine ⟨h9, h10, hop, ?_, h8, fun h hm => ?_⟩
  · intro pc i hi
    obtain ⟨mk', hx⟩ := codeP_ok hc pc i hi
    rw [Nat.zero_add] at hx
    unfold insP at hx
    simp only [Bool.and_eq_true] at hx
    obtain ⟨⟨hn, he⟩, _⟩ := hx
    refine ⟨fun ho => ?_, fun ho => ?_, fun ho => ?_, fun ho => ?_⟩
    · unfold numberP at hn
      rcases ho with e | e | e <;> simp [e] at hn <;> omega
    · unfold numberP at hn
      rcases ho with e | e <;> simp [e] at hn <;> omega
    · unfold numberP at hn
      simp [ho] at hn; omega
    · simp [ho, endsP] at he
      omega
  · have := hhs h hm
    unfold handP at this
    simpa using this

end Go.Proofs.YtnekcomkochmjaaGreatDoor

namespace Go.Proofs.YtnekcomkochmjaaGreatDoor
set_option linter.unusedVariables false
set_option linter.unusedSimpArgs false


def par (k : Nat) : Nat := (k - 1) / 2

def swp (l : List Int) (i j : Nat) : List Int := (l.set i (l.getD j 0)).set j (l.getD i 0)

theorem swp_len (l : List Int) (i j : Nat) : (swp l i j).length = l.length := by simp [swp]

theorem getD_set_if (l : List Int) (i k : Nat) (x : Int) (hi : i < l.length) : (l.set i x).getD k 0 = if k = i then x else l.getD k 0 := by
  rw [List.getD_eq_getElem?_getD, List.getD_eq_getElem?_getD, List.getElem?_set]
  by_cases e : i = k
  · subst e; simp [hi]
  · have : ¬ k = i := fun h => e h.symm
    simp [e, this]

theorem swp_at {l : List Int} {i j : Nat} (hi : i < l.length) (hj : j < l.length) (k : Nat) : (swp l i j).getD k 0 = if k = j then l.getD i 0 else if k = i then l.getD j 0 else l.getD k 0 := by
  unfold swp
  rw [getD_set_if _ _ _ _ (by simpa using hj), getD_set_if _ _ _ _ hi]

theorem swp_perm {l : List Int} {i j : Nat} (hi : i < l.length) (hj : j < l.length) : (swp l i j).Perm l := by
  have h := Array.swap_perm (xs := l.toArray) (i := i) (j := j) (by simpa using hi) (by simpa using hj)
  rw [Array.perm_iff_toList_perm] at h
  have e : (l.toArray.swap i j (by simpa using hi) (by simpa using hj)).toList = swp l i j := by
    simp only [Array.swap, swp, List.getD_eq_getElem?_getD]
    simp [hi, hj]
  rw [e] at h
  simpa using h

structure UpI (l : List Int) (j : Nat) : Prop where
  all : ∀ k, 0 < k → k < l.length → k ≠ j → l.getD (par k) 0 ≤ l.getD k 0
  kids : ∀ k, 0 < k → k < l.length → par k = j → 0 < j → l.getD (par j) 0 ≤ l.getD k 0

def HpN (l : List Int) (n : Nat) : Prop := ∀ k, 0 < k → k < n → l.getD (par k) 0 ≤ l.getD k 0

theorem UpI.step {l : List Int} {j : Nat} (h : UpI l j) (hj : j < l.length) (h0 : 0 < j) (hl : l.getD j 0 < l.getD (par j) 0) : UpI (swp l (par j) j) (par j) := by
  have hp : par j < j := by unfold par; omega
  have hpl : par j < l.length := by omega
  have sw := swp_at hpl hj
  refine ⟨fun k k0 kl kn => ?_, fun k k0 kl kp hpj => ?_⟩
  · rw [swp_len] at kl
    rw [sw, sw]
    by_cases e1 : k = j
    · subst e1
      rw [if_neg (by omega), if_pos rfl, if_pos rfl]
      omega
    · rw [if_neg e1, if_neg kn]
      have a := h.all k k0 kl e1
      by_cases e2 : par k = j
      · rw [if_pos e2]
        exact h.kids k k0 kl e2 h0
      · rw [if_neg e2]
        by_cases e3 : par k = par j
        · rw [if_pos e3]
          rw [e3] at a
          omega
        · rw [if_neg e3]; exact a
  · rw [swp_len] at kl
    have hpp : par (par j) < par j := by unfold par at *; omega
    rw [sw, sw, if_neg (by omega), if_neg (by omega)]
    have a := h.all (par j) hpj hpl (by omega)
    by_cases e1 : k = j
    · subst e1
      rw [if_pos rfl]; exact a
    · rw [if_neg e1]
      have hk : k ≠ par j := by intro e; rw [← e] at kp; unfold par at kp; omega
      rw [if_neg hk]
      have b := h.all k k0 kl e1
      rw [kp] at b
      omega

theorem UpI.done {l : List Int} {j : Nat} (h : UpI l j) (hl : j = 0 ∨ ¬ l.getD j 0 < l.getD (par j) 0) : HpN l l.length := by
  intro k k0 kl
  by_cases e : k = j
  · subst e
    rcases hl with e | e
    · omega
    · omega
  · exact h.all k k0 kl e

structure DownI (l : List Int) (n i : Nat) : Prop where
  all : ∀ k, 0 < k → k < n → par k ≠ i → l.getD (par k) 0 ≤ l.getD k 0
  kids : ∀ k, 0 < k → k < n → par k = i → 0 < i → l.getD (par i) 0 ≤ l.getD k 0

/-- The lesser one of those below i. -/
def Least (l : List Int) (n i j : Nat) : Prop := j < n ∧ (j = 2 * i + 1 ∨ j = 2 * i + 2) ∧ ∀ k, 0 < k → k < n → par k = i → l.getD j 0 ≤ l.getD k 0

theorem DownI.step {l : List Int} {n i j : Nat} (h : DownI l n i) (hn : n ≤ l.length) (hj : Least l n i j) (hl : l.getD j 0 < l.getD i 0) : DownI (swp l i j) n j := by
  obtain ⟨jn, jj, jl⟩ := hj
  have pj : par j = i := by unfold par; omega
  have ij : i < j := by omega
  have sw := swp_at (l := l) (i := i) (j := j) (by omega) (by omega)
  refine ⟨fun k k0 kl kn => ?_, fun k k0 kl kp hpj => ?_⟩
  · rw [sw, sw, if_neg kn]
    by_cases e1 : k = j
    · subst e1
      rw [if_pos pj, if_pos rfl]
      omega
    · rw [if_neg e1]
      by_cases e2 : k = i
      · subst e2
        have hpk : par k ≠ k := by unfold par; omega
        rw [if_neg hpk, if_pos rfl]
        have := h.kids j (by omega) jn pj k0
        exact this
      · rw [if_neg e2]
        by_cases e3 : par k = i
        · rw [if_pos e3]; exact jl k k0 kl e3
        · rw [if_neg e3]; exact h.all k k0 kl e3
  · have hkj : k ≠ j := by intro e; rw [e] at kp; rw [pj] at kp; omega
    have hki : k ≠ i := by intro e; rw [e] at kp; unfold par at kp; omega
    rw [sw, sw, pj, if_neg (by omega), if_pos rfl, if_neg hkj, if_neg hki]
    have := h.all k k0 kl (by rw [kp]; omega)
    rw [kp] at this
    exact this

theorem DownI.done {l : List Int} {n i : Nat} (h : DownI l n i) (hl : n ≤ 2 * i + 1 ∨ ∃ j, Least l n i j ∧ ¬ l.getD j 0 < l.getD i 0) : HpN l n := by
  intro k k0 kl
  by_cases e : par k = i
  · rcases hl with e2 | ⟨j, ⟨j1, j2, j3⟩, j4⟩
    · unfold par at e; omega
    · have := j3 k k0 kl e
      rw [e]; omega
  · exact h.all k k0 kl e

theorem HpN.least {l : List Int} {n : Nat} (h : HpN l n) : ∀ m k, k ≤ m → k < n → l.getD 0 0 ≤ l.getD k 0
  | 0, k, hk, _ => by have : k = 0 := by omega
                      subst this; omega
  | m + 1, k, hk, kn => by
    by_cases e : k = 0
    · subst e; omega
    · have a := h k (by omega) kn
      have b := HpN.least h m (par k) (by unfold par; omega) (by unfold par; omega)
      omega

theorem downI_pop {l : List Int} {n : Nat} (h : HpN l l.length) (hl : l.length = n + 1) : DownI (swp l 0 n) n 0 := by
  have sw := swp_at (l := l) (i := 0) (j := n) (by omega) (by omega)
  refine ⟨fun k k0 kl kn => ?_, fun k k0 kl kp h0 => by omega⟩
  have : par k < k := by unfold par; omega
  rw [sw, sw, if_neg (by omega), if_neg kn, if_neg (by omega), if_neg (by omega)]
  exact h k k0 (by omega)

theorem upI_push {l : List Int} (h : HpN l l.length) (x : Int) : UpI (l ++ [x]) l.length := by
  refine ⟨fun k k0 kl kn => ?_, fun k k0 kl kp h0 => ?_⟩
  · simp at kl
    have h1 : k < l.length := by omega
    have h2 : par k < l.length := by unfold par; omega
    have := h k k0 h1
    simp only [List.getD_eq_getElem?_getD] at this ⊢
    rw [List.getElem?_append_left h2, List.getElem?_append_left h1]
    exact this
  · simp at kl
    unfold par at kp; omega

/-- What is left when the least one is taken. -/
theorem pop_perm {l m : List Int} {n : Nat} (hl : l.length = n + 1) (hm : m.Perm (swp l 0 n)) (he : m.getD n 0 = (swp l 0 n).getD n 0) : l.Perm (l.getD 0 0 :: m.take n) := by
  have h1 : (swp l 0 n).Perm l := swp_perm (by omega) (by omega)
  have h2 : m.length = n + 1 := by rw [hm.length_eq, swp_len, hl]
  rw [swp_at (by omega) (by omega), if_pos rfl] at he
  have h3 : m = m.take n ++ [l.getD 0 0] := by
    have : m = m.take n ++ m.drop n := (List.take_append_drop n m).symm
    have h4 : m.drop n = [m.getD n 0] := by
      rw [List.drop_eq_getElem_cons (by omega), List.drop_eq_nil_of_le (by omega)]
      simp [List.getD_eq_getElem?_getD, show n < m.length by omega]
    rw [h4, he] at this
    exact this
  have h5 : l.Perm m := (hm.trans h1).symm
  rw [h3] at h5
  exact h5.trans (List.perm_append_comm (l₁ := m.take n) (l₂ := [l.getD 0 0]))

theorem hpN_take {m : List Int} {n : Nat} (h : HpN m n) (hn : n ≤ m.length) : HpN (m.take n) (m.take n).length := by
  have : (m.take n).length = n := by simp [hn]
  rw [this]
  intro k k0 kn
  have := h k k0 kn
  have hp : par k < n := by unfold par; omega
  simp only [List.getD_eq_getElem?_getD] at this ⊢
  rw [List.getElem?_take_of_lt hp, List.getElem?_take_of_lt kn]
  exact this
/- The tree of handlers. -/

def span : Nat → Nat → Nat → List Nat
  | 0, _, _ => []
  | k + 1, a, b => if a < b then (if a % 2 = 1 then [a] else []) ++ ((if b % 2 = 1 then [b - 1] else []) ++ span k ((a + 1) / 2) (b / 2)) else []

def path : Nat → Nat → List Nat
  | 0, _ => []
  | k + 1, x => if 0 < x then x :: path k (x / 2) else []

def Anc (x y : Nat) : Prop := ∃ j, x / 2 ^ j = y

theorem mem_path : ∀ {k x y : Nat}, x ≤ k → (y ∈ path k x ↔ 0 < y ∧ Anc x y)
  | 0, x, y, h => by
    have : x = 0 := by omega
    subst this
    simp only [path, List.not_mem_nil, false_iff]
    rintro ⟨h0, j, h⟩
    simp at h
    omega
  | k + 1, x, y, h => by
    unfold path
    split
    · rename_i hx
      simp only [List.mem_cons]
      rw [mem_path (k := k) (x := x / 2) (y := y) (by omega)]
      constructor
      · rintro (rfl | ⟨h0, j, hj⟩)
        · exact ⟨hx, 0, by simp⟩
        · exact ⟨h0, j + 1, by rw [Nat.pow_succ, Nat.mul_comm, ← Nat.div_div_eq_div_mul]; exact hj⟩
      · rintro ⟨h0, j, hj⟩
        cases j with
        | zero => exact .inl (by simpa using hj.symm)
        | succ j => exact .inr ⟨h0, j, by rw [Nat.pow_succ, Nat.mul_comm, ← Nat.div_div_eq_div_mul] at hj; exact hj⟩
    · rename_i hx
      have : x = 0 := by omega
      subst this
      simp only [List.not_mem_nil, false_iff]
      rintro ⟨h0, j, h⟩
      simp at h
      omega

theorem path_le : ∀ {k x y : Nat}, y ∈ path k x → 0 < y ∧ y ≤ x
  | 0, x, y, h => by simp [path] at h
  | k + 1, x, y, h => by
    unfold path at h
    split at h
    · rcases List.mem_cons.1 h with rfl | h
      · omega
      · have := path_le h; omega
    · simp at h

/-- A path does not hang on its bound. -/
theorem path_any : ∀ {k m x : Nat}, x ≤ k → x ≤ m → path k x = path m x
  | 0, 0, x, _, _ => rfl
  | 0, m + 1, x, h, _ => by
    have : x = 0 := by omega
    subst this; rfl
  | k + 1, 0, x, _, h => by
    have : x = 0 := by omega
    subst this; rfl
  | k + 1, m + 1, x, h1, h2 => by
    unfold path
    split
    · rw [path_any (k := k) (m := m) (x := x / 2) (by omega) (by omega)]
    · rfl

theorem path_self {x : Nat} (h : 0 < x) : path x x = x :: path (x / 2) (x / 2) := by
  cases x with
  | zero => omega
  | succ n =>
    show (if 0 < n + 1 then (n + 1) :: path n ((n + 1) / 2) else []) = _
    rw [if_pos h, path_any (k := n) (m := (n + 1) / 2) (by omega) (Nat.le_refl _)]

theorem path_zero : path 0 0 = [] := rfl

theorem anc_level {leaf x y i j : Nat} (hx : leaf ≤ x) (hx2 : x < 2 * leaf) (h1 : leaf ≤ y * 2 ^ j) (h2 : (y + 1) * 2 ^ j ≤ 2 * leaf) (h : x / 2 ^ i = y) : i = j := by
  have hp : 0 < 2 ^ i := Nat.pow_pos (by omega)
  have a1 : y * 2 ^ i ≤ x := by rw [← h]; exact Nat.div_mul_le_self x (2 ^ i)
  have a2 : x < (y + 1) * 2 ^ i := by
    have := Nat.lt_succ_of_le (Nat.le_refl (x / 2 ^ i))
    rw [Nat.div_lt_iff_lt_mul hp] at this
    rw [h] at this
    exact this
  rcases Nat.lt_trichotomy i j with hl | he | hg
  · exfalso
    have b1 : 2 ^ (i + 1) ≤ 2 ^ j := Nat.pow_le_pow_right (by omega) hl
    have b2 : (y + 1) * 2 ^ (i + 1) ≤ (y + 1) * 2 ^ j := Nat.mul_le_mul_left _ b1
    have b3 : (y + 1) * 2 ^ (i + 1) = 2 * ((y + 1) * 2 ^ i) := by rw [Nat.pow_succ, ← Nat.mul_assoc, Nat.mul_comm]
    omega
  · exact he
  · exfalso
    have b1 : 2 ^ (j + 1) ≤ 2 ^ i := Nat.pow_le_pow_right (by omega) hg
    have b2 : y * 2 ^ (j + 1) ≤ y * 2 ^ i := Nat.mul_le_mul_left _ b1
    have b3 : y * 2 ^ (j + 1) = 2 * (y * 2 ^ j) := by rw [Nat.pow_succ, ← Nat.mul_assoc, Nat.mul_comm]
    omega

theorem span_level {leaf x : Nat} (hx : leaf ≤ x) (hx2 : x < 2 * leaf) : ∀ (k j a b : Nat), b ≤ k → leaf ≤ a * 2 ^ j → b * 2 ^ j ≤ 2 * leaf → ((∃ y ∈ span k a b, Anc x y) ↔ a ≤ x / 2 ^ j ∧ x / 2 ^ j < b)
  | 0, j, a, b, hb, h1, h2 => by
    have : b = 0 := by omega
    subst this
    simp [span]
  | k + 1, j, a, b, hb, h1, h2 => by
    unfold span
    by_cases hab : a < b
    · rw [if_pos hab]
      have c1 : leaf ≤ ((a + 1) / 2) * 2 ^ (j + 1) := by
        have e : ((a + 1) / 2) * 2 ^ (j + 1) = (2 * ((a + 1) / 2)) * 2 ^ j := by rw [Nat.pow_succ]; ac_rfl
        rw [e]
        exact Nat.le_trans h1 (Nat.mul_le_mul_right _ (by omega))
      have c2 : (b / 2) * 2 ^ (j + 1) ≤ 2 * leaf := by
        have e : (b / 2) * 2 ^ (j + 1) = (2 * (b / 2)) * 2 ^ j := by rw [Nat.pow_succ]; ac_rfl
        rw [e]
        exact Nat.le_trans (Nat.mul_le_mul_right _ (by omega)) h2
      have ih := span_level hx hx2 k (j + 1) ((a + 1) / 2) (b / 2) (by omega) c1 c2
      rw [show x / 2 ^ (j + 1) = x / 2 ^ j / 2 by rw [Nat.pow_succ, Nat.div_div_eq_div_mul]] at ih
      constructor
      · rintro ⟨y, hy, ha⟩
        rcases List.mem_append.1 hy with hy | hy
        · split at hy
          · simp at hy
            subst hy
            obtain ⟨i, hi⟩ := ha
            have := anc_level hx hx2 h1 (Nat.le_trans (Nat.mul_le_mul_right _ (by omega)) h2) hi
            subst this
            omega
          · simp at hy
        · rcases List.mem_append.1 hy with hy | hy
          · split at hy
            · simp at hy
              subst hy
              obtain ⟨i, hi⟩ := ha
              have := anc_level (y := b - 1) hx hx2 (Nat.le_trans h1 (Nat.mul_le_mul_right _ (by omega))) (by rw [show b - 1 + 1 = b by omega]; exact h2) hi
              subst this
              omega
            · simp at hy
          · have := ih.1 ⟨y, hy, ha⟩
            omega
      · rintro ⟨g1, g2⟩
        by_cases e1 : x / 2 ^ j = a ∧ a % 2 = 1
        · exact ⟨a, by simp [e1.2], j, e1.1⟩
        · by_cases e2 : x / 2 ^ j = b - 1 ∧ b % 2 = 1
          · exact ⟨b - 1, by simp [e2.2], j, e2.1⟩
          · obtain ⟨y, hy, ha⟩ := ih.2 ⟨by omega, by omega⟩
            exact ⟨y, by simp [hy], ha⟩
    · rw [if_neg hab]
      constructor
      · rintro ⟨y, hy, _⟩
        simp at hy
      · rintro ⟨g1, g2⟩
        omega

theorem span_pos {leaf : Nat} (hl : 0 < leaf) : ∀ (k j a b : Nat), leaf ≤ a * 2 ^ j → ∀ y ∈ span k a b, 0 < y
  | 0, j, a, b, _ => by simp [span]
  | k + 1, j, a, b, h1 => by
    intro y hy
    unfold span at hy
    have ha : 0 < a := by
      rcases Nat.eq_zero_or_pos a with e | e
      · subst e; simp at h1; omega
      · exact e
    split at hy
    · rename_i hab
      rcases List.mem_append.1 hy with hy | hy
      · split at hy
        · simp at hy; omega
        · simp at hy
      · rcases List.mem_append.1 hy with hy | hy
        · split at hy
          · simp at hy; omega
          · simp at hy
        · refine span_pos hl k (j + 1) ((a + 1) / 2) (b / 2) ?_ y hy
          have e : ((a + 1) / 2) * 2 ^ (j + 1) = (2 * ((a + 1) / 2)) * 2 ^ j := by rw [Nat.pow_succ]; ac_rfl
          rw [e]
          exact Nat.le_trans h1 (Nat.mul_le_mul_right _ (by omega))
    · simp at hy

/-- The knots of a handler. -/
def knots (leaf : Nat) (h : Hn) : List Nat := span (leaf + h.to.toNat) (leaf + h.fr.toNat) (leaf + h.to.toNat)

theorem knots_iff {leaf pc : Nat} {h : Hn} (hp : pc < leaf) (h0 : 0 ≤ h.fr) (h1 : h.fr < h.to) (h2 : h.to ≤ leaf) :
    (∃ y ∈ knots leaf h, y ∈ path (leaf + pc) (leaf + pc)) ↔ h.fr ≤ (pc : Int) ∧ (pc : Int) < h.to := by
  have := span_level (leaf := leaf) (x := leaf + pc) (by omega) (by omega) (leaf + h.to.toNat) 0 (leaf + h.fr.toNat) (leaf + h.to.toNat) (Nat.le_refl _) (by simp) (by simp; omega)
  constructor
  · rintro ⟨y, hy, hq⟩
    have := this.1 ⟨y, hy, ((mem_path (Nat.le_refl _)).1 hq).2⟩
    simp at this
    omega
  · rintro ⟨g1, g2⟩
    obtain ⟨y, hy, ha⟩ := this.2 (by simp; omega)
    exact ⟨y, hy, (mem_path (Nat.le_refl _)).2 ⟨span_pos (leaf := leaf) (by omega) _ 0 _ _ (by simp) y hy, ha⟩⟩

/-- A span does not hang on its bound. -/
theorem span_any : ∀ {k m a b : Nat}, b ≤ k → b ≤ m → span k a b = span m a b
  | 0, 0, a, b, _, _ => rfl
  | 0, m + 1, a, b, h, _ => by
    have : b = 0 := by omega
    subst this
    simp [span]
  | k + 1, 0, a, b, _, h => by
    have : b = 0 := by omega
    subst this
    simp [span]
  | k + 1, m + 1, a, b, h1, h2 => by
    unfold span
    by_cases hab : a < b
    · rw [if_pos hab, if_pos hab, span_any (k := k) (m := m) (a := (a + 1) / 2) (b := b / 2) (by omega) (by omega)]
    · rw [if_neg hab, if_neg hab]

theorem span_step {a b : Nat} (h : a < b) : span b a b = (if a % 2 = 1 then [a] else []) ++ ((if b % 2 = 1 then [b - 1] else []) ++ span (b / 2) ((a + 1) / 2) (b / 2)) := by
  cases b with
  | zero => omega
  | succ n =>
    show (if a < n + 1 then _ else _) = _
    rw [if_pos h, span_any (k := n) (m := (n + 1) / 2) (by omega) (Nat.le_refl _)]

theorem span_end {a b : Nat} (h : ¬ a < b) : span b a b = [] := by
  cases b with
  | zero => rfl
  | succ n =>
    show (if a < n + 1 then _ else _) = _
    rw [if_neg h]

/- What is told. -/
theorem tellsP_char : ∀ {l : List (Nat × Int)} {t u : List Int}, (∀ x ∈ l, x.1 < t.length ∧ 0 ≤ x.2) → (tellsP l t = some u ↔ u.length = t.length ∧ (∀ x ∈ l, u.getD x.1 (-1) = x.2) ∧ (∀ k, 0 ≤ t.getD k (-1) → u.getD k (-1) = t.getD k (-1)) ∧ (∀ k, (∀ x ∈ l, x.1 ≠ k) → u.getD k (-1) = t.getD k (-1)))
  | [], t, u, _ => by
    simp only [tellsP, List.not_mem_nil, false_implies, implies_true, true_and]
    constructor
    · intro h; cases h; exact ⟨rfl, fun _ _ => rfl, fun _ _ => rfl⟩
    · rintro ⟨h1, h2, h3⟩
      congr 1
      refine (List.ext_getElem? (fun k => ?_)).symm
      have := h3 k trivial
      simp only [List.getD_eq_getElem?_getD] at this
      by_cases hk : k < t.length
      · have hk2 : k < u.length := by omega
        simp [hk, hk2] at this ⊢
        exact this
      · simp [List.getElem?_eq_none (show t.length ≤ k by omega), List.getElem?_eq_none (show u.length ≤ k by omega)]
  | x :: r, t, u, hx => by
    obtain ⟨hx1, hx2⟩ := hx x (by simp)
    have hs : ∀ k, (t.set x.1 x.2).getD k (-1) = if k = x.1 then x.2 else t.getD k (-1) := by
      intro k
      rw [List.getD_eq_getElem?_getD, List.getD_eq_getElem?_getD, List.getElem?_set]
      by_cases e : x.1 = k
      · subst e; simp [hx1]
      · have : ¬ k = x.1 := fun h => e h.symm
        simp [e, this]
    have ih := tellsP_char (l := r) (t := t.set x.1 x.2) (u := u) (fun y hy => by simpa using hx y (by simp [hy]))
    simp only [tellsP, tellP]
    by_cases hc : 0 ≤ t.getD x.1 (-1) ∧ t.getD x.1 (-1) ≠ x.2
    · rw [if_pos hc]
      constructor
      · intro h; cases h
      · rintro ⟨h1, h2, h3, h4⟩
        have a := h2 x (by simp)
        have b := h3 x.1 hc.1
        exact absurd (b.symm.trans a) hc.2
    · rw [if_neg hc]
      simp only
      rw [ih]
      simp only [List.length_set, List.mem_cons, forall_eq_or_imp]
      constructor
      · rintro ⟨h1, h2, h3, h4⟩
        have a : u.getD x.1 (-1) = x.2 := by
          have := h3 x.1 (by rw [hs, if_pos rfl]; exact hx2)
          rw [hs, if_pos rfl] at this; exact this
        refine ⟨h1, ⟨a, h2⟩, fun k hk => ?_, fun k hk => ?_⟩
        · by_cases e : k = x.1
          · subst e
            rw [a]
            have : ¬ (t.getD x.1 (-1) ≠ x.2) := fun hne => hc ⟨hk, hne⟩
            omega
          · have := h3 k (by rw [hs, if_neg e]; exact hk)
            rw [hs, if_neg e] at this; exact this
        · have e : ¬ k = x.1 := fun e => hk.1 e.symm
          have := h4 k hk.2
          rw [hs, if_neg e] at this; exact this
      · rintro ⟨h1, ⟨a, h2⟩, h3, h4⟩
        refine ⟨h1, h2, fun k hk => ?_, fun k hk => ?_⟩
        · rw [hs] at hk ⊢
          by_cases e : k = x.1
          · rw [if_pos e, e]; exact a
          · rw [if_neg e] at hk ⊢; exact h3 k hk
        · rw [hs]
          by_cases e : k = x.1
          · rw [if_pos e, e]; exact a
          · rw [if_neg e]; exact h4 k ⟨fun h => e h.symm, hk⟩

/-- What is told does not hang on the order, nor on what has been told. -/
theorem tellsP_congr {l m : List (Nat × Int)} {t : List Int} (hl : ∀ x ∈ l, x.1 < t.length ∧ 0 ≤ x.2) (h1 : ∀ x ∈ m, x ∈ l) (h2 : ∀ x ∈ l, x ∈ m ∨ t.getD x.1 (-1) = x.2) : tellsP l t = tellsP m t := by
  refine Option.ext (fun u => ?_)
  rw [tellsP_char hl, tellsP_char (fun x hx => hl x (h1 x hx))]
  constructor
  · rintro ⟨a1, a2, a3, a4⟩
    refine ⟨a1, fun x hx => a2 x (h1 x hx), a3, fun k hk => ?_⟩
    by_cases hk2 : ∃ x ∈ l, x.1 = k
    · obtain ⟨x, hx, rfl⟩ := hk2
      rcases h2 x hx with h | h
      · exact absurd rfl (hk x h)
      · exact a3 _ (by rw [h]; exact (hl x hx).2)
    · exact a4 k (fun x hx e => hk2 ⟨x, hx, e⟩)
  · rintro ⟨a1, a2, a3, a4⟩
    refine ⟨a1, fun x hx => ?_, a3, fun k hk => a4 k (fun x hx => hk x (h1 x hx))⟩
    rcases h2 x hx with h | h
    · exact a2 x h
    · rw [a3 _ (by rw [h]; exact (hl x hx).2)]; exact h
/- Knots, and the walk. -/

/-- A knot: the greatest Deep, and the handlers that were not asked for. -/
structure Kn where
  deep : Int
  hs : List Nat

def kn (ks : List Kn) (y : Nat) : Kn := ks.getD y ⟨0, []⟩

theorem kn_set (ks : List Kn) (i y : Nat) (k : Kn) : kn (ks.set i k) y = if y = i ∧ i < ks.length then k else kn ks y := by
  unfold kn
  rw [List.getD_eq_getElem?_getD, List.getD_eq_getElem?_getD, List.getElem?_set]
  by_cases e : i = y
  · subst e
    by_cases h : i < ks.length
    · simp [h]
    · simp [h]
  · have : ¬ y = i := fun h => e h.symm
    simp [e, this]

theorem span_lt : ∀ {k a b y : Nat}, y ∈ span k a b → y < b
  | 0, a, b, y, h => by simp [span] at h
  | k + 1, a, b, y, h => by
    unfold span at h
    split at h
    · rcases List.mem_append.1 h with h | h
      · split at h
        · simp at h; omega
        · simp at h
      · rcases List.mem_append.1 h with h | h
        · split at h
          · simp at h; omega
          · simp at h
        · have := span_lt h; omega
    · simp at h

def add1 (m : Nat) (d : Int) (ks : List Kn) (y : Nat) : List Kn := ks.set y ⟨max (kn ks y).deep d, (kn ks y).hs ++ [m]⟩

def addF (m : Nat) (d : Int) (ks : List Kn) (l : List Nat) : List Kn := l.foldl (add1 m d) ks

theorem addF_len (m : Nat) (d : Int) : ∀ (l : List Nat) (ks : List Kn), (addF m d ks l).length = ks.length
  | [], ks => rfl
  | y :: l, ks => by
    show (addF m d (add1 m d ks y) l).length = _
    rw [addF_len m d l]; simp [add1]

theorem addF_kn (m : Nat) (d : Int) : ∀ (l : List Nat) (ks : List Kn) (y : Nat), (∀ z ∈ l, z < ks.length) →
    (∀ x, x ∈ (kn (addF m d ks l) y).hs ↔ x ∈ (kn ks y).hs ∨ (x = m ∧ y ∈ l)) ∧ (∀ e, e < (kn (addF m d ks l) y).deep ↔ e < (kn ks y).deep ∨ (y ∈ l ∧ e < d))
  | [], ks, y, _ => by simp [addF]
  | z :: l, ks, y, h => by
    have ih := addF_kn m d l (add1 m d ks z) y (fun x hx => by simp [add1]; exact h x (by simp [hx]))
    have hz := h z (by simp)
    have e : addF m d ks (z :: l) = addF m d (add1 m d ks z) l := rfl
    rw [e]
    have k1 : kn (add1 m d ks z) y = if y = z then ⟨max (kn ks z).deep d, (kn ks z).hs ++ [m]⟩ else kn ks y := by
      unfold add1
      rw [kn_set]
      by_cases q : y = z
      · simp [q, hz]
      · simp [q]
    refine ⟨fun x => ?_, fun x => ?_⟩
    · rw [ih.1 x, k1]
      by_cases q : y = z
      · subst q
        simp
        intro h1 _
        exact .inr h1
      · simp [q]
    · rw [ih.2 x, k1]
      by_cases q : y = z
      · subst q
        simp
        omega
      · simp [q]

/-- The tree of these handlers. -/
structure Built (leaf : Nat) (hs : List Hn) (ks : List Kn) : Prop where
  len : ks.length = 2 * leaf
  mem : ∀ y m, m ∈ (kn ks y).hs ↔ ∃ h, hs[m]? = some h ∧ y ∈ knots leaf h
  deep : ∀ y d, 0 ≤ d → (d < (kn ks y).deep ↔ ∃ (m : Nat) (h : Hn), hs[m]? = some h ∧ y ∈ knots leaf h ∧ d < h.deep)

theorem built_none (leaf : Nat) : Built leaf [] (List.replicate (2 * leaf) ⟨0, []⟩) := by
  have : ∀ y, kn (List.replicate (2 * leaf) ⟨0, []⟩) y = ⟨0, []⟩ := by
    intro y
    unfold kn
    rw [List.getD_eq_getElem?_getD, List.getElem?_replicate]
    split <;> rfl
  refine ⟨by simp, fun y m => by rw [this]; simp, fun y d h => by rw [this]; simp; omega⟩

theorem snoc_iff {hs : List Hn} {h : Hn} {P : Nat → Hn → Prop} : (∃ (m : Nat) (g : Hn), (hs ++ [h])[m]? = some g ∧ P m g) ↔ (∃ (m : Nat) (g : Hn), hs[m]? = some g ∧ P m g) ∨ P hs.length h := by
  constructor
  · rintro ⟨m, g, h1, h2⟩
    by_cases e : m < hs.length
    · rw [List.getElem?_append_left e] at h1
      exact .inl ⟨m, g, h1, h2⟩
    · rw [List.getElem?_append_right (by omega)] at h1
      have e2 : m = hs.length := by
        have := (List.getElem?_eq_some_iff.1 h1).1
        simp at this; omega
      subst e2
      simp at h1
      subst h1
      exact .inr h2
  · rintro (⟨m, g, h1, h2⟩ | h2)
    · exact ⟨m, g, by rw [List.getElem?_append_left (List.getElem?_eq_some_iff.1 h1).1]; exact h1, h2⟩
    · exact ⟨hs.length, h, by simp, h2⟩

theorem Built.add {leaf : Nat} {hs : List Hn} {ks : List Kn} (b : Built leaf hs ks) {h : Hn} (h2 : h.to ≤ leaf) (h1 : 0 ≤ h.to) : Built leaf (hs ++ [h]) (addF hs.length h.deep ks (knots leaf h)) := by
  have hk : ∀ y, _ := fun y => addF_kn hs.length h.deep (knots leaf h) ks y (fun z hz => by have := span_lt hz; rw [b.len]; omega)
  refine ⟨by rw [addF_len, b.len], fun y m => ?_, fun y d hd => ?_⟩
  · rw [(hk y).1 m, b.mem y m]
    constructor
    · rintro (⟨g, h3, h4⟩ | ⟨rfl, h4⟩)
      · exact ⟨g, by rw [List.getElem?_append_left (List.getElem?_eq_some_iff.1 h3).1]; exact h3, h4⟩
      · exact ⟨h, by simp, h4⟩
    · rintro ⟨g, h3, h4⟩
      by_cases e : m < hs.length
      · rw [List.getElem?_append_left e] at h3
        exact .inl ⟨g, h3, h4⟩
      · rw [List.getElem?_append_right (by omega)] at h3
        have e2 : m = hs.length := by
          have := (List.getElem?_eq_some_iff.1 h3).1
          simp at this; omega
        subst e2
        simp at h3
        subst h3
        exact .inr ⟨rfl, h4⟩
  · rw [(hk y).2 d, b.deep y d hd]
    exact (snoc_iff (P := fun m g => y ∈ knots leaf g ∧ d < g.deep)).symm

/-- What stands of the tree while depths are told. -/
structure Tree (f : Fm) (ks : List Kn) (told : List Int) : Prop where
  len : ks.length = 2 * f.code.length
  mem : ∀ y m, m ∈ (kn ks y).hs → ∃ h, f.hs[m]? = some h ∧ y ∈ knots f.code.length h
  left : ∀ m h, f.hs[m]? = some h → ∀ y ∈ knots f.code.length h, m ∈ (kn ks y).hs ∨ told.getD h.at_.toNat (-1) = h.deep + 1
  deep : ∀ y d, 0 ≤ d → (d < (kn ks y).deep ↔ ∃ (m : Nat) (h : Hn), f.hs[m]? = some h ∧ y ∈ knots f.code.length h ∧ d < h.deep)

theorem Built.tree {f : Fm} {ks : List Kn} (b : Built f.code.length f.hs ks) (told : List Int) : Tree f ks told :=
  ⟨b.len, fun y m h => (b.mem y m).1 h, fun m h hm y hy => .inl ((b.mem y m).2 ⟨h, hm, hy⟩), b.deep⟩

def deepF (ks : List Kn) (l : List Nat) (d : Int) : Int := l.foldl (fun d y => max d (kn ks y).deep) d

theorem deepF_iff (ks : List Kn) : ∀ (l : List Nat) (d e : Int), e < deepF ks l d ↔ e < d ∨ ∃ y ∈ l, e < (kn ks y).deep
  | [], d, e => by simp [deepF]
  | y :: l, d, e => by
    have : deepF ks (y :: l) d = deepF ks l (max d (kn ks y).deep) := rfl
    rw [this, deepF_iff ks l]
    simp only [List.mem_cons, exists_eq_or_imp]
    constructor
    · rintro (h | h)
      · by_cases q : e < d
        · exact .inl q
        · exact .inr (.inl (by omega))
      · exact .inr (.inr h)
    · rintro (h | h | h)
      · exact .inl (by omega)
      · exact .inl (by omega)
      · exact .inr h

def newsF (ks : List Kn) (l : List Nat) : List Nat := l.flatMap (fun y => (kn ks y).hs)

def clr1 (ks : List Kn) (y : Nat) : List Kn := ks.set y ⟨(kn ks y).deep, []⟩

def clrF (ks : List Kn) (l : List Nat) : List Kn := l.foldl clr1 ks

theorem clrF_len : ∀ (l : List Nat) (ks : List Kn), (clrF ks l).length = ks.length
  | [], ks => rfl
  | y :: l, ks => by
    show (clrF (clr1 ks y) l).length = _
    rw [clrF_len l]; simp [clr1]

theorem clr1_kn (ks : List Kn) (z y : Nat) : kn (clr1 ks z) y = if y = z then ⟨(kn ks y).deep, []⟩ else kn ks y := by
  unfold clr1
  rw [kn_set]
  by_cases q : y = z
  · subst q
    by_cases h : y < ks.length
    · simp [h]
    · simp [h]
      unfold kn
      rw [List.getD_eq_getElem?_getD, List.getElem?_eq_none (by omega)]
      rfl
  · simp [q]

theorem clrF_kn : ∀ (l : List Nat) (ks : List Kn) (y : Nat), kn (clrF ks l) y = if y ∈ l then ⟨(kn ks y).deep, []⟩ else kn ks y
  | [], ks, y => by simp [clrF]
  | z :: l, ks, y => by
    have e : clrF ks (z :: l) = clrF (clr1 ks z) l := rfl
    rw [e, clrF_kn l, clr1_kn]
    by_cases q : y = z
    · subst q
      simp
    · simp [q]

theorem newsF_clr {ks : List Kn} {l : List Nat} {z : Nat} (h : z ∉ l) : newsF (clr1 ks z) l = newsF ks l := by
  unfold newsF
  induction l with
  | nil => rfl
  | cons y l ih =>
    simp only [List.flatMap_cons]
    rw [ih (fun hm => h (by simp [hm])), clr1_kn, if_neg (fun e => h (by simp [e]))]

/-- What a handler tells. -/
def htell (f : Fm) (m : Nat) : Nat × Int := match f.hs[m]? with
  | some h => (h.at_.toNat, h.deep + 1)
  | none => (0, 0)

abbrev upP (f : Fm) (pc : Nat) : List Nat := path (f.code.length + pc) (f.code.length + pc)

theorem news_iff {f : Fm} {ks : List Kn} {told : List Int} (hc : CodeOk f) (ht : Tree f ks told) {pc : Nat} (hp : pc < f.code.length) :
    (∀ m ∈ newsF ks (upP f pc), ∃ h, f.hs[m]? = some h ∧ h ∈ guards f pc) ∧ (∀ h ∈ guards f pc, ∃ m, f.hs[m]? = some h ∧ (m ∈ newsF ks (upP f pc) ∨ told.getD h.at_.toNat (-1) = h.deep + 1)) := by
  constructor
  · intro m hm
    obtain ⟨y, hy, hm⟩ := List.mem_flatMap.1 hm
    obtain ⟨h, h1, h2⟩ := ht.mem y m hm
    obtain ⟨a1, a2, a3, a4, a5, a6⟩ := hc.hs h (List.mem_of_getElem? h1)
    have := (knots_iff (h := h) hp a1 a2 (by omega)).1 ⟨y, h2, hy⟩
    exact ⟨h, h1, List.mem_filter.2 ⟨List.mem_of_getElem? h1, by simpa using this⟩⟩
  · intro h hg
    obtain ⟨h1, h2⟩ := List.mem_filter.1 hg
    obtain ⟨m, hm⟩ := List.getElem?_of_mem h1
    obtain ⟨a1, a2, a3, a4, a5, a6⟩ := hc.hs h h1
    obtain ⟨y, hy, hq⟩ := (knots_iff (h := h) hp a1 a2 (by omega)).2 (by simpa using h2)
    refine ⟨m, hm, ?_⟩
    rcases ht.left m h hm y hy with q | q
    · exact .inl (List.mem_flatMap.2 ⟨y, hq, q⟩)
    · exact .inr q

theorem deep_iff {f : Fm} {ks : List Kn} {told : List Int} (hc : CodeOk f) (ht : Tree f ks told) {pc : Nat} (hp : pc < f.code.length) {d : Int} (hd : 0 ≤ d) :
    d < deepF ks (upP f pc) 0 ↔ (guards f pc).any (fun h => decide (h.deep > d)) = true := by
  rw [deepF_iff, List.any_eq_true]
  constructor
  · rintro (h | ⟨y, hy, h⟩)
    · omega
    · obtain ⟨m, g, h1, h2, h3⟩ := (ht.deep y d hd).1 h
      obtain ⟨a1, a2, a3, a4, a5, a6⟩ := hc.hs g (List.mem_of_getElem? h1)
      have := (knots_iff (h := g) hp a1 a2 (by omega)).1 ⟨y, h2, hy⟩
      exact ⟨g, List.mem_filter.2 ⟨List.mem_of_getElem? h1, by simpa using this⟩, by simpa using h3⟩
  · rintro ⟨g, hg, h3⟩
    obtain ⟨h1, h2⟩ := List.mem_filter.1 hg
    obtain ⟨m, hm⟩ := List.getElem?_of_mem h1
    obtain ⟨a1, a2, a3, a4, a5, a6⟩ := hc.hs g h1
    obtain ⟨y, hy, hq⟩ := (knots_iff (h := g) hp a1 a2 (by omega)).2 (by simpa using h2)
    exact .inr ⟨y, hq, (ht.deep y d hd).2 ⟨m, g, hm, hy, by simpa using h3⟩⟩

/-- All that is told at a place, as the program tells it. -/
def ptell (f : Fm) (ks : List Kn) (pc : Nat) (i : In) (d : Int) : List (Nat × Int) :=
  (newsF ks (upP f pc)).map (htell f) ++ (nextsP i pc).map (fun q => (q, d - takesP i + leavesP i))

theorem step_eq {f : Fm} {ks : List Kn} {told : List Int} (hc : CodeOk f) (ht : Tree f ks told) (hl : told.length = f.code.length) {pc : Nat} {i : In} (hi : f.code[pc]? = some i) (hd : 0 ≤ told.getD pc (-1)) :
    stepP f told pc = if takesP i > told.getD pc (-1) ∨ told.getD pc (-1) - takesP i + leavesP i > 256 ∨ (i.op = 21 ∧ told.getD pc (-1) ≠ 0) ∨ told.getD pc (-1) < deepF ks (upP f pc) 0 then none else tellsP (ptell f ks pc i (told.getD pc (-1))) told := by
  have hp := (List.getElem?_eq_some_iff.1 hi).1
  unfold stepP
  rw [hi]
  simp only
  have hdi := deep_iff hc ht hp hd
  by_cases hn : takesP i > told.getD pc (-1) ∨ told.getD pc (-1) - takesP i + leavesP i > 256 ∨ (i.op = 21 ∧ told.getD pc (-1) ≠ 0) ∨ told.getD pc (-1) < deepF ks (upP f pc) 0
  · rw [if_pos hn, if_pos (by rw [← hdi]; exact hn)]
  · rw [if_neg hn, if_neg (by rw [← hdi]; exact hn)]
    have hr := takes_range hc hi
    obtain ⟨n1, n2⟩ := news_iff hc ht hp
    have hne : ∀ x ∈ (nextsP i pc).map (fun q => (q, told.getD pc (-1) - takesP i + leavesP i)), x.1 < told.length ∧ 0 ≤ x.2 := by
      intro x hx
      obtain ⟨q, hq, rfl⟩ := List.mem_map.1 hx
      have := nexts_lt hc hi q hq
      simp only
      omega
    refine tellsP_congr ?_ ?_ ?_
    · intro x hx
      rcases List.mem_append.1 hx with hx | hx
      · obtain ⟨h, hh, rfl⟩ := List.mem_map.1 hx
        obtain ⟨a1, a2, a3, a4, a5, a6⟩ := hc.hs h (List.mem_filter.1 hh).1
        simp only
        omega
      · exact hne x hx
    · intro x hx
      rcases List.mem_append.1 hx with hx | hx
      · obtain ⟨m, hm, rfl⟩ := List.mem_map.1 hx
        obtain ⟨h, h1, h2⟩ := n1 m hm
        refine List.mem_append.2 (.inl (List.mem_map.2 ⟨h, h2, ?_⟩))
        unfold htell
        rw [h1]
      · exact List.mem_append.2 (.inr hx)
    · intro x hx
      rcases List.mem_append.1 hx with hx | hx
      · obtain ⟨h, hh, rfl⟩ := List.mem_map.1 hx
        obtain ⟨m, h1, h2⟩ := n2 h hh
        rcases h2 with h2 | h2
        · refine .inl (List.mem_append.2 (.inl (List.mem_map.2 ⟨m, h2, ?_⟩)))
          unfold htell
          rw [h1]
        · exact .inr h2
      · exact .inl (List.mem_append.2 (.inr hx))

theorem ptell_ok {f : Fm} {ks : List Kn} {told : List Int} (hc : CodeOk f) (ht : Tree f ks told) (hl : told.length = f.code.length) {pc : Nat} {i : In} (hi : f.code[pc]? = some i) {d : Int} (hd : takesP i ≤ d) (hd2 : d - takesP i + leavesP i ≤ 256) : ∀ x ∈ ptell f ks pc i d, x.1 < told.length ∧ 0 ≤ x.2 ∧ x.2 ≤ 256 := by
  have hp := (List.getElem?_eq_some_iff.1 hi).1
  have hr := takes_range hc hi
  intro x hx
  rcases List.mem_append.1 hx with hx | hx
  · obtain ⟨m, hm, rfl⟩ := List.mem_map.1 hx
    obtain ⟨h, h1, h2⟩ := (news_iff hc ht hp).1 m hm
    obtain ⟨a1, a2, a3, a4, a5, a6⟩ := hc.hs h (List.mem_of_getElem? h1)
    unfold htell
    rw [h1]
    simp only
    omega
  · obtain ⟨q, hq, rfl⟩ := List.mem_map.1 hx
    have := nexts_lt hc hi q hq
    simp only
    omega

theorem Tree.next {f : Fm} {ks : List Kn} {told u : List Int} (hc : CodeOk f) (ht : Tree f ks told) (hl : told.length = f.code.length) {pc : Nat} {i : In} (hi : f.code[pc]? = some i) {d : Int} (hd : takesP i ≤ d) (hd2 : d - takesP i + leavesP i ≤ 256) (hu : tellsP (ptell f ks pc i d) told = some u) : Tree f (clrF ks (upP f pc)) u := by
  obtain ⟨u1, u2, u3, u4⟩ := (tellsP_char (fun x hx => ⟨(ptell_ok hc ht hl hi hd hd2 x hx).1, (ptell_ok hc ht hl hi hd hd2 x hx).2.1⟩)).1 hu
  refine ⟨by rw [clrF_len, ht.len], fun y m h => ?_, fun m h hm y hy => ?_, fun y d hd => ?_⟩
  · rw [clrF_kn] at h
    split at h
    · simp at h
    · exact ht.mem y m h
  · have ha := hc.hs h (List.mem_of_getElem? hm)
    have keep : told.getD h.at_.toNat (-1) = h.deep + 1 → u.getD h.at_.toNat (-1) = h.deep + 1 := fun e => by rw [u3 _ (by rw [e]; omega)]; exact e
    rw [clrF_kn]
    by_cases q : y ∈ upP f pc
    · rw [if_pos q]
      refine .inr ?_
      rcases ht.left m h hm y hy with hh | hh
      · have := u2 (htell f m) (List.mem_append.2 (.inl (List.mem_map.2 ⟨m, List.mem_flatMap.2 ⟨y, q, hh⟩, rfl⟩)))
        unfold htell at this
        rw [hm] at this
        exact this
      · exact keep hh
    · rw [if_neg q]
      rcases ht.left m h hm y hy with hh | hh
      · exact .inl hh
      · exact .inr (keep hh)
  · rw [clrF_kn]
    have : (if y ∈ upP f pc then (⟨(kn ks y).deep, []⟩ : Kn) else kn ks y).deep = (kn ks y).deep := by split <;> rfl
    rw [this]
    exact ht.deep y d hd

/-- How many were told nothing. -/
def unT (told : List Int) : Nat := told.countP (fun x => decide (x < 0))

theorem unT_set : ∀ {told : List Int} {k : Nat} {d : Int}, k < told.length → told.getD k (-1) < 0 → 0 ≤ d → unT (told.set k d) + 1 = unT told
  | [], k, d, h, _, _ => by simp at h
  | x :: r, 0, d, _, h, hd => by
    have hx : x < 0 := by simpa using h
    simp [unT, hx, show ¬ d < 0 by omega]
  | x :: r, k + 1, d, hk, h, hd => by
    have := unT_set (told := r) (k := k) (d := d) (by simpa using hk) (by simpa using h) hd
    unfold unT at *
    simp only [List.set_cons_succ, List.countP_cons]
    omega

/-- Places that wait. -/
structure Qi (n : Nat) (told : List Int) (taken : List Bool) (q : List Int) : Prop where
  tl : told.length = n
  kl : taken.length = n
  nod : q.Nodup
  hp : HpN q q.length
  nat : ∀ x ∈ q, 0 ≤ x ∧ x < n
  mem : ∀ k : Nat, (k : Int) ∈ q ↔ Opn told taken k
  tk : ∀ k, k < n → taken.getD k true = true → 0 ≤ told.getD k (-1)
  sum : unT told + q.length = cnt taken

theorem getD_set_if' (l : List Int) (i k : Nat) (x : Int) (hi : i < l.length) : (l.set i x).getD k (-1) = if k = i then x else l.getD k (-1) := by
  rw [List.getD_eq_getElem?_getD, List.getD_eq_getElem?_getD, List.getElem?_set]
  by_cases e : i = k
  · subst e; simp [hi]
  · have : ¬ k = i := fun h => e h.symm
    simp [e, this]

theorem opn_lt {told : List Int} {taken : List Bool} {k : Nat} (h : Opn told taken k) : k < taken.length := by
  rcases Nat.lt_or_ge k taken.length with e | e
  · exact e
  · have := h.1
    rw [List.getD_eq_getElem?_getD, List.getElem?_eq_none e] at this
    simp at this

theorem Qi.push {n : Nat} {told : List Int} {taken : List Bool} {q r : List Int} (h : Qi n told taken q) {k : Nat} (hk : k < n) {d : Int} (hd : 0 ≤ d) (ht : told.getD k (-1) < 0) (hr : r.Perm (q ++ [(k : Int)])) (hh : HpN r r.length) : Qi n (told.set k d) taken r := by
  have hs := fun j => getD_set_if' told k j d (by rw [h.tl]; exact hk)
  have hnk : taken.getD k true = false := by
    cases e : taken.getD k true
    · rfl
    · have := h.tk k hk e; omega
  have hni : (k : Int) ∉ q := fun hm => by have := ((h.mem k).1 hm).2; omega
  refine ⟨by simp [h.tl], h.kl, ?_, hh, ?_, ?_, ?_, ?_⟩
  · rw [hr.nodup_iff, List.nodup_append]
    exact ⟨h.nod, by simp, fun a ha b hb => by simp at hb; subst hb; exact fun e => hni (e ▸ ha)⟩
  · intro x hx
    rcases List.mem_append.1 (hr.mem_iff.1 hx) with hx | hx
    · exact h.nat x hx
    · simp at hx; omega
  · intro j
    rw [hr.mem_iff, List.mem_append, h.mem j]
    unfold Opn
    rw [hs]
    by_cases e : j = k
    · subst e
      simp only [List.mem_singleton, or_true, if_true, true_iff]
      exact ⟨hnk, hd⟩
    · rw [if_neg e]
      constructor
      · rintro (h1 | h1)
        · exact h1
        · simp at h1; omega
      · intro h1; exact .inl h1
  · intro j hj hj2
    rw [hs]
    split
    · exact hd
    · exact h.tk j hj hj2
  · have h1 := unT_set (told := told) (k := k) (d := d) (by rw [h.tl]; exact hk) ht hd
    have h2 := h.sum
    rw [hr.length_eq, List.length_append]
    simp
    omega

theorem Qi.same {n : Nat} {told : List Int} {taken : List Bool} {q : List Int} (h : Qi n told taken q) {k : Nat} (hk : k < n) {d : Int} (ht : told.getD k (-1) = d) : told.set k d = told := by
  refine List.ext_getElem? (fun j => ?_)
  rw [List.getElem?_set]
  split
  · rename_i e
    subst e
    have hl : k < told.length := by rw [h.tl]; exact hk
    rw [List.getD_eq_getElem?_getD] at ht
    simp [hl] at ht ⊢
    exact ht.symm
  · rfl

theorem Qi.pop {n : Nat} {told : List Int} {taken : List Bool} {q r : List Int} (h : Qi n told taken q) (hq : 0 < q.length) (hr : q.Perm (q.getD 0 0 :: r)) (hh : HpN r r.length) :
    ∃ pc : Nat, q.getD 0 0 = (pc : Int) ∧ pc < n ∧ taken[pc]? = some false ∧ 0 ≤ told.getD pc (-1) ∧ (∀ k, k < pc → ¬ Opn told taken k) ∧ Qi n told (taken.set pc true) r := by
  have hm : q.getD 0 0 ∈ q := hr.mem_iff.2 (by simp)
  obtain ⟨h1, h2⟩ := h.nat _ hm
  obtain ⟨pc, hpc⟩ : ∃ pc : Nat, q.getD 0 0 = (pc : Int) := ⟨(q.getD 0 0).toNat, by omega⟩
  rw [hpc] at hm hr h1 h2
  have ho := (h.mem pc).1 hm
  have hpn : pc < n := by omega
  have hg : ∀ k, (taken.set pc true).getD k true = if k = pc then true else taken.getD k true := by
    intro k
    rw [List.getD_eq_getElem?_getD, List.getD_eq_getElem?_getD, List.getElem?_set]
    by_cases e : pc = k
    · subst e
      simp [h.kl, hpn]
    · have : ¬ k = pc := fun h => e h.symm
      simp [e, this]
  have hnd := (hr.nodup_iff.1 h.nod)
  rw [List.nodup_cons] at hnd
  refine ⟨pc, hpc, hpn, ?_, ho.2, fun k hk hok => ?_, ⟨h.tl, by simp [h.kl], hnd.2, hh, fun x hx => h.nat x (hr.mem_iff.2 (by simp [hx])), fun k => ?_, fun k hk hk2 => ?_, ?_⟩⟩
  · have := ho.1
    rw [List.getD_eq_getElem?_getD] at this
    have hl : pc < taken.length := by rw [h.kl]; exact hpn
    simp [hl] at this ⊢
    exact this
  · have hkq := (h.mem k).2 hok
    obtain ⟨j, hj⟩ := List.getElem?_of_mem hkq
    have hjl := (List.getElem?_eq_some_iff.1 hj).1
    have := h.hp.least j j (Nat.le_refl _) hjl
    rw [hpc, List.getD_eq_getElem?_getD, hj] at this
    simp at this
    omega
  · unfold Opn
    rw [hg]
    by_cases e : k = pc
    · subst e
      rw [if_pos rfl]
      simp [hnd.1]
    · rw [if_neg e]
      have := h.mem k
      rw [hr.mem_iff] at this
      simp only [List.mem_cons] at this
      rw [show ((k : Int) = (pc : Int)) ↔ False by simp; omega, false_or] at this
      exact this
  · rw [hg] at hk2
    by_cases e : k = pc
    · subst e; exact ho.2
    · rw [if_neg e] at hk2
      exact h.tk k hk hk2
  · have h1 : taken[pc]? = some false := by
      have := ho.1
      rw [List.getD_eq_getElem?_getD] at this
      have hl : pc < taken.length := by rw [h.kl]; exact hpn
      simp [hl] at this ⊢
      exact this
    have h2 := cnt_set h1
    have h3 := h.sum
    have h4 := hr.length_eq
    simp at h4
    omega

theorem Qi.empty {n : Nat} {told : List Int} {taken : List Bool} {q : List Int} (h : Qi n told taken q) (hq : q.length = 0) : ∀ k, ¬ Opn told taken k := by
  intro k hk
  have := (h.mem k).2 hk
  rw [List.length_eq_zero_iff.1 hq] at this
  simp at this

theorem qi_begin {n : Nat} : Qi n (List.replicate n (-1)) (List.replicate n false) [] := by
  have : ∀ k, (List.replicate n (-1 : Int)).getD k (-1) = -1 := by
    intro k
    rw [List.getD_eq_getElem?_getD, List.getElem?_replicate]
    split <;> rfl
  refine ⟨by simp, by simp, by simp, by intro k _ h; simp at h, by simp, fun k => ?_, fun k hk h => ?_, by rw [cnt_replicate]; simp [unT, List.countP_replicate]⟩
  · unfold Opn
    rw [this]
    simp
  · rw [List.getD_eq_getElem?_getD, List.getElem?_replicate, if_pos hk] at h
    simp at h

end Go.Proofs.YtnekcomkochmjaaGreatDoor

namespace Go.Proofs.YtnekcomkochmjaaGreatDoor
set_option linter.unusedVariables false
set_option linter.unusedSimpArgs false
open Go.RowKit

def bitOf (bs : List Nat) (k : Nat) : Bool := (bs.getD (k / 64) 0).testBit (k % 64)

def setB (bs : List Nat) (k : Nat) : List Nat := bs.set (k / 64) (bs.getD (k / 64) 0 ||| 2 ^ (k % 64))

def clrB (bs : List Nat) (i : Nat) : List Nat := bs.set i (bs.getD i 0 &&& (bs.getD i 0 - 1))

theorem getD_setN (l : List Nat) (i k x : Nat) (hi : i < l.length) : (l.set i x).getD k 0 = if k = i then x else l.getD k 0 := by
  rw [List.getD_eq_getElem?_getD, List.getD_eq_getElem?_getD, List.getElem?_set]
  by_cases e : i = k
  · subst e; simp [hi]
  · have : ¬ k = i := fun h => e h.symm
    simp [e, this]

theorem bitOf_setB {bs : List Nat} {k : Nat} (h : k / 64 < bs.length) (j : Nat) : bitOf (setB bs k) j = (decide (j = k) || bitOf bs j) := by
  unfold bitOf setB
  rw [getD_setN _ _ _ _ h]
  by_cases e : j / 64 = k / 64
  · rw [if_pos e, Nat.testBit_or, Nat.testBit_two_pow, e]
    have : decide (k % 64 = j % 64) = decide (j = k) := by
      by_cases q : j = k
      · subst q; simp
      · have : ¬ k % 64 = j % 64 := by omega
        simp [q, this]
    rw [this, Bool.or_comm]
  · rw [if_neg e]
    have : ¬ j = k := fun q => e (by rw [q])
    simp [this]

theorem low_bits {b : Nat} (h0 : b ≠ 0) (hb : b < 2 ^ 64) : Lib.ctz 64 b < 64 ∧ b.testBit (Lib.ctz 64 b) = true ∧ (∀ j, j < Lib.ctz 64 b → b.testBit j = false) ∧ ∀ j, (b &&& (b - 1)).testBit j = (b.testBit j && !decide (j = Lib.ctz 64 b)) := by
  have hc : Lib.ctz 64 b = Lib.ctzFrom 64 b := by unfold Lib.ctz; rw [if_neg h0]
  obtain ⟨m, hm, hlt⟩ := Lib.ctzFrom_spec 64 b (by omega) hb
  rw [← hc] at hm hlt
  generalize Lib.ctz 64 b = c at hm hlt
  have t1 : ∀ j, b.testBit j = (decide (j ≥ c) && (2 * m + 1).testBit (j - c)) := fun j => by rw [hm, Nat.testBit_two_pow_mul]
  have e2 : b - 1 = 2 ^ c * (2 * m) + (2 ^ c - 1) := by
    have hp : 0 < 2 ^ c := Nat.two_pow_pos c
    rw [hm, Nat.mul_add]
    omega
  have t2 : ∀ j, (b - 1).testBit j = if j < c then (2 ^ c - 1).testBit j else (2 * m).testBit (j - c) := fun j => by
    rw [e2, Nat.testBit_two_pow_mul_add _ (by have hp : 0 < 2 ^ c := Nat.two_pow_pos c; omega)]
  refine ⟨hlt, ?_, fun j hj => ?_, fun j => ?_⟩
  · rw [t1]; simp
  · rw [t1]
    have : ¬ j ≥ c := by omega
    simp [this]
  · rw [Nat.testBit_and, t2, t1]
    by_cases q1 : j < c
    · have q2 : ¬ j ≥ c := by omega
      simp [q2]
    · rw [if_neg q1]
      by_cases q3 : j = c
      · subst q3
        simp
      · obtain ⟨t, ht⟩ : ∃ t, j - c = t + 1 := ⟨j - c - 1, by omega⟩
        have q2 : j ≥ c := by omega
        have d1 : (2 * m + 1) / 2 = m := by omega
        have d2 : (2 * m) / 2 = m := by omega
        rw [ht, Nat.testBit_succ, Nat.testBit_succ, d1, d2]
        simp [q2, q3]

theorem bitOf_clrB {bs : List Nat} {i : Nat} (h : i < bs.length) (h0 : bs.getD i 0 ≠ 0) (hb : bs.getD i 0 < 2 ^ 64) (j : Nat) : bitOf (clrB bs i) j = (bitOf bs j && !decide (j = 64 * i + Lib.ctz 64 (bs.getD i 0))) := by
  obtain ⟨l1, l2, l3, l4⟩ := low_bits h0 hb
  unfold bitOf clrB
  rw [getD_setN _ _ _ _ h]
  by_cases e : j / 64 = i
  · rw [if_pos e, l4, e]
    have : decide (j % 64 = Lib.ctz 64 (bs.getD i 0)) = decide (j = 64 * i + Lib.ctz 64 (bs.getD i 0)) := by
      generalize Lib.ctz 64 (bs.getD i 0) = c at l1
      by_cases q : j % 64 = c
      · have : j = 64 * i + c := by omega
        rw [decide_eq_true q, decide_eq_true this]
      · have : ¬ j = 64 * i + c := by omega
        rw [decide_eq_false q, decide_eq_false this]
    rw [this]
  · rw [if_neg e]
    have : ¬ j = 64 * i + Lib.ctz 64 (bs.getD i 0) := by
      generalize Lib.ctz 64 (bs.getD i 0) = c at l1
      omega
    rw [decide_eq_false this]
    simp

/-- Places that wait, as bits; none is in the rows ahead of lst. -/
structure Qb (n : Nat) (told : List Int) (taken : List Bool) (bs : List Nat) (lst : Nat) : Prop where
  tl : told.length = n
  kl : taken.length = n
  bl : bs.length = n / 64 + 1
  w64 : ∀ i, bs.getD i 0 < 2 ^ 64
  mem : ∀ k, bitOf bs k = true ↔ Opn told taken k
  lo : ∀ i, i < lst → bs.getD i 0 = 0
  tk : ∀ k, k < n → taken.getD k true = true → 0 ≤ told.getD k (-1)
  ll : lst ≤ n / 64 + 1

theorem Qb.push {n : Nat} {told : List Int} {taken : List Bool} {bs : List Nat} {lst : Nat} (h : Qb n told taken bs lst) {k : Nat} (hk : k < n) {d : Int} (hd : 0 ≤ d) (ht : told.getD k (-1) < 0) : Qb n (told.set k d) taken (setB bs k) (min lst (k / 64)) := by
  have hs := fun j => getD_set_if' told k j d (by rw [h.tl]; exact hk)
  have hkb : k / 64 < bs.length := by rw [h.bl]; omega
  have hnk : taken.getD k true = false := by
    cases e : taken.getD k true
    · rfl
    · have := h.tk k hk e; omega
  refine ⟨by simp [h.tl], h.kl, by simp [setB, h.bl], fun i => ?_, fun j => ?_, fun i hi => ?_, fun j hj hj2 => ?_, by have := h.ll; omega⟩
  · unfold setB
    rw [getD_setN _ _ _ _ hkb]
    split
    · exact Nat.or_lt_two_pow (h.w64 _) (Nat.pow_lt_pow_right (by omega) (by omega))
    · exact h.w64 i
  · rw [bitOf_setB hkb]
    unfold Opn
    rw [hs]
    by_cases e : j = k
    · subst e
      rw [if_pos rfl]
      exact ⟨fun _ => ⟨hnk, hd⟩, fun _ => by simp⟩
    · have hm := h.mem j
      unfold Opn at hm
      simp [e]
      simpa using hm
  · unfold setB
    rw [getD_setN _ _ _ _ hkb, if_neg (by omega)]
    exact h.lo i (by omega)
  · rw [hs]
    split
    · exact hd
    · exact h.tk j hj hj2

theorem Qb.same {n : Nat} {told : List Int} {taken : List Bool} {bs : List Nat} {lst : Nat} (h : Qb n told taken bs lst) {k : Nat} (hk : k < n) {d : Int} (ht : told.getD k (-1) = d) : told.set k d = told := by
  refine List.ext_getElem? (fun j => ?_)
  rw [List.getElem?_set]
  split
  · rename_i e
    subst e
    have hl : k < told.length := by rw [h.tl]; exact hk
    rw [List.getD_eq_getElem?_getD] at ht
    simp [hl] at ht ⊢
    exact ht.symm
  · rfl

theorem zero_bit {bs : List Nat} {k : Nat} (h : bs.getD (k / 64) 0 = 0) : bitOf bs k = false := by
  unfold bitOf; rw [h]; exact Nat.zero_testBit _

/-- The least one is taken. -/
theorem Qb.pick {n : Nat} {told : List Int} {taken : List Bool} {bs : List Nat} {lst : Nat} (h : Qb n told taken bs lst) (hl : lst < bs.length) (h0 : bs.getD lst 0 ≠ 0) {pc : Nat} (hpc : pc = 64 * lst + Lib.ctz 64 (bs.getD lst 0)) :
    pc < n ∧ taken[pc]? = some false ∧ 0 ≤ told.getD pc (-1) ∧ (∀ k, k < pc → ¬ Opn told taken k) ∧ Qb n told (taken.set pc true) (clrB bs lst) lst := by
  obtain ⟨l1, l2, l3, l4⟩ := low_bits h0 (h.w64 lst)
  have hb := fun j => bitOf_clrB hl h0 (h.w64 lst) j
  rw [← hpc] at hb
  generalize Lib.ctz 64 (bs.getD lst 0) = c at l1 l2 l3 hpc
  have hd : pc / 64 = lst := by omega
  have hm : pc % 64 = c := by omega
  have ho : Opn told taken pc := (h.mem pc).1 (by unfold bitOf; rw [hd, hm]; exact l2)
  have hpn : pc < n := by have := opn_lt ho; rw [h.kl] at this; exact this
  have hg : ∀ k, (taken.set pc true).getD k true = if k = pc then true else taken.getD k true := by
    intro k
    rw [List.getD_eq_getElem?_getD, List.getD_eq_getElem?_getD, List.getElem?_set]
    by_cases e : pc = k
    · subst e
      simp [h.kl, hpn]
    · have : ¬ k = pc := fun h => e h.symm
      simp [e, this]
  refine ⟨hpn, ?_, ho.2, fun k hk hok => ?_, ⟨h.tl, by simp [h.kl], by simp [clrB, h.bl], fun i => ?_, fun k => ?_, fun i hi => ?_, fun k hk hk2 => ?_, h.ll⟩⟩
  · have := ho.1
    rw [List.getD_eq_getElem?_getD] at this
    have hl : pc < taken.length := by rw [h.kl]; exact hpn
    simp [hl] at this ⊢
    exact this
  · have hkb := (h.mem k).2 hok
    by_cases e : k / 64 = lst
    · unfold bitOf at hkb
      rw [e, l3 (k % 64) (by omega)] at hkb
      cases hkb
    · rw [zero_bit (h.lo _ (by omega))] at hkb
      cases hkb
  · unfold clrB
    rw [getD_setN _ _ _ _ hl]
    split
    · exact Nat.lt_of_le_of_lt Nat.and_le_left (h.w64 lst)
    · exact h.w64 i
  · rw [hb]
    have hmk := h.mem k
    unfold Opn at hmk ⊢
    rw [hg]
    by_cases e : k = pc
    · subst e; simp
    · simp [e]
      simpa using hmk
  · unfold clrB
    rw [getD_setN _ _ _ _ hl, if_neg (by omega)]
    exact h.lo i hi
  · rw [hg] at hk2
    by_cases e : k = pc
    · subst e; exact ho.2
    · rw [if_neg e] at hk2
      exact h.tk k hk hk2

theorem Qb.skip {n : Nat} {told : List Int} {taken : List Bool} {bs : List Nat} {lst : Nat} (h : Qb n told taken bs lst) (hl : lst < bs.length) (h0 : bs.getD lst 0 = 0) : Qb n told taken bs (lst + 1) :=
  ⟨h.tl, h.kl, h.bl, h.w64, h.mem, fun i hi => by
    by_cases e : i = lst
    · subst e; exact h0
    · exact h.lo i (by omega), h.tk, by rw [← h.bl]; omega⟩

theorem Qb.empty {n : Nat} {told : List Int} {taken : List Bool} {bs : List Nat} {lst : Nat} (h : Qb n told taken bs lst) (hl : bs.length ≤ lst) : ∀ k, ¬ Opn told taken k := by
  intro k hk
  have := (h.mem k).2 hk
  rw [zero_bit] at this
  · cases this
  · by_cases e : k / 64 < lst
    · exact h.lo _ e
    · rw [List.getD_eq_getElem?_getD, List.getElem?_eq_none (by omega)]; rfl

theorem qb_begin {n : Nat} : Qb n (List.replicate n (-1)) (List.replicate n false) (List.replicate (n / 64 + 1) 0) 0 := by
  have h1 : ∀ k, (List.replicate n (-1 : Int)).getD k (-1) = -1 := by
    intro k
    rw [List.getD_eq_getElem?_getD, List.getElem?_replicate]
    split <;> rfl
  have h2 : ∀ k, (List.replicate (n / 64 + 1) 0).getD k 0 = 0 := by
    intro k
    rw [List.getD_eq_getElem?_getD, List.getElem?_replicate]
    split <;> rfl
  refine ⟨by simp, by simp, by simp, fun i => by rw [h2]; exact Nat.two_pow_pos 64, fun k => ?_, fun i hi => by omega, fun k hk h => ?_, by omega⟩
  · unfold Opn
    rw [h1, zero_bit (h2 _)]
    simp
  · rw [List.getD_eq_getElem?_getD, List.getElem?_replicate, if_pos hk] at h
    simp at h

end Go.Proofs.YtnekcomkochmjaaGreatDoor
