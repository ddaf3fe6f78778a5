/- Depths, plainly: what telling comes to; the least place. -/
import Derived.Test.YtcpnjfoblacnhaaDoorVfMath
namespace Go.Proofs.YtcpnjfoblacnhaaDoor
set_option linter.unusedVariables false
set_option linter.unusedSimpArgs false

theorem tellsP_append : ∀ (a b : List (Nat × Int)) (t : List Int), tellsP (a ++ b) t = (tellsP a t).bind (tellsP b)
  | [], b, t => rfl
  | x :: a, b, t => by
    simp only [List.cons_append, tellsP]
    cases tellP t x.1 x.2 with
    | none => rfl
    | some u => exact tellsP_append a b u

theorem tellsP_one (x : Nat × Int) (t : List Int) : tellsP [x] t = tellP t x.1 x.2 := by
  simp only [tellsP]
  cases tellP t x.1 x.2 <;> rfl

theorem tellsP_snoc (a : List (Nat × Int)) (x : Nat × Int) (t : List Int) : tellsP (a ++ [x]) t = (tellsP a t).bind (fun u => tellP u x.1 x.2) := by
  rw [tellsP_append]
  cases tellsP a t with
  | none => rfl
  | some u => exact tellsP_one x u

theorem getD_set_ne {l : List Int} {i j : Nat} (h : i ≠ j) (x d : Int) : (l.set i x).getD j d = l.getD j d := by
  rw [List.getD_eq_getElem?_getD, List.getD_eq_getElem?_getD, List.getElem?_set_ne h]

theorem tellsP_other : ∀ {l : List (Nat × Int)} {t u : List Int} {k : Nat}, tellsP l t = some u → (∀ x ∈ l, x.1 ≠ k) → u.getD k (-1) = t.getD k (-1)
  | [], t, u, k, h, _ => by cases h; rfl
  | x :: l, t, u, k, h, hk => by
    simp only [tellsP] at h
    cases ht : tellP t x.1 x.2 with
    | none => rw [ht] at h; cases h
    | some v =>
      rw [ht] at h
      rw [tellsP_other h (fun y hy => hk y (by simp [hy]))]
      unfold tellP at ht
      split at ht
      · cases ht
      · cases ht; exact getD_set_ne (hk x (by simp)) _ _

theorem tellsP_len : ∀ {l : List (Nat × Int)} {t u : List Int}, tellsP l t = some u → u.length = t.length
  | [], t, u, h => by cases h; rfl
  | x :: l, t, u, h => by
    simp only [tellsP] at h
    cases ht : tellP t x.1 x.2 with
    | none => rw [ht] at h; cases h
    | some v =>
      rw [ht] at h
      rw [tellsP_len h]
      unfold tellP at ht
      split at ht
      · cases ht
      · cases ht; simp

theorem tellsP_range : ∀ {l : List (Nat × Int)} {t u : List Int}, tellsP l t = some u → (∀ x ∈ t, -1 ≤ x ∧ x ≤ 257) → (∀ x ∈ l, -1 ≤ x.2 ∧ x.2 ≤ 257) → ∀ x ∈ u, -1 ≤ x ∧ x ≤ 257
  | [], t, u, h, h1, _ => by cases h; exact h1
  | x :: l, t, u, h, h1, h2 => by
    simp only [tellsP] at h
    cases ht : tellP t x.1 x.2 with
    | none => rw [ht] at h; cases h
    | some v =>
      rw [ht] at h
      refine tellsP_range h ?_ (fun y hy => h2 y (by simp [hy]))
      unfold tellP at ht
      split at ht
      · cases ht
      · cases ht
        intro y hy
        rcases List.mem_or_eq_of_mem_set hy with h3 | h3
        · exact h1 y h3
        · rw [h3]; exact h2 x (by simp)

/-- What is told so far, and whether it was told otherwise ahead. -/
def ToldS (told0 told : List Int) (bad : Bool) (r : Option (List Int)) : Prop := told.length = told0.length ∧ ((r = some told ∧ bad = false) ∨ (r = none ∧ bad = true))

/-- Told and not taken. -/
def Opn (told : List Int) (taken : List Bool) (k : Nat) : Prop := taken.getD k true = false ∧ 0 ≤ told.getD k (-1)

theorem least_some {told : List Int} {taken : List Bool} : ∀ (n k0 pc : Nat), k0 ≤ pc → pc < k0 + n → (∀ k, k0 ≤ k → k < pc → ¬ Opn told taken k) → Opn told taken pc → leastP told taken n k0 = some pc
  | 0, k0, pc, h1, h2, _, _ => by omega
  | n + 1, k0, pc, h1, h2, h3, h4 => by
    by_cases e : k0 = pc
    · subst e
      simp only [leastP]
      exact if_pos h4
    · simp only [leastP]
      exact (if_neg (h3 k0 (Nat.le_refl _) (by omega))).trans (least_some n (k0 + 1) pc (by omega) (by omega) (fun k hk hp => h3 k (by omega) hp) h4)

theorem least_none {told : List Int} {taken : List Bool} : ∀ (n k0 : Nat), (∀ k, k0 ≤ k → k < k0 + n → ¬ Opn told taken k) → leastP told taken n k0 = none
  | 0, k0, _ => rfl
  | n + 1, k0, h => by
    simp only [leastP]
    exact (if_neg (h k0 (Nat.le_refl _) (by omega))).trans (least_none n (k0 + 1) (fun k hk hp => h k (by omega) (by omega)))

def cnt (taken : List Bool) : Nat := taken.countP (fun b => !b)

theorem cnt_set : ∀ {taken : List Bool} {pc : Nat}, taken[pc]? = some false → cnt taken = cnt (taken.set pc true) + 1
  | [], pc, h => by simp at h
  | b :: r, 0, h => by simp at h; subst h; simp [cnt]
  | b :: r, pc + 1, h => by
    have := cnt_set (taken := r) (pc := pc) (by simpa using h)
    unfold cnt at *
    simp only [List.set_cons_succ, List.countP_cons]
    omega

theorem run_step {f : Fm} {told : List Int} {taken : List Bool} {pc : Nat} (hpc : pc < f.code.length) (hlo : ∀ k, k < pc → ¬ Opn told taken k) (ht : taken[pc]? = some false) (hd : 0 ≤ told.getD pc (-1)) :
    runP f (cnt taken) told taken = match stepP f told pc with | none => .error pc | some t => runP f (cnt (taken.set pc true)) t (taken.set pc true) := by
  have ho : Opn told taken pc := ⟨by rw [List.getD_eq_getElem?_getD, ht]; rfl, hd⟩
  rw [cnt_set ht]
  simp only [runP]
  rw [least_some f.code.length 0 pc (Nat.zero_le _) (by omega) (fun k _ hk => hlo k hk) ho]
  cases h : stepP f told pc <;> simp [h]

theorem run_done {f : Fm} {told : List Int} {taken : List Bool} (n : Nat) (hlo : ∀ k, k < f.code.length → ¬ Opn told taken k) : runP f n told taken = .ok told := by
  cases n with
  | zero => rfl
  | succ n =>
    simp only [runP]
    rw [least_none f.code.length 0 (fun k _ hk => hlo k (by omega))]

theorem cnt_replicate : ∀ (n : Nat), cnt (List.replicate n false) = n
  | 0 => rfl
  | n + 1 => by
    have := cnt_replicate n
    unfold cnt at *
    rw [List.replicate_succ, List.countP_cons, this]
    rfl

/-- What the instructions of a function are, once they have been looked at. -/
structure CodeOk (f : Fm) : Prop where
  len1 : 1 ≤ f.code.length
  len : f.code.length ≤ 16384
  op : ∀ i ∈ f.code, i.op < 256
  num : ∀ (pc : Nat) (i : In), f.code[pc]? = some i → (i.op = 22 ∨ i.op = 23 ∨ i.op = 27 → 0 ≤ i.a ∧ i.a ≤ 256) ∧ (i.op = 19 ∨ i.op = 20 → (pc : Int) < i.a ∧ i.a < f.code.length) ∧ (i.op = 21 → 0 ≤ i.a ∧ i.a ≤ (pc : Int)) ∧ (pc + 1 = f.code.length → i.op = 28 ∨ i.op = 29 ∨ i.op = 21)
  hsn : f.hs.length ≤ 16384
  hs : ∀ h ∈ f.hs, 0 ≤ h.fr ∧ h.fr < h.to ∧ h.to ≤ h.at_ ∧ h.at_ < f.code.length ∧ 0 ≤ h.deep ∧ h.deep < 256

theorem takes_range {f : Fm} (h : CodeOk f) {pc : Nat} {i : In} (hi : f.code[pc]? = some i) : 0 ≤ takesP i ∧ takesP i ≤ 512 ∧ 0 ≤ leavesP i ∧ leavesP i ≤ 2 := by
  have := (h.num pc i hi).1
  unfold takesP leavesP
  repeat' split
  all_goals omega

theorem nexts_lt {f : Fm} (h : CodeOk f) {pc : Nat} {i : In} (hi : f.code[pc]? = some i) : ∀ q ∈ nextsP i pc, q < f.code.length := by
  obtain ⟨_, h2, h3, h4⟩ := h.num pc i hi
  have hpc := (List.getElem?_eq_some_iff.1 hi).1
  intro q hq
  unfold nextsP at hq
  split at hq
  · simp at hq
  · split at hq
    · simp at hq
      subst hq
      omega
    · split at hq
      · simp at hq
        rcases hq with rfl | rfl
        · have : ¬ (pc + 1 = f.code.length) := fun e => by have := h4 e; omega
          omega
        · omega
      · simp at hq
        subst hq
        have : ¬ (pc + 1 = f.code.length) := fun e => by have := h4 e; omega
        omega

theorem nexts_a {f : Fm} (h : CodeOk f) {pc : Nat} {i : In} (hi : f.code[pc]? = some i) : (i.op = 19 ∨ i.op = 20 ∨ i.op = 21) → 0 ≤ i.a := by
  obtain ⟨_, h2, h3, h4⟩ := h.num pc i hi
  intro ho
  omega

theorem codeP_ok {fs : List Fm} {fn : Nat} {f : Fm} : ∀ {r : List In} {pc : Nat} {mk : List Int}, (codeP fs fn f r pc mk).1 = none → ∀ j i, r[j]? = some i → ∃ mk', insP fs fn f mk' (pc + j) i = true
  | [], pc, mk, _ => by intro j i hj; simp at hj
  | x :: r, pc, mk, h => by
    intro j i hj
    unfold codeP at h
    split at h
    · rename_i hx
      cases j with
      | zero => simp at hj; subst hj; exact ⟨mk, hx⟩
      | succ j =>
        obtain ⟨mk', h'⟩ := codeP_ok h j i (by simpa using hj)
        exact ⟨mk', by rw [show pc + (j + 1) = pc + 1 + j by omega]; exact h'⟩
    · cases h

theorem ok_of {fs : List Fm} {fn : Nat} {f : Fm} {main : Bool} {mk : List Int} (hh : headP f main = true) (hc : (codeP fs fn f f.code 0 mk).1 = none) (hop : ∀ i ∈ f.code, i.op < 256) : CodeOk f := by
  unfold headP at hh
  simp only [Bool.and_eq_true, decide_eq_true_eq, List.all_eq_true] at hh
  obtain ⟨⟨⟨⟨h1, h2, h3, h4, h5, h6, h7, h8, h9, h10, h11⟩, hk⟩, hl⟩, hhs⟩ := hh
  refine ⟨h9, h10, hop, ?_, h8, fun h hm => ?_⟩
  · intro pc i hi
    obtain ⟨mk', hx⟩ := codeP_ok hc pc i hi
    rw [Nat.zero_add] at hx
    unfold insP at hx
    simp only [Bool.and_eq_true] at hx
    obtain ⟨⟨hn, he⟩, _⟩ := hx
    refine ⟨fun ho => ?_, fun ho => ?_, fun ho => ?_, fun ho => ?_⟩
    · unfold numberP at hn
      rcases ho with e | e | e <;> simp [e] at hn <;> omega
    · unfold numberP at hn
      rcases ho with e | e <;> simp [e] at hn <;> omega
    · unfold numberP at hn
      simp [ho] at hn; omega
    · simp [ho, endsP] at he
      omega
  · have := hhs h hm
    unfold handP at this
    simpa using this

end Go.Proofs.YtcpnjfoblacnhaaDoor
