/- Depths that were told are closed, plainly. -/
import Derived.Test.YtpjgdbeekmoedaaGreatDoorVbMath
namespace Go.Proofs.YtpjgdbeekmoedaaGreatDoor
set_option linter.unusedVariables false
set_option linter.unusedSimpArgs false

theorem getD_set_eq {l : List Int} {i : Nat} (h : i < l.length) (x d : Int) : (l.set i x).getD i d = x := by
  rw [List.getD_eq_getElem?_getD, List.getElem?_set_self h]; rfl

theorem tellP_keep {t u : List Int} {q k : Nat} {d : Int} (h : tellP t q d = some u) (hk : 0 ≤ t.getD k (-1)) : u.getD k (-1) = t.getD k (-1) := by
  unfold tellP at h
  split at h
  · cases h
  · rename_i hn
    cases h
    by_cases e : q = k
    · subst e
      have hlt : q < t.length := by
        rw [List.getD_eq_getElem?_getD] at hk
        cases hx : t[q]? with
        | none => rw [hx] at hk; simp at hk
        | some y => exact (List.getElem?_eq_some_iff.1 hx).1
      rw [getD_set_eq hlt]
      have : ¬ (t.getD q (-1) ≠ d) := fun h => hn ⟨hk, h⟩
      omega
    · exact getD_set_ne e _ _

theorem tellsP_keep : ∀ {l : List (Nat × Int)} {t u : List Int} {k : Nat}, tellsP l t = some u → 0 ≤ t.getD k (-1) → u.getD k (-1) = t.getD k (-1)
  | [], t, u, k, h, _ => by cases h; rfl
  | x :: l, t, u, k, h, hk => by
    simp only [tellsP] at h
    cases ht : tellP t x.1 x.2 with
    | none => rw [ht] at h; cases h
    | some v =>
      rw [ht] at h
      have h1 := tellP_keep ht hk
      rw [tellsP_keep h (by rw [h1]; exact hk), h1]

theorem tellsP_at : ∀ {l : List (Nat × Int)} {t u : List Int}, tellsP l t = some u → (∀ x ∈ l, x.1 < t.length ∧ 0 ≤ x.2) → ∀ x ∈ l, u.getD x.1 (-1) = x.2
  | [], t, u, h, _ => by simp
  | y :: l, t, u, h, hl => by
    simp only [tellsP] at h
    cases ht : tellP t y.1 y.2 with
    | none => rw [ht] at h; cases h
    | some v =>
      rw [ht] at h
      have hv : v = t.set y.1 y.2 := by
        unfold tellP at ht
        split at ht
        · cases ht
        · cases ht; rfl
      intro x hx
      rcases List.mem_cons.1 hx with rfl | hx
      · have e : v.getD x.1 (-1) = x.2 := by rw [hv]; exact getD_set_eq (hl x (by simp)).1 _ _
        rw [tellsP_keep h (by rw [e]; exact (hl x (by simp)).2), e]
      · exact tellsP_at h (fun z hz => by rw [hv, List.length_set]; exact hl z (by simp [hz])) x hx

theorem least_sound {told : List Int} {taken : List Bool} : ∀ (n k0 pc : Nat), leastP told taken n k0 = some pc → Opn told taken pc ∧ k0 ≤ pc ∧ pc < k0 + n
  | 0, k0, pc, h => by simp [leastP] at h
  | n + 1, k0, pc, h => by
    simp only [leastP] at h
    split at h
    · rename_i hc
      cases h
      exact ⟨hc, Nat.le_refl _, by omega⟩
    · have := least_sound n (k0 + 1) pc h
      exact ⟨this.1, by omega, by omega⟩

theorem least_no {told : List Int} {taken : List Bool} : ∀ (n k0 : Nat), leastP told taken n k0 = none → ∀ k, k0 ≤ k → k < k0 + n → ¬ Opn told taken k
  | 0, k0, _, k, h1, h2 => by omega
  | n + 1, k0, h, k, h1, h2 => by
    simp only [leastP] at h
    split at h
    · cases h
    · rename_i hc
      by_cases e : k = k0
      · subst e; exact hc
      · exact least_no n (k0 + 1) h k (by omega) (by omega)

/-- A place whose depth was told and that was taken. -/
structure ClosedAt (f : Fm) (told : List Int) (pc : Nat) (i : In) : Prop where
  takes : takesP i ≤ told.getD pc (-1)
  deep : told.getD pc (-1) - takesP i + leavesP i ≤ 256
  loop : i.op = 21 → told.getD pc (-1) = 0
  hs : ∀ h ∈ f.hs, h.fr ≤ (pc : Int) → (pc : Int) < h.to → h.deep ≤ told.getD pc (-1) ∧ told.getD h.at_.toNat (-1) = h.deep + 1
  next : ∀ q ∈ nextsP i pc, told.getD q (-1) = told.getD pc (-1) - takesP i + leavesP i

theorem ClosedAt.keep {f : Fm} {told told' : List Int} {pc : Nat} {i : In} (h : ClosedAt f told pc i) (hok : CodeOk f) (hi : f.code[pc]? = some i) (hk : ∀ k, 0 ≤ told.getD k (-1) → told'.getD k (-1) = told.getD k (-1)) : ClosedAt f told' pc i := by
  have hr := takes_range hok hi
  have e := hk pc (by have := h.takes; omega)
  refine ⟨by rw [e]; exact h.takes, by rw [e]; exact h.deep, fun ho => by rw [e]; exact h.loop ho, fun x hx h1 h2 => ?_, fun q hq => ?_⟩
  · obtain ⟨a, b⟩ := h.hs x hx h1 h2
    have := hok.hs x hx
    rw [e, hk _ (by rw [b]; omega)]
    exact ⟨a, b⟩
  · have := h.next q hq
    have ht := h.takes
    rw [e, hk _ (by rw [this]; omega)]
    exact this

theorem step_closed {f : Fm} (hok : CodeOk f) {told t : List Int} {pc : Nat} {i : In} (hi : f.code[pc]? = some i) (hl : told.length = f.code.length) (hd : 0 ≤ told.getD pc (-1)) (h : stepP f told pc = some t) : ClosedAt f t pc i ∧ (∀ k, 0 ≤ told.getD k (-1) → t.getD k (-1) = told.getD k (-1)) ∧ t.length = told.length := by
  unfold stepP at h
  rw [hi] at h
  simp only at h
  split at h
  · cases h
  · rename_i hc
    have hr := takes_range hok hi
    have hkeep : ∀ k, 0 ≤ told.getD k (-1) → t.getD k (-1) = told.getD k (-1) := fun k hk => tellsP_keep h hk
    have e := hkeep pc hd
    have hat := tellsP_at h (fun x hx => by
      unfold tellings at hx
      rcases List.mem_append.1 hx with hx | hx
      · obtain ⟨y, hy, rfl⟩ := List.mem_map.1 hx
        have := hok.hs y (List.mem_filter.1 hy).1
        simp only
        omega
      · obtain ⟨y, hy, rfl⟩ := List.mem_map.1 hx
        have := nexts_lt hok hi y hy
        simp only
        omega)
    refine ⟨⟨by rw [e]; omega, by rw [e]; omega, fun ho => by rw [e]; omega, fun x hx h1 h2 => ?_, fun q hq => ?_⟩, hkeep, tellsP_len h⟩
    · have hg : x ∈ guards f pc := List.mem_filter.2 ⟨hx, by simp; omega⟩
      have := hat (x.at_.toNat, x.deep + 1) (List.mem_append_left _ (List.mem_map.2 ⟨x, hg, rfl⟩))
      refine ⟨?_, this⟩
      rw [e]
      have hn : ¬ ((guards f pc).any (fun h => decide (h.deep > told.getD pc (-1))) = true) := fun h => hc (.inr (.inr (.inr h)))
      rw [List.any_eq_true] at hn
      have : ¬ (x.deep > told.getD pc (-1)) := fun h => hn ⟨x, hg, by simpa using h⟩
      omega
    · rw [e]
      exact hat (q, _) (List.mem_append_right _ (List.mem_map.2 ⟨q, hq, rfl⟩))

theorem cnt_zero : ∀ {taken : List Bool}, cnt taken = 0 → ∀ k, taken.getD k true = true
  | [], _, k => by simp
  | b :: r, h, k => by
    unfold cnt at h
    simp only [List.countP_cons] at h
    have hb : b = true := by cases b with | true => rfl | false => simp at h
    have hr : cnt r = 0 := by unfold cnt; omega
    cases k with
    | zero => simp [hb]
    | succ k => simpa using cnt_zero hr k

/-- All that was told is closed. -/
def Closed (f : Fm) (told : List Int) : Prop := ∀ pc i, f.code[pc]? = some i → 0 ≤ told.getD pc (-1) → ClosedAt f told pc i

theorem run_closed {f : Fm} (hok : CodeOk f) : ∀ (n : Nat) (told : List Int) (taken : List Bool) (u : List Int), told.length = f.code.length → taken.length = f.code.length → cnt taken ≤ n → (∀ pc i, f.code[pc]? = some i → taken.getD pc true = true → 0 ≤ told.getD pc (-1) ∧ ClosedAt f told pc i) → runP f n told taken = .ok u → Closed f u ∧ (∀ k, 0 ≤ told.getD k (-1) → u.getD k (-1) = told.getD k (-1)) ∧ u.length = f.code.length
  | 0, told, taken, u, hl, hk, hc, hin, h => by
    simp only [runP] at h
    cases h
    exact ⟨fun pc i hi hd => (hin pc i hi (cnt_zero (by omega) pc)).2, fun _ _ => rfl, hl⟩
  | n + 1, told, taken, u, hl, hk, hc, hin, h => by
    simp only [runP] at h
    cases hle : leastP told taken f.code.length 0 with
    | none =>
      rw [hle] at h
      cases h
      refine ⟨fun pc i hi hd => (hin pc i hi ?_).2, fun _ _ => rfl, hl⟩
      have hpc := (List.getElem?_eq_some_iff.1 hi).1
      have hno := least_no _ _ hle pc (Nat.zero_le _) (by omega)
      cases hb : taken.getD pc true with
      | true => rfl
      | false => exact (hno ⟨hb, hd⟩).elim
    | some pc =>
      rw [hle] at h
      obtain ⟨⟨ho1, ho2⟩, _, hpc⟩ := least_sound _ _ _ hle
      have hpc' : pc < f.code.length := by omega
      obtain ⟨i, hi⟩ : ∃ i, f.code[pc]? = some i := ⟨f.code[pc], by simp⟩
      cases hst : stepP f told pc with
      | none => simp only [hst] at h; cases h
      | some t =>
        simp only [hst] at h
        obtain ⟨c1, c2, c3⟩ := step_closed hok hi hl ho2 hst
        have htk : taken[pc]? = some false := by
          rw [List.getD_eq_getElem?_getD] at ho1
          cases hx : taken[pc]? with
          | none => rw [hx] at ho1; simp at ho1
          | some b => rw [hx] at ho1; simp at ho1; rw [ho1]
        have hcs := cnt_set htk
        have key := run_closed hok n t (taken.set pc true) u (by omega) (by rw [List.length_set]; exact hk) (by omega) (fun q j hj hq => by
          by_cases e : q = pc
          · subst e
            rw [hi] at hj
            cases hj
            exact ⟨by rw [c2 q ho2]; exact ho2, c1⟩
          · have hq' : taken.getD q true = true := by
              rw [List.getD_eq_getElem?_getD, List.getElem?_set_ne (by omega)] at hq
              rw [List.getD_eq_getElem?_getD]; exact hq
            obtain ⟨hd', hcl⟩ := hin q j hj hq'
            exact ⟨by rw [c2 q hd']; exact hd', hcl.keep hok hj c2⟩) h
        exact ⟨key.1, fun k hk0 => by rw [key.2.1 k (by rw [c2 k hk0]; exact hk0), c2 k hk0], key.2.2⟩

/-- What depths tells is closed; the first place is told 0. -/
theorem depths_closed {f : Fm} (hok : CodeOk f) {told : List Int} (h : depthsP f = .ok told) : Closed f told ∧ told.getD 0 (-1) = 0 ∧ told.length = f.code.length := by
  have h1 := hok.len1
  have key := run_closed hok f.code.length ((List.replicate f.code.length (-1)).set 0 0) (List.replicate f.code.length false) told (by simp) (by simp) (by rw [cnt_replicate]; exact Nat.le_refl _) (fun pc i hi ht => by
    have hpc := (List.getElem?_eq_some_iff.1 hi).1
    rw [List.getD_eq_getElem?_getD, List.getElem?_replicate, if_pos hpc] at ht
    simp at ht) h
  have e0 : ((List.replicate f.code.length (-1 : Int)).set 0 0).getD 0 (-1) = 0 := getD_set_eq (by simp; omega) _ _
  refine ⟨key.1, ?_, key.2.2⟩
  rw [key.2.1 0 (by rw [e0]; omega), e0]

end Go.Proofs.YtpjgdbeekmoedaaGreatDoor
