/- A store that is made wide: what may be there. -/
import Derived.Test.YtgokofomoachaaaGreatDoorPmHold
namespace Go.Proofs.YtgokofomoachaaaGreatDoor
set_option linter.unusedVariables false
set_option linter.unusedSimpArgs false

variable {S : List Om} {o : Om} {n : Nat}

theorem wide_len (h : S.length < n) : (wideS S o n).length = n := by unfold wideS; simp; omega

theorem wide_old {j : Nat} (hj : j < S.length) : (wideS S o n)[j]? = S[j]? := by
  unfold wideS
  rw [List.append_assoc, List.getElem?_append_left hj]

theorem wide_mid (h : S.length < n) {j : Nat} (h1 : S.length ≤ j) (h2 : j < n - 1) : (wideS S o n)[j]? = some zeroO := by
  unfold wideS
  rw [List.append_assoc, List.getElem?_append_right h1, List.getElem?_append_left (by rw [List.length_replicate]; omega), List.getElem?_replicate, if_pos (by omega)]

theorem wide_new (h : S.length < n) : (wideS S o n)[n - 1]? = some o := by
  unfold wideS
  rw [List.getElem?_append_right (by rw [List.length_append, List.length_replicate]; omega)]
  have : n - 1 - (S ++ List.replicate (n - S.length - 1) zeroO).length = 0 := by rw [List.length_append, List.length_replicate]; omega
  rw [this]; rfl

theorem lead_wide (h : S.length < n) {v : Vl} (hv : ¬ (v.k = o.k ∧ v.n = n)) : leadO (wideS S o n) v = leadO S v := by
  unfold leadO
  rw [wide_len h]
  by_cases hk : 3 ≤ v.k ∧ v.k ≤ 7 ∧ 1 ≤ v.n
  · by_cases h1 : v.n ≤ S.length
    · rw [if_pos ⟨hk.1, hk.2.1, hk.2.2, by omega⟩, if_pos ⟨hk.1, hk.2.1, hk.2.2, h1⟩, wide_old (by omega)]
    · have e2 : ¬ (3 ≤ v.k ∧ v.k ≤ 7 ∧ 1 ≤ v.n ∧ v.n ≤ (S.length : Int)) := fun hh => h1 hh.2.2.2
      rw [if_neg e2]
      by_cases h2 : v.n ≤ n
      · rw [if_pos ⟨hk.1, hk.2.1, hk.2.2, h2⟩]
        by_cases h3 : v.n = n
        · rw [show (v.n - 1).toNat = n - 1 by omega, wide_new h]
          simp only
          rw [if_neg (fun e => hv ⟨e.symm, h3⟩)]
        · rw [wide_mid h (by omega) (by omega)]
          simp only
          rw [if_neg (by show ¬ (0 = v.k); omega)]
      · rw [if_neg (fun hh => h2 hh.2.2.2)]
  · rw [if_neg (fun hh => hk ⟨hh.1, hh.2.1, hh.2.2.1⟩), if_neg (fun hh => hk ⟨hh.1, hh.2.1, hh.2.2.1⟩)]

theorem lead_self (h : S.length < n) (h3 : 3 ≤ o.k) (h7 : o.k ≤ 7) : leadO (wideS S o n) ⟨o.k, n⟩ = some o := by
  unfold leadO
  rw [wide_len h, if_pos ⟨h3, h7, by show (1 : Int) ≤ n; omega, by show (n : Int) ≤ n; omega⟩]
  simp only
  rw [show ((n : Int) - 1).toNat = n - 1 by omega, wide_new h]
  simp

theorem objAt_self (h : S.length < n) : objAt (wideS S o n) n = some o := by
  unfold objAt
  rw [if_pos (by omega), show ((n : Int) - 1).toNat = n - 1 by omega, wide_new h]

theorem objAt_old {x : Int} (h1 : x ≤ S.length) : objAt (wideS S o n) x = objAt S x := by
  unfold objAt
  by_cases hx : 1 ≤ x
  · rw [if_pos hx, if_pos hx, wide_old (by omega)]
  · rw [if_neg hx, if_neg hx]

theorem objAt_le {x : Int} {y : Om} (h : objAt S x = some y) : x ≤ S.length ∧ y ∈ S := by
  unfold objAt at h
  split at h
  · have := (List.getElem?_eq_some_iff.1 h).1
    exact ⟨by omega, List.mem_of_getElem? h⟩
  · cases h

theorem reach_le {l : List Vl} {x : Int} (h : Reach S l x) : x ≤ S.length :=
  h (fun y => y ≤ S.length) (fun v hv hl => by obtain ⟨o, ho⟩ := Option.ne_none_iff_exists'.1 hl; exact (leadO_at ho).2.2.1) (fun y o hy ho v hv hl => by obtain ⟨o, ho⟩ := Option.ne_none_iff_exists'.1 hl; exact (leadO_at ho).2.2.1)

theorem reach_any {l : List Vl} {x : Int} (h : Reach S l x) : ∃ v ∈ l, Reach S [v] x :=
  h (fun y => ∃ v ∈ l, Reach S [v] y) (fun v hv hl => ⟨v, hv, Reach.root (by simp) hl⟩) (fun y o ⟨u, hu, hr⟩ ho v hv hl => ⟨u, hu, Reach.next hr ho hv hl⟩)

theorem reach_sub {l : List Vl} {u : Vl} (hu : u ∈ l) {x : Int} (h : Reach S [u] x) : Reach S l x :=
  h (fun y => Reach S l y) (fun v hv hl => by simp at hv; subst hv; exact Reach.root hu hl) (fun y o hy ho v hv hl => Reach.next hy ho hv hl)

/-- Values that do not lead to the new object. -/
def Off (o : Om) (n : Nat) (l : List Vl) : Prop := ∀ v ∈ l, ¬ (v.k = o.k ∧ v.n = n)

theorem val_wide (h : S.length < n) {v : Vl} (hv : ¬ (v.k = o.k ∧ v.n = n)) : valP (wideS S o n) v ↔ valP S v := by unfold valP; rw [lead_wide h hv]

theorem same_wide (h : S.length < n) {a b : Vl} (ha : ¬ (a.k = o.k ∧ a.n = n)) (hb : ¬ (b.k = o.k ∧ b.n = n)) : sameP (wideS S o n) a b ↔ sameP S a b := by unfold sameP; rw [lead_wide h ha, lead_wide h hb]

theorem obj_wide (h : S.length < n) {x : Om} (hx : Off o n x.l) : objP (wideS S o n) x ↔ objP S x := by
  unfold objP heldP keysP
  constructor
  · rintro ⟨h1, h2, h3⟩
    exact ⟨h1, fun v hv => ⟨(val_wide h (hx v hv)).1 (h2 v hv).1, (h2 v hv).2⟩, fun h5 i j a b ha hb hj hs => h3 h5 i j a b ha hb hj ((same_wide h (hx a (List.mem_of_getElem? ha)) (hx b (List.mem_of_getElem? hb))).2 hs)⟩
  · rintro ⟨h1, h2, h3⟩
    exact ⟨h1, fun v hv => ⟨(val_wide h (hx v hv)).2 (h2 v hv).1, (h2 v hv).2⟩, fun h5 i j a b ha hb hj hs => h3 h5 i j a b ha hb hj ((same_wide h (hx a (List.mem_of_getElem? ha)) (hx b (List.mem_of_getElem? hb))).1 hs)⟩

/-- All that values lead to may be. -/
def Cl (S : List Om) (l : List Vl) : Prop := ∀ x y, Reach S l x → objAt S x = some y → objP S y

theorem check_wide (hf : FreeP S o n) (h3 : 3 ≤ o.k) (h7 : o.k ≤ 7) : checkP (wideS S o n) ⟨o.k, n⟩ ↔ objP S o ∧ Cl S o.l := by
  have h := hf.1
  have hoff : Off o n o.l := hf.2.2.1
  have hoffS : ∀ x ∈ S, Off o n x.l := hf.2.2.2
  have hself := lead_self (S := S) (n := n) h h3 h7
  constructor
  · rintro ⟨-, hc⟩
    have hn : Reach (wideS S o n) [⟨o.k, n⟩] n := Reach.root (v := ⟨o.k, n⟩) (by simp) (by rw [hself]; simp)
    refine ⟨(obj_wide h hoff).1 (hc n o hn (objAt_self h)), fun x y hx hy => ?_⟩
    have hxw : Reach (wideS S o n) [⟨o.k, n⟩] x := hx (fun y => Reach (wideS S o n) [⟨o.k, n⟩] y)
      (fun v hv hl => Reach.next hn (objAt_self h) hv (by rw [lead_wide h (hoff v hv)]; exact hl))
      (fun y z hy hz v hv hl => Reach.next hy (by rw [objAt_old (objAt_le hz).1]; exact hz) hv (by rw [lead_wide h (hoffS z (objAt_le hz).2 v hv)]; exact hl))
    exact (obj_wide h (hoffS y (objAt_le hy).2)).1 (hc x y hxw (by rw [objAt_old (objAt_le hy).1]; exact hy))
  · rintro ⟨ho, hcl⟩
    refine ⟨⟨fun e => by simp only at e; omega, fun e => by simp only at e; omega, fun _ => by rw [hself]; simp⟩, fun x y hx hy => ?_⟩
    have key : x = (n : Int) ∨ Reach S o.l x := hx (fun y => y = (n : Int) ∨ Reach S o.l y)
      (fun v hv hl => by simp at hv; subst hv; exact .inl rfl)
      (fun y z hy hz v hv hl => by
        rcases hy with rfl | hy
        · rw [objAt_self h] at hz; cases hz
          exact .inr (Reach.root hv (by rw [← lead_wide h (hoff v hv)]; exact hl))
        · rw [objAt_old (reach_le hy)] at hz
          exact .inr (Reach.next hy hz hv (by rw [← lead_wide h (hoffS z (objAt_le hz).2 v hv)]; exact hl)))
    rcases key with rfl | hr
    · rw [objAt_self h] at hy; cases hy
      exact (obj_wide h hoff).2 ho
    · rw [objAt_old (reach_le hr)] at hy
      exact (obj_wide h (hoffS y (objAt_le hy).2)).2 (hcl x y hr hy)

theorem fine_iff {l : List Vl} : fineP S l ↔ (∀ v ∈ l, valP S v ∧ v.k ≠ 7) ∧ Cl S l := by
  constructor
  · intro h
    refine ⟨fun v hv => ⟨(h v hv).2.1, (h v hv).1⟩, fun x y hx hy => ?_⟩
    obtain ⟨v, hv, hr⟩ := reach_any hx
    exact (h v hv).2.2 x y hr hy
  · rintro ⟨h1, h2⟩ v hv
    exact ⟨(h1 v hv).2, (h1 v hv).1, fun x y hx hy => h2 x y (reach_sub hv hx) hy⟩

/-- A list's items, as an object. -/
def lstO (l : List Vl) : Om := ⟨4, ⟨#[]⟩, l, l.length, 0⟩

theorem obj_list {l : List Vl} (hl : l.length ≤ 65536) : objP S (lstO l) ↔ ∀ v ∈ l, valP S v ∧ v.k ≠ 7 := by
  have hform : formP (lstO l) := by
    refine ⟨fun e => by simp [lstO] at e, fun _ => ⟨by show (l.length : Int) ≤ 65536; omega, ⟨Int.le_refl _, by show (l.length : Int) ≤ 262144; omega⟩, rfl, rfl⟩, fun e => by simp [lstO] at e, fun e => by simp [lstO] at e, fun e => by simp [lstO] at e⟩
  unfold objP heldP
  constructor
  · rintro ⟨-, h2, -⟩ v hv
    exact ⟨(h2 v hv).1, fun e => by have := (h2 v hv).2.1 e; simp [lstO] at this⟩
  · intro h
    exact ⟨hform, fun v hv => ⟨(h v hv).1, fun e => ((h v hv).2 e).elim, fun e => by simp [lstO] at e⟩, fun e => by simp [lstO] at e⟩

theorem hold_list {l : List Vl} (hl : l.length ≤ 65536) (hf : FreeP S (lstO l) n) : checkP (wideS S (lstO l) n) ⟨4, n⟩ ↔ fineP S l := by
  rw [show (⟨4, n⟩ : Vl) = ⟨(lstO l).k, n⟩ from rfl, check_wide hf (by simp [lstO]) (by simp [lstO]), obj_list hl, fine_iff]
  exact Iff.rfl

end Go.Proofs.YtgokofomoachaaaGreatDoor
