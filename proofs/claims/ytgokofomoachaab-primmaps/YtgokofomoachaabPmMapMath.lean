/- Maps of whole numbers, plainly. -/
import Derived.Test.YtgokofomoachaabPnBin2
import Derived.Test.YtgokofomoachaabPnList
namespace Go.Proofs.Ytgokofomoachaab
set_option linter.unusedVariables false
set_option linter.unusedSimpArgs false

/-- A map's pairs as its values. -/
def mflat : List (Int × Int) → List Vl
  | [] => []
  | (k, v) :: r => ⟨2, k⟩ :: ⟨2, v⟩ :: mflat r

/-- A pair is put. -/
def mput : List (Int × Int) → Int → Int → List (Int × Int)
  | [], x, y => [(x, y)]
  | (k, v) :: r, x, y => if k = x then (k, y) :: r else (k, v) :: mput r x y

def mget : List (Int × Int) → Int → Option Int
  | [], _ => none
  | (k, v) :: r, x => if k = x then some v else mget r x

/-- Where a key stands among the values. -/
def midx : List (Int × Int) → Int → Option Nat
  | [], _ => none
  | (k, v) :: r, x => if k = x then some 0 else (midx r x).map (· + 2)

theorem mflat_len : ∀ m, (mflat m).length = m.length * 2
  | [] => rfl
  | (k, v) :: r => by simp [mflat, mflat_len r]; omega

theorem mflat_kind : ∀ m, ∀ u ∈ mflat m, u.k = 2
  | [], u, h => by simp [mflat] at h
  | (k, v) :: r, u, h => by
    simp [mflat] at h
    rcases h with rfl | rfl | h
    · rfl
    · rfl
    · exact mflat_kind r u h

theorem mput_len (m : List (Int × Int)) (x y : Int) : (mput m x y).length = if (mget m x).isSome then m.length else m.length + 1 := by
  induction m with
  | nil => simp [mput, mget]
  | cons q r ih =>
    obtain ⟨k, v⟩ := q
    simp only [mput, mget]
    by_cases h : k = x
    · simp [h]
    · simp only [h, if_false, List.length_cons, ih]
      split <;> rfl

theorem mget_mput (m : List (Int × Int)) (x y z : Int) : mget (mput m x y) z = if z = x then some y else mget m z := by
  induction m with
  | nil =>
    simp only [mput, mget]
    by_cases h : x = z
    · simp [h]
    · rw [if_neg h, if_neg (fun e => h e.symm)]
  | cons q r ih =>
    obtain ⟨k, v⟩ := q
    simp only [mput]
    by_cases h : k = x
    · subst h
      simp only [if_true, mget]
      by_cases hz : k = z
      · simp [hz]
      · rw [if_neg hz, if_neg (fun e => hz e.symm), if_neg hz]
    · simp only [h, if_false, mget, ih]
      by_cases hz : k = z
      · subst hz; rw [if_pos rfl, if_neg h, if_pos rfl]
      · rw [if_neg hz, if_neg hz]

theorem midx_get (m : List (Int × Int)) (x : Int) : (midx m x).isSome = (mget m x).isSome := by
  induction m with
  | nil => rfl
  | cons q r ih =>
    obtain ⟨k, v⟩ := q
    simp only [midx, mget]
    by_cases h : k = x
    · simp [h]
    · simp [h, ih]

theorem mval_get (m : List (Int × Int)) (x : Int) : mval (mflat m) (midx m x) = match mget m x with | some v => ⟨2, v⟩ | none => ⟨0, 0⟩ := by
  induction m with
  | nil => rfl
  | cons q r ih =>
    obtain ⟨k, v⟩ := q
    simp only [midx, mget]
    by_cases h : k = x
    · simp [h, mval, mflat]
    · simp only [h, if_false]
      rw [← ih]
      cases hm : midx r x with
      | none => rfl
      | some j => simp [mval, mflat, List.getD, show j + 2 + 1 = j + 1 + 2 by omega]

theorem mflat_put (m : List (Int × Int)) (x y : Int) : mflat (mput m x y) = match midx m x with | some j => (mflat m).set (j + 1) ⟨2, y⟩ | none => mflat m ++ [⟨2, x⟩, ⟨2, y⟩] := by
  induction m with
  | nil => rfl
  | cons q r ih =>
    obtain ⟨k, v⟩ := q
    simp only [midx, mput]
    by_cases h : k = x
    · simp [h, mflat]
    · simp only [h, if_false, mflat, ih]
      cases hm : midx r x with
      | none => rfl
      | some j => simp [show j + 2 + 1 = j + 1 + 2 by omega]

/-- Keys that are there once. -/
def mkeys (m : List (Int × Int)) : List Int := m.map Prod.fst

theorem mkeys_put (m : List (Int × Int)) (x y : Int) : mkeys (mput m x y) = if (mget m x).isSome then mkeys m else mkeys m ++ [x] := by
  unfold mkeys
  induction m with
  | nil => simp [mput, mget]
  | cons q r ih =>
    obtain ⟨k, v⟩ := q
    simp only [mput, mget]
    by_cases h : k = x
    · simp [h]
    · simp only [h, if_false, List.map_cons, ih]
      split <;> simp

theorem mget_mem {m : List (Int × Int)} {x : Int} : (mget m x).isSome = true ↔ x ∈ mkeys m := by
  unfold mkeys
  induction m with
  | nil => simp [mget]
  | cons q r ih =>
    obtain ⟨k, v⟩ := q
    simp only [mget, List.map_cons, List.mem_cons]
    by_cases h : k = x
    · simp [h]
    · rw [if_neg h, ih]
      constructor
      · exact .inr
      · rintro (e | e)
        · exact (h e.symm).elim
        · exact e

theorem mput_nodup {m : List (Int × Int)} (h : (mkeys m).Nodup) (x y : Int) : (mkeys (mput m x y)).Nodup := by
  rw [mkeys_put]
  split
  · exact h
  · rename_i hn
    rw [List.nodup_append]
    refine ⟨h, by simp, ?_⟩
    intro a ha b hb e
    simp at hb
    subst hb e
    exact hn (mget_mem.2 ha)

theorem mflat_even : ∀ (m : List (Int × Int)) (i : Nat) (u : Vl), (mflat m)[2 * i]? = some u → ∃ k, (mkeys m)[i]? = some k ∧ u = ⟨2, k⟩
  | [], i, u, h => by simp [mflat] at h
  | (k, v) :: r, 0, u, h => by simp [mflat] at h; exact ⟨k, by simp [mkeys], h.symm⟩
  | (k, v) :: r, i + 1, u, h => by
    rw [show 2 * (i + 1) = 2 * i + 2 by omega] at h
    simp only [mflat, List.getElem?_cons_succ] at h
    obtain ⟨k', h1, h2⟩ := mflat_even r i u h
    exact ⟨k', by simpa [mkeys] using h1, h2⟩

theorem ess_int (S : List Om) (n : Int) : essP S ⟨2, n⟩ = ⟨2, n, ⟨#[]⟩⟩ := by unfold essP; rw [if_neg (by simp)]

/-- Where a key of whole numbers stands. -/
theorem keyAt_ints (S : List Om) (m : List (Int × Int)) (x : Int) : KeyAt S (mflat m) ⟨2, x⟩ (midx m x) := by
  induction m with
  | nil => intro j y _ hy; simp [mflat] at hy
  | cons q r ih =>
    obtain ⟨k, v⟩ := q
    simp only [midx]
    by_cases h : k = x
    · rw [if_pos h]
      exact ⟨rfl, ⟨⟨2, k⟩, by simp [mflat], by rw [h]⟩, fun j y hj => by omega⟩
    · rw [if_neg h]
      have hne : essP S ⟨2, k⟩ ≠ essP S ⟨2, x⟩ := by
        rw [ess_int, ess_int]
        intro e
        injection e with _ e _
        exact h e
      cases hm : midx r x with
      | none =>
        rw [hm] at ih
        intro j y hj hy
        match j, hj, hy with
        | 0, _, hy => simp [mflat] at hy; subst hy; exact hne
        | 1, hj, _ => omega
        | j + 2, hj, hy => exact ih j y (by omega) (by simpa [mflat] using hy)
      | some i =>
        rw [hm] at ih
        obtain ⟨h1, ⟨u, hu, he⟩, h2⟩ := ih
        show KeyAt S (mflat ((k, v) :: r)) ⟨2, x⟩ (some (i + 2))
        refine ⟨by omega, ⟨u, by simpa [mflat] using hu, he⟩, ?_⟩
        intro j y hj hj2 hy
        match j, hj, hj2, hy with
        | 0, _, _, hy => simp [mflat] at hy; subst hy; exact hne
        | 1, _, hj2, _ => omega
        | j + 2, hj, hj2, hy => exact h2 j y (by omega) (by omega) (by simpa [mflat] using hy)

/-- A map of whole numbers as an object. -/
def mapO (m : List (Int × Int)) (r : Int) : Om := ⟨5, ⟨#[]⟩, mflat m, r, 0⟩

theorem check_map {m : List (Int × Int)} (hl : m.length ≤ 65536) (r : Int) (hr : ((mflat m).length : Int) ≤ r) (hr2 : r ≤ 262144) (hn : (mkeys m).Nodup) : checkP [mapO m r] ⟨5, 1⟩ := by
  have hlead : leadO [mapO m r] ⟨5, 1⟩ = some (mapO m r) := by unfold leadO; simp [mapO]
  have hno : ∀ v ∈ mflat m, leadO [mapO m r] v = none := fun v hv => by
    unfold leadO
    rw [if_neg (fun hh => by have := mflat_kind m v hv; omega)]
  refine ⟨⟨fun e => by simp at e, fun e => by simp at e, fun _ => by rw [hlead]; simp⟩, fun x o hx ho => ?_⟩
  have hx1 : x = 1 := hx (fun y => y = 1) (fun v hv hl => by simp at hv; subst hv; rfl) (fun y o hy ho v hv hl => by
    subst hy
    simp [objAt] at ho
    subst ho
    exact (hl (hno v hv)).elim)
  subst hx1
  simp [objAt] at ho
  subst ho
  have hfl := mflat_len m
  refine ⟨⟨fun e => by simp [mapO] at e, fun e => by simp [mapO] at e, fun _ => ⟨by show ((mflat m).length : Int) % 2 = 0; omega, by show ((mflat m).length : Int) ≤ 131072; omega, ⟨hr, hr2⟩, rfl, rfl⟩, fun e => by simp [mapO] at e, fun e => by simp [mapO] at e⟩, fun v hv => ?_, fun _ => ?_⟩
  · have hk := mflat_kind m v hv
    exact ⟨⟨fun e => by omega, fun e => by omega, fun e => by omega⟩, ⟨fun e => by omega, fun e => by simp [mapO] at e⟩⟩
  · intro i j a b ha hb hj hs
    obtain ⟨ka, h1, rfl⟩ := mflat_even m i a ha
    obtain ⟨kb, h2, rfl⟩ := mflat_even m j b hb
    have e : ka = kb := by
      rcases hs.2 with h | h | h
      · simp at h
      · exact h
      · simp at h
    subst e
    have hi := (List.getElem?_eq_some_iff.1 h1)
    have hj' := (List.getElem?_eq_some_iff.1 h2)
    exact (List.pairwise_iff_getElem.1 hn) j i hj'.1 hi.1 hj (by rw [hi.2, hj'.2])

end Go.Proofs.Ytgokofomoachaab
