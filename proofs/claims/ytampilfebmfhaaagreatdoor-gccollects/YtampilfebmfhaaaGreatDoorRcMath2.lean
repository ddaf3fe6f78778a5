/- The document's Collect: plain lists alone. -/
import Derived.Test.YtampilfebmfhaaaGreatDoorRgMath
import Derived.Test.YtampilfebmfhaaaGreatDoorGcSlide
namespace Go.Proofs.YtampilfebmfhaaaGreatDoor
set_option linter.unusedVariables false
set_option linter.unusedSimpArgs false

/-- Links of values are turned, pair by pair. -/
def relP (M : List Ob) (d : Nat → Nat) (ws : List Nat) : List Nat → List Nat → List Nat
  | acc, [] => acc
  | acc, p :: r => relP M d ws (if Leads M (ws.getD p 0) (ws.getD (p + 1) 0 : Nat) then acc.set (p + 1) (d (ws.getD (p + 1) 0)) else acc) r

theorem relP_snoc (M : List Ob) (d : Nat → Nat) (ws : List Nat) : ∀ (ps : List Nat) (acc : List Nat) (p : Nat), relP M d ws acc (ps ++ [p]) = (if Leads M (ws.getD p 0) (ws.getD (p + 1) 0 : Nat) then (relP M d ws acc ps).set (p + 1) (d (ws.getD (p + 1) 0)) else relP M d ws acc ps)
  | [], acc, p => rfl
  | q :: r, acc, p => by rw [List.cons_append, relP, relP_snoc M d ws r, relP]

theorem relP_len (M : List Ob) (d : Nat → Nat) (ws : List Nat) : ∀ (ps : List Nat) (acc : List Nat), (relP M d ws acc ps).length = acc.length
  | [], acc => rfl
  | q :: r, acc => by
    rw [relP, relP_len M d ws r]
    split <;> simp

theorem relP_prs (M : List Ob) (d : Nat → Nat) (ws ws' : List Nat) : ∀ (l : List Nat) (i : Nat) (acc : List Nat), l = ws'.drop i → (∀ j, j < ws'.length → ws'[j]? = ws[j]?) → relP M d ws acc (pix i l) = relink d acc (prs M i l)
  | [], _, _, _, _ => rfl
  | [_], _, _, _, _ => rfl
  | k :: n :: r, i, acc, hl, hw => by
    have hk : ws.getD i 0 = k ∧ ws.getD (i + 1) 0 = n := by
      have h0 : ws'[i]? = some k := by
        have := congrArg (fun l => l[0]?) hl
        simpa using this.symm
      have h1 : ws'[i + 1]? = some n := by
        have := congrArg (fun l => l[1]?) hl
        simpa using this.symm
      have l0 := (List.getElem?_eq_some_iff.1 h0).1
      have l1 := (List.getElem?_eq_some_iff.1 h1).1
      rw [List.getD_eq_getElem?_getD, List.getD_eq_getElem?_getD, ← hw i l0, ← hw (i + 1) l1, h0, h1]
      exact ⟨rfl, rfl⟩
    have hr : r = ws'.drop (i + 2) := by
      have := congrArg (List.drop 2) hl
      simpa [List.drop_drop, Nat.add_comm] using this
    rw [pix, relP, hk.1, hk.2, prs, relP_prs M d ws ws' r (i + 2) _ hr hw]
    split
    · simp [relink]
    · simp [relink]

/-- The words behind the items' turn. -/
def itW (M : List Ob) (d : Nat → Nat) (o : Ob) : List Nat := if o.kind = 4 ∨ o.kind = 5 then relink d o.ws (itemsL M o.ws) else o.ws

theorem itW_len (M : List Ob) (d : Nat → Nat) (o : Ob) : (itW M d o).length = o.ws.length := by
  unfold itW
  split
  · exact relink_length _ _ _
  · rfl

theorem words_links (M : List Ob) (d : Nat → Nat) (o : Ob) : relP M d o.ws (itW M d o) (pairsI o) = relink d o.ws (links M o) := by
  unfold itW pairsI links
  by_cases h4 : o.kind = 4 ∨ o.kind = 5
  · rw [if_pos h4, if_neg (by omega), if_neg (by omega), if_neg (by omega), if_pos h4]
    rfl
  · rw [if_neg h4, if_neg h4]
    by_cases h8 : o.kind = 8
    · rw [if_pos h8, if_pos h8]
      exact relP_prs M d o.ws o.ws o.ws 0 _ (by simp) (fun _ _ => rfl)
    · rw [if_neg h8, if_neg h8]
      by_cases h6 : o.kind = 6
      · rw [if_pos h6, if_pos h6]
        exact relP_prs M d o.ws o.ws _ 1 _ rfl (fun _ _ => rfl)
      · rw [if_neg h6, if_neg h6]
        by_cases h7 : o.kind = 7
        · rw [if_pos h7, if_pos h7]
          refine relP_prs M d o.ws (o.ws.take 2) _ 0 _ (by simp) (fun j hj => ?_)
          rw [List.getElem?_take_of_lt (by simp at hj; omega)]
        · rw [if_neg h7, if_neg h7]
          rfl

/-- Where what is kept comes to lie. -/
def toN (M : List Ob) (f : Ob → Bool) (S : List Bool) (j : Nat) : Nat := if S.getD j false then sumO ((M.take j).filter f) else 0

theorem toN_dst {M : List Ob} (hs : Srt 0 M) {f : Ob → Bool} {S : List Bool} {i : Nat} {o : Ob} (hi : M[i]? = some o) (hf : f o = true) (hS : S[i]? = some true) : toN M f S i = dst 0 (M.filter f) o.at_ := by
  have hlt := (List.getElem?_eq_some_iff.1 hi).1
  have hM : M = M.take i ++ o :: M.drop (i + 1) := by
    have h1 := List.take_append_drop i M
    rw [List.drop_eq_getElem_cons hlt, (List.getElem?_eq_some_iff.1 hi).2] at h1
    exact h1.symm
  have hF : M.filter f = (M.take i).filter f ++ o :: (M.drop (i + 1)).filter f := by
    conv => lhs; rw [hM]
    rw [List.filter_append, List.filter_cons, if_pos hf]
  have hsf := hs.filter (f := f)
  unfold toN
  rw [List.getD_eq_getElem?_getD, hS]
  simp only [Option.getD_some, if_true]
  rw [hF] at hsf ⊢
  rw [dst_at hsf]
  omega

theorem take_filter {M : List Ob} {f : Ob → Bool} {i : Nat} {o : Ob} (hi : M[i]? = some o) : (M.take (i + 1)).filter f = (M.take i).filter f ++ (if f o = true then [o] else []) := by
  rw [List.take_add_one, hi, List.filter_append]
  simp only [Option.toList_some, List.filter_cons, List.filter_nil]

/-- The row of new places, so far. -/
def toRow (M : List Ob) (f : Ob → Bool) (S : List Bool) (n i : Nat) : List Nat := (List.range n).map (fun j => if j < i then toN M f S j else 0)

theorem toRow_zero (M : List Ob) (f : Ob → Bool) (S : List Bool) (n : Nat) : toRow M f S n 0 = List.replicate n 0 := by
  unfold toRow
  simp [List.map_const']

theorem toRow_len (M : List Ob) (f : Ob → Bool) (S : List Bool) (n i : Nat) : (toRow M f S n i).length = n := by simp [toRow]

theorem toRow_step {M : List Ob} {f : Ob → Bool} {S : List Bool} {n i : Nat} (hi : i < n) : (toRow M f S n i).set i (toN M f S i) = toRow M f S n (i + 1) := by
  apply List.ext_getElem?
  intro k
  rw [List.getElem?_set, toRow_len]
  by_cases e : i = k
  · subst e
    rw [if_pos rfl, if_pos hi]
    unfold toRow
    rw [List.getElem?_map, List.getElem?_range hi]
    simp
  · rw [if_neg e]
    unfold toRow
    rw [List.getElem?_map, List.getElem?_map]
    cases hk : (List.range n)[k]? with
    | none => rfl
    | some j =>
      obtain ⟨h1, h2⟩ := List.getElem?_eq_some_iff.1 hk
      simp only [List.getElem_range] at h2
      subst h2
      simp only [Option.map_some]
      by_cases hl : k < i
      · rw [if_pos hl, if_pos (by omega)]
      · rw [if_neg hl, if_neg (by omega)]

theorem toRow_skip {M : List Ob} {f : Ob → Bool} {S : List Bool} {n i : Nat} (h : S[i]? ≠ some true) : toRow M f S n i = toRow M f S n (i + 1) := by
  unfold toRow
  apply List.map_congr_left
  intro j _
  by_cases e : j = i
  · subst e
    rw [if_neg (by omega), if_pos (by omega)]
    unfold toN
    rw [List.getD_eq_getElem?_getD]
    cases hc : S[j]? with
    | none => rfl
    | some c =>
      cases c with
      | false => rfl
      | true => exact (h hc).elim
  · by_cases h1 : j < i
    · rw [if_pos h1, if_pos (by omega)]
    · rw [if_neg h1, if_neg (by omega)]

end Go.Proofs.YtampilfebmfhaaaGreatDoor

namespace Go.Proofs.YtampilfebmfhaaaGreatDoor
set_option linter.unusedVariables false
set_option linter.unusedSimpArgs false

/-- The row of marks, and what it says. -/
structure Kp (R : List (Ob × Value)) (vs : List Vl) (f : Ob → Bool) (S : List Bool) : Prop where
  srt : Srt 0 (R.map Prod.fst)
  rch : Reached (R.map Prod.fst) vs f
  is : ∀ (i : Nat) (x : Ob × Value), R[i]? = some x → S[i]? = some (f x.1)
  ends : ∀ o ∈ R.map Prod.fst, o.end_ ≤ 1048576

variable {R : List (Ob × Value)} {vs : List Vl} {f : Ob → Bool} {S : List Bool}

theorem findR_pos (hs : Srt 0 (R.map Prod.fst)) {o : Ob} (ho : o ∈ R.map Prod.fst) {n : Int} (e : (o.at_ : Int) = n) : ∃ q : Nat, findR n R = q ∧ q < R.length := by
  rcases findR_cases n R with e2 | e2
  · exfalso
    rcases find_cases R hs n with hn | ⟨l, z, r, hRz, hz, hlz⟩
    · obtain ⟨y, hy, rfl⟩ := List.mem_map.1 ho
      exact hn y hy e
    · rw [hRz, findR_at (fun u hu e => hlz u hu (by omega)) hz] at e2; omega
  · exact e2

theorem Kp.mem {i : Nat} {x : Ob × Value} (hi : R[i]? = some x) : x.1 ∈ R.map Prod.fst := List.mem_map.2 ⟨x, List.mem_of_getElem? hi, rfl⟩

theorem Kp.at (h : Kp R vs f S) {i : Nat} {x : Ob × Value} (hi : R[i]? = some x) (hf : f x.1 = true) : toN (R.map Prod.fst) f S i = dst 0 ((R.map Prod.fst).filter f) x.1.at_ :=
  toN_dst h.srt (by simp [hi]) hf (by rw [h.is i x hi, hf])

theorem Kp.link (h : Kp R vs f S) {i : Nat} {x : Ob × Value} (hi : R[i]? = some x) (hf : f x.1 = true) {y : Lk} (hy : y ∈ links (R.map Prod.fst) x.1) : toN (R.map Prod.fst) f S (findR y.to R).toNat = dst 0 ((R.map Prod.fst).filter f) y.to := by
  have hm := Kp.mem hi
  have hr := Rch.step hm ((h.rch.iff _ hm).1 hf) hy
  obtain ⟨q, hq, e⟩ := h.rch.mem hr
  obtain ⟨z, hz, ez⟩ := findR_get h.srt (List.mem_filter.1 hq).1 (n := (y.to : Int)) (by omega)
  rw [h.at hz (by rw [ez]; exact (List.mem_filter.1 hq).2), ez, e]

theorem Kp.root (h : Kp R vs f S) {v : Vl} (hv : v ∈ vs) (hl : Leads (R.map Prod.fst) v.k v.n) : ∃ q : Nat, findR v.n R = q ∧ q < R.length ∧ toN (R.map Prod.fst) f S q = dst 0 ((R.map Prod.fst).filter f) v.n.toNat := by
  obtain ⟨_, _, o, ho, eo, _⟩ := id hl
  obtain ⟨q, hq, hqR⟩ := findR_pos h.srt ho eo
  have hr : Rch (R.map Prod.fst) vs o.at_ := Rch.root hv hl eo.symm
  obtain ⟨z, hz, ez⟩ := findR_get h.srt ho eo
  rw [hq] at hz
  refine ⟨q, hq, hqR, ?_⟩
  rw [h.at (i := q) (x := z) (by simpa using hz) (by rw [ez]; exact (h.rch.iff o ho).2 hr), ez]
  congr 1
  omega

theorem itemsL_cases (M : List Ob) (ws : List Nat) : itemsL M ws = [] ∨ ∃ x, ws[1]? = some x ∧ itemsL M ws = [⟨1, x - 1, 1⟩] ∧ Is M 8 ((x - 1 : Nat) : Int) := by
  unfold itemsL
  cases hx : ws[1]? with
  | none => exact .inl rfl
  | some x =>
    simp only
    split
    · rename_i hI
      exact .inr ⟨x, rfl, rfl, hI.2⟩
    · exact .inl rfl

theorem Kp.items (h : Kp R vs f S) {i : Nat} {x : Ob × Value} (hi : R[i]? = some x) (hf : f x.1 = true) :
    (itemI R x.1 = -1 ∧ itW (R.map Prod.fst) (dst 0 ((R.map Prod.fst).filter f)) x.1 = x.1.ws) ∨
    ∃ q : Nat, itemI R x.1 = q ∧ q < R.length ∧ 2 ≤ x.1.ws.length ∧ itW (R.map Prod.fst) (dst 0 ((R.map Prod.fst).filter f)) x.1 = x.1.ws.set 1 (toN (R.map Prod.fst) f S q + 1) := by
  by_cases hk : x.1.kind = 4 ∨ x.1.kind = 5
  · have e1 : itemI R x.1 = (match itemsL (R.map Prod.fst) x.1.ws with | y :: _ => findR y.to R | [] => -1) := by unfold itemI; rw [if_pos hk]; cases itemsL (R.map Prod.fst) x.1.ws <;> rfl
    have e2 : itW (R.map Prod.fst) (dst 0 ((R.map Prod.fst).filter f)) x.1 = relink (dst 0 ((R.map Prod.fst).filter f)) x.1.ws (itemsL (R.map Prod.fst) x.1.ws) := by unfold itW; rw [if_pos hk]
    rw [e1, e2]
    rcases itemsL_cases (R.map Prod.fst) x.1.ws with e | ⟨y, hy, e, o, ho, eo, _⟩
    · rw [e]; exact .inl ⟨rfl, rfl⟩
    · have hl : (⟨1, y - 1, 1⟩ : Lk) ∈ links (R.map Prod.fst) x.1 := by unfold links; rw [if_pos hk, e]; simp
      obtain ⟨q, hq, hqR⟩ := findR_pos h.srt ho eo
      have h3 := h.link hi hf hl
      simp only at h3
      rw [hq] at h3
      have hlt := (List.getElem?_eq_some_iff.1 hy).1
      rw [e]
      refine .inr ⟨q, hq, hqR, by omega, ?_⟩
      simp only [relink, List.foldl_cons, List.foldl_nil]
      rw [← h3]
      rfl
  · left
    unfold itemI itW
    rw [if_neg hk, if_neg hk]
    exact ⟨rfl, rfl⟩

theorem Kp.pair (h : Kp R vs f S) {i : Nat} {x : Ob × Value} (hi : R[i]? = some x) (hf : f x.1 = true) {j : Nat} (hj : j ∈ pairsI x.1) (hL : Leads (R.map Prod.fst) (x.1.ws.getD j 0) (x.1.ws.getD (j + 1) 0 : Nat)) :
    ∃ q : Nat, findR (x.1.ws.getD (j + 1) 0 : Nat) R = q ∧ q < R.length ∧ toN (R.map Prod.fst) f S q = dst 0 ((R.map Prod.fst).filter f) (x.1.ws.getD (j + 1) 0) := by
  obtain ⟨_, _, o, ho, eo, _⟩ := id hL
  obtain ⟨q, hq, hqR⟩ := findR_pos h.srt ho eo
  have hm : q ∈ holdI R x.1 := by
    rw [holdI_eq]
    refine List.mem_append_right _ (List.mem_flatMap.2 ⟨j, hj, ?_⟩)
    unfold leadG
    rw [if_pos hL, hq]
    simp
  obtain ⟨y, hy, hry⟩ := holdI_rch h.srt (List.mem_of_getElem? hi) ((h.rch.iff _ (Kp.mem hi)).1 hf) q hm
  obtain ⟨z, hz, ez⟩ := findR_get h.srt ho eo
  rw [hq] at hz
  simp only [Int.toNat_natCast] at hz
  have e : y = z := by rw [hy] at hz; exact Option.some.inj hz
  subst e
  refine ⟨q, hq, hqR, ?_⟩
  rw [h.at hy ((h.rch.iff _ (Kp.mem hy)).2 hry), ez]
  congr 1
  omega

theorem sumO_take_le (L : List Ob) : ∀ (i : Nat), sumO (L.take i) ≤ sumO L := by
  intro i
  have := sumO_append (L.take i) (L.drop i)
  rw [List.take_append_drop] at this
  omega

theorem Kp.sum (h : Kp R vs f S) (i : Nat) : sumO (((R.map Prod.fst).take i).filter f) ≤ 1048576 := by
  have h1 := sumO_sift_le f ((R.map Prod.fst).take i)
  have h2 := sumO_take_le (R.map Prod.fst) i
  have h3 := Srt.sum_used h.srt h.ends (Nat.zero_le _)
  omega

theorem Kp.toN_le (h : Kp R vs f S) (j : Nat) : toN (R.map Prod.fst) f S j ≤ 1048576 := by
  unfold toN
  split
  · exact h.sum j
  · omega

theorem toRow_get {M : List Ob} {n j : Nat} (hj : j < n) : (toRow M f S n n)[j]? = some (toN M f S j) := by
  unfold toRow
  rw [List.getElem?_map, List.getElem?_range hj]
  simp [hj]

end Go.Proofs.YtampilfebmfhaaaGreatDoor
