/- The document's way to reach: plain lists alone. -/
import Derived.Test.YtampilfebmfhaaaGreatDoorRgHolds
import Derived.Test.YtampilfebmfhaaaGreatDoorGcReach2
namespace Go.Proofs.YtampilfebmfhaaaGreatDoor
set_option linter.unusedVariables false
set_option linter.unusedSimpArgs false

/-- What stands while the document's list is worked off: In: which have been come to; T: what is still to be looked at. -/
structure RWalk (R : List (Ob × Value)) (vs : List Vl) (In : List Bool) (T : List Nat) : Prop where
  len : In.length = R.length
  tlt : ∀ i ∈ T, ∃ x : Ob × Value, R[i]? = some x ∧ Rch (R.map Prod.fst) vs x.1.at_
  sound : ∀ (i : Nat) (x : Ob × Value), R[i]? = some x → In[i]? = some true → Rch (R.map Prod.fst) vs x.1.at_
  all : ∀ v ∈ vs, Leads (R.map Prod.fst) v.k v.n → (findR v.n R).toNat ∈ T ∨ In[(findR v.n R).toNat]? = some true
  done : ∀ (i : Nat) (x : Ob × Value), R[i]? = some x → In[i]? = some true → ∀ j ∈ holdI R x.1, j ∈ T ∨ In[j]? = some true

theorem findR_get {R : List (Ob × Value)} (hs : Srt 0 (R.map Prod.fst)) {o : Ob} (ho : o ∈ R.map Prod.fst) {n : Int} (e : (o.at_ : Int) = n) : ∃ x : Ob × Value, R[(findR n R).toNat]? = some x ∧ x.1 = o := by
  obtain ⟨y, hy, rfl⟩ := List.mem_map.1 ho
  rcases find_cases R hs n with hn | ⟨l, z, r, hRz, hz, hlz⟩
  · exact (hn y hy e).elim
  · have e2 : findR n R = l.length := by rw [hRz]; exact findR_at (fun u hu e => hlz u hu (by omega)) hz
    refine ⟨z, ?_, ?_⟩
    · rw [e2, hRz]; simp
    · exact hs.uniq (List.mem_map.2 ⟨z, by rw [hRz]; simp, rfl⟩) ho (by omega)

theorem findR_idx {R : List (Ob × Value)} (hs : Srt 0 (R.map Prod.fst)) {i : Nat} {x : Ob × Value} (hi : R[i]? = some x) : (findR x.1.at_ R).toNat = i := by
  have hlt := (List.getElem?_eq_some_iff.1 hi).1
  have hR : R = R.take i ++ x :: R.drop (i + 1) := by
    have h1 := List.take_append_drop i R
    rw [List.drop_eq_getElem_cons hlt, (List.getElem?_eq_some_iff.1 hi).2] at h1
    exact h1.symm
  have hl : ∀ y ∈ R.take i, (y.1.at_ : Int) ≠ x.1.at_ := by
    intro y hy e
    rw [hR] at hs
    have := Srt.apart (l := (R.take i).map Prod.fst) (r := (x :: R.drop (i + 1)).map Prod.fst) (by simpa using hs) y.1 (List.mem_map.2 ⟨y, hy, rfl⟩) x.1 (by simp)
    unfold Ob.end_ at this; omega
  have := findR_at (r := R.drop (i + 1)) hl rfl
  rw [← hR] at this
  rw [this]
  simp; omega

theorem RWalk.end {R : List (Ob × Value)} (hs : Srt 0 (R.map Prod.fst)) {vs : List Vl} {In : List Bool} (h : RWalk R vs In []) : ∀ (i : Nat) (x : Ob × Value), R[i]? = some x → (In[i]? = some true ↔ Rch (R.map Prod.fst) vs x.1.at_) := by
  have key : ∀ p, Rch (R.map Prod.fst) vs p → In[(findR (p : Int) R).toNat]? = some true := by
    intro p hp
    refine Rch.ind (P := fun p => In[(findR (p : Int) R).toNat]? = some true) ?_ ?_ hp
    · intro v p hv hl e
      rcases h.all _ hv hl with h' | h'
      · simp at h'
      · rw [e] at h'; exact h'
    · intro o y ho ih hy
      obtain ⟨x, hx, ex⟩ := findR_get hs ho rfl
      have := h.done _ x hx ih (findR (y.to : Int) R).toNat (by unfold holdI; rw [ex]; exact List.mem_map.2 ⟨y, hy, rfl⟩)
      rcases this with h' | h'
      · simp at h'
      · exact h'
  intro i x hi
  refine ⟨h.sound i x hi, fun hr => ?_⟩
  have := key _ hr
  rw [findR_idx hs hi] at this
  exact this

/-- One that has been come to already. -/
theorem RWalk.pass {R : List (Ob × Value)} {vs : List Vl} {In : List Bool} {T : List Nat} {i : Nat} (h : RWalk R vs In (T ++ [i])) (hi : In[i]? = some true) : RWalk R vs In T := by
  have key : ∀ j : Nat, j ∈ T ++ [i] ∨ In[j]? = some true → j ∈ T ∨ In[j]? = some true := by
    rintro j (hj | hj)
    · rcases List.mem_append.1 hj with hj | hj
      · exact .inl hj
      · simp at hj; subst hj; exact .inr hi
    · exact .inr hj
  exact ⟨h.len, fun j hj => h.tlt j (by simp [hj]), h.sound, fun v hv hl => key _ (h.all v hv hl), fun j x hx hj y hy => key _ (h.done j x hx hj y hy)⟩

theorem holdI_rch {R : List (Ob × Value)} (hs : Srt 0 (R.map Prod.fst)) {vs : List Vl} {x : Ob × Value} (hx : x ∈ R) (hr : Rch (R.map Prod.fst) vs x.1.at_) : ∀ j ∈ holdI R x.1, ∃ y : Ob × Value, R[j]? = some y ∧ Rch (R.map Prod.fst) vs y.1.at_ := by
  intro j hj
  unfold holdI at hj
  obtain ⟨y, hy, rfl⟩ := List.mem_map.1 hj
  obtain ⟨q, hq, e⟩ := links_mem hy
  obtain ⟨z, hz, ez⟩ := findR_get hs hq (n := (y.to : Int)) (by omega)
  refine ⟨z, hz, ?_⟩
  rw [ez, e]
  exact Rch.step (List.mem_map.2 ⟨x, hx, rfl⟩) hr hy

/-- One that is new. -/
theorem RWalk.mark {R : List (Ob × Value)} (hs : Srt 0 (R.map Prod.fst)) {vs : List Vl} {In : List Bool} {T : List Nat} {i : Nat} {x : Ob × Value} (h : RWalk R vs In (T ++ [i])) (hx : R[i]? = some x) : RWalk R vs (In.set i true) (T ++ holdI R x.1) := by
  have hlt := (List.getElem?_eq_some_iff.1 hx).1
  have hil : i < In.length := by rw [h.len]; exact hlt
  have hri : Rch (R.map Prod.fst) vs x.1.at_ := by
    obtain ⟨x', hx', hr⟩ := h.tlt i (by simp)
    rw [hx] at hx'; cases hx'; exact hr
  have hxm : x ∈ R := List.mem_of_getElem? hx
  have keep : ∀ j : Nat, In[j]? = some true → (In.set i true)[j]? = some true := by
    intro j hj
    by_cases e : i = j
    · subst e; simp [hil]
    · simpa [List.getElem?_set, e] using hj
  have key : ∀ j : Nat, j ∈ T ++ [i] ∨ In[j]? = some true → j ∈ T ++ holdI R x.1 ∨ (In.set i true)[j]? = some true := by
    rintro j (hj | hj)
    · rcases List.mem_append.1 hj with hj | hj
      · exact .inl (by simp [hj])
      · simp at hj; subst hj; exact .inr (by simp [hil])
    · exact .inr (keep j hj)
  refine ⟨by simpa using h.len, ?_, ?_, fun v hv hl => key _ (h.all v hv hl), ?_⟩
  · intro j hj
    rcases List.mem_append.1 hj with hj | hj
    · exact h.tlt j (by simp [hj])
    · exact holdI_rch hs hxm hri j hj
  · intro j y hy hj
    by_cases e : i = j
    · subst e; rw [hx] at hy; cases hy; exact hri
    · exact h.sound j y hy (by simpa [List.getElem?_set, e] using hj)
  · intro j y hy hj k hk
    by_cases e : i = j
    · subst e; rw [hx] at hy; cases hy; exact .inl (by simp [hk])
    · exact key _ (h.done j y hy (by simpa [List.getElem?_set, e] using hj) k hk)

/-- The roots come first. -/
def rootI (R : List (Ob × Value)) (v : Vl) : List Nat := if Leads (R.map Prod.fst) v.k v.n then [(findR v.n R).toNat] else []

theorem RWalk.start {R : List (Ob × Value)} (hs : Srt 0 (R.map Prod.fst)) (vs : List Vl) : RWalk R vs (List.replicate R.length false) (vs.flatMap (rootI R)) := by
  refine ⟨by simp, ?_, ?_, ?_, ?_⟩
  · intro i hi
    obtain ⟨v, hv, hi⟩ := List.mem_flatMap.1 hi
    unfold rootI at hi
    split at hi
    · rename_i hL
      simp at hi; subst hi
      obtain ⟨h3, h7, o, ho, e, ek⟩ := hL
      obtain ⟨x, hx, ex⟩ := findR_get hs ho e
      refine ⟨x, hx, ?_⟩
      rw [ex]
      exact Rch.root hv ⟨h3, h7, o, ho, e, ek⟩ e.symm
    · simp at hi
  · intro i x _ h; simp [List.getElem?_replicate] at h
  · intro v hv hl
    exact .inl (List.mem_flatMap.2 ⟨v, hv, by unfold rootI; rw [if_pos hl]; simp⟩)
  · intro i x _ h; simp [List.getElem?_replicate] at h

theorem rootI_len (R : List (Ob × Value)) : ∀ (l : List Vl), (l.flatMap (rootI R)).length ≤ l.length
  | [] => by simp
  | v :: l => by
    have := rootI_len R l
    have : (rootI R v).length ≤ 1 := by unfold rootI; split <;> simp
    simp only [List.flatMap_cons, List.length_append, List.length_cons]; omega

theorem prs_lenR (M : List Ob) : ∀ (l : List Nat) (i : Nat), (prs M i l).length ≤ l.length
  | [], _ => by simp [prs]
  | [_], _ => by simp [prs]
  | k :: n :: r, i => by
    have := prs_lenR M r (i + 2)
    simp only [prs, List.length_append, List.length_cons]
    split <;> simp <;> omega

theorem holdI_len (R : List (Ob × Value)) (o : Ob) : (holdI R o).length ≤ o.ws.length + 1 := by
  unfold holdI links
  rw [List.length_map]
  split
  · unfold itemsL
    split
    · split <;> simp
    · simp
  · split
    · have := prs_lenR (R.map Prod.fst) o.ws 0; omega
    · split
      · have := prs_lenR (R.map Prod.fst) (o.ws.drop 1) 1
        have h2 : (o.ws.drop 1).length ≤ o.ws.length := by simp
        omega
      · split
        · have := prs_lenR (R.map Prod.fst) (o.ws.take 2) 0
          have h2 : (o.ws.take 2).length ≤ o.ws.length := by simp; omega
          omega
        · simp

end Go.Proofs.YtampilfebmfhaaaGreatDoor

namespace Go.Proofs.YtampilfebmfhaaaGreatDoor
set_option linter.unusedVariables false
set_option linter.unusedSimpArgs false
open Go.RowKit

variable {n₀ br all en : Nat} {vo : Value} {w : World} {R : List (Ob × Value)}

theorem leadI_neg {R : List (Ob × Value)} (hs : Srt 0 (R.map Prod.fst)) (k : Nat) (n : Int) : (Leads (R.map Prod.fst) k n ∧ ∃ q : Nat, leadI R k n = q ∧ q < R.length) ∨ (¬ Leads (R.map Prod.fst) k n ∧ leadI R k n = -1) := by
  by_cases hL : Leads (R.map Prod.fst) k n
  · left
    refine ⟨hL, ?_⟩
    unfold leadI
    rw [if_pos hL]
    rcases findR_cases n R with e | e
    · obtain ⟨_, _, o, ho, eo, _⟩ := hL
      obtain ⟨y, hy, rfl⟩ := List.mem_map.1 ho
      rcases find_cases R hs n with hn | ⟨l, z, r, hRz, hz, hlz⟩
      · exact (hn y hy eo).elim
      · rw [hRz, findR_at (fun u hu e => hlz u hu (by omega)) hz] at e; omega
    · exact e
  · right
    refine ⟨hL, ?_⟩
    unfold leadI
    rw [if_neg hL]

set_option maxRecDepth 20000 in
set_option maxHeartbeats 1000000 in
theorem rroots_in (h : IsRf n₀ br vo w all en R) (hs : Srt 0 (R.map Prod.fst)) {p : Option Addr} {vs : List Vl} (c : Nat) (hv : Vals w p vs) (hlen : vs.length ≤ 1000000) (hk8 : ∀ v ∈ vs, v.k < 256) :
    Calls Tryz.prog 24 #[.pointer (some ⟨br, 0, none⟩), .slice p vs.length c] w fun e w' => ((May (R.map Prod.fst) vs ∧ e = .returned (.bool true)) ∨ (¬ May (R.map Prod.fst) vs ∧ e = .returned (.bool false))) ∧ Below w.heap.size w w' := by
  go_enter Tryz.func24, Tryz.ntmps24
  go_wp2
  go_loopw [5] (fun k wr => ∃ (pre rest : List Vl), k = .int .i64 pre.length ∧ vs = pre ++ rest ∧ May (R.map Prod.fst) pre ∧ Below w.heap.size w wr) (fun k _ => vs.length - (intOf k).toNat)
  case atStart => exact ⟨[], vs, rfl, rfl, by intro v hv; simp at hv, Below.refl _ _⟩
  case round =>
    obtain ⟨pre, rest, rfl, hR, hmay, hB⟩ := hrel
    cases rest with
    | nil =>
      have hR' : vs = pre := by simpa using hR
      have hq : ¬ ((pre.length : Int) < (vs.length : Int)) := by rw [hR']; omega
      have HM : Hid (May (R.map Prod.fst) vs) := by rw [hR']; exact hmay
      clear hR hR' hmay
      go_wp2
      go_ret
      exact ⟨.inl ⟨HM.out, rfl⟩, hB⟩
    | cons v rest =>
      have hlR : pre.length < vs.length := by rw [hR]; simp
      have hvm : v ∈ vs := by rw [hR]; simp
      obtain ⟨b0, off, rfl, c0, c1⟩ := (hv.below hB) pre.length v (by rw [hR]; simp)
      have HR : Hid (vs = pre ++ v :: rest) := hR
      have H2 := rleads_in (h.below hB) hs v.k v.n
      have e1 : (((pre ++ [v]).length : Nat) : Int) = pre.length + 1 := by simp
      have hvk := hk8 v hvm
      clear hR
      by_cases h7 : v.k ≤ 7
      · have h7' : ¬ ((7 : Int) < (v.k : Int)) := by omega
        by_cases h3 : 3 ≤ v.k
        · have h3' : (3 : Int) ≤ (v.k : Int) := by omega
          rcases leadI_neg hs v.k v.n with ⟨hL, q, e2, _⟩ | ⟨hL, e2⟩
          · rw [e2] at H2
            have HM : Hid (May (R.map Prod.fst) (pre ++ [v])) := by
              intro u hu
              rcases List.mem_append.1 hu with hu | hu
              · exact hmay u hu
              · simp at hu; subst hu; exact ⟨h7, fun _ => hL⟩
            clear hL e2
            go_wp2_with (first
              | (go_at_call 103; refine H2.mono ?_; clear H2; rintro e w2 ⟨rfl, hB2⟩))
            go_roundw
            case rel => exact ⟨pre ++ [v], rest, by rw [e1], by have := HR.out; simpa using this, HM.out, hB.trans (hB2.mono hB.size)⟩
            case measure => simp [intOf]; omega
          · rw [e2] at H2
            have HM : Hid (¬ May (R.map Prod.fst) vs) := fun hm => hL ((hm v hvm).2 h3)
            clear hL e2
            go_wp2_with (first
              | (go_at_call 103; refine H2.mono ?_; clear H2; rintro e w2 ⟨rfl, hB2⟩))
            go_ret
            exact ⟨.inr ⟨HM.out, rfl⟩, hB.trans (hB2.mono hB.size)⟩
        · have h3' : ¬ ((3 : Int) ≤ (v.k : Int)) := by omega
          have HM : Hid (May (R.map Prod.fst) (pre ++ [v])) := by
            intro u hu
            rcases List.mem_append.1 hu with hu | hu
            · exact hmay u hu
            · simp at hu; subst hu; exact ⟨h7, fun h => (h3 h).elim⟩
          go_wp2
          go_roundw
          case rel => exact ⟨pre ++ [v], rest, by rw [e1], by have := HR.out; simpa using this, HM.out, hB⟩
          case measure => simp [intOf]; omega
      · have h7' : (7 : Int) < (v.k : Int) := by omega
        have HM : Hid (¬ May (R.map Prod.fst) vs) := fun hm => h7 (hm v hvm).1
        go_wp2
        go_ret
        exact ⟨.inr ⟨HM.out, rfl⟩, hB⟩

end Go.Proofs.YtampilfebmfhaaaGreatDoor
