/- Keys that differ, counted: plainly. -/
import Derived.Test.YtgokofomoachaaaShEntry
import Derived.Test.YtgokofomoachaaaShMayBe
import Derived.Test.YtgokofomoachaaaShTold
import Derived.Test.YtgokofomoachaaaShMath
namespace Go.Proofs.Ytgokofomoachaaa
set_option linter.unusedVariables false
set_option linter.unusedSimpArgs false
open Go.RowKit Go.Maps
open Go.WideMaps (KeyLaw)

theorem rowVal : (26 : TypeId) < Try.prog.types.size := of_decide_eq_true (by kernel_rfl)

theorem laidOut0 : laidOutB Try.prog = true := by kernel_rfl

theorem wideVal : (match Try.prog.underlying 26 with | some (.array _ _) | some (.struct _) => true | _ => false) = true := by kernel_rfl

set_option maxRecDepth 100000 in
theorem lawVal : KeyLaw Try.prog 26 := deep_law_laid laidOut0 (m := 3) (by omega) rowVal (by kernel_rfl) wideVal

theorem lawStr : Keyed Try.prog 9 := string_keyed Try.underlying9

theorem keyTypeVal : Try.prog.keyType 26 = true := by kernel_rfl

/-- A value as a key. -/
def litV (v : Vl) : Lit := .string (keyBytes [.int .u8 v.k, .int .i64 v.n])

def litT (s : ByteArray) : Lit := .string s.data.toList

theorem wfK {k : Nat} (h : k < 256) : (Lit.int .u8 k).wf = true := by
  simp only [Lit.wf, IntKind.min, IntKind.max, IntKind.signed, IntKind.bits, Bool.and_eq_true]
  simp; omega

set_option maxRecDepth 100000 in
theorem keyOf_val {v : Vl} (h : v.fits) : keyOf Try.prog 26 (.agg #[.int .u8 v.k, .int .i64 v.n]) = some (litV v) := by
  obtain ⟨m, hm⟩ : ∃ m, Try.prog.types.size = m + 1 := ⟨Try.prog.types.size - 1, (Nat.succ_pred_eq_of_pos (Nat.lt_of_le_of_lt (Nat.zero_le _) rowVal)).symm⟩
  have c0 : Try.prog.cellsOf 24 = 1 := by kernel_rfl
  have c1 : Try.prog.cellsOf 2 = 1 := by kernel_rfl
  have w0 := wfK h.1
  have w1 := wfI h.2
  have hf : (Value.agg #[.int .u8 v.k, .int .i64 v.n]).formed Try.prog 26 = true := by
    simp [Value.formed, Try.underlying26, cellsVal]
  have hlits : Try.prog.keyLits (Try.prog.types.size + 1) 26 [.int .u8 v.k, .int .i64 v.n] = some [.int .u8 v.k, .int .i64 v.n] := by
    rw [hm]
    simp [Program.keyLits, Try.underlying26, cellsVal, c0, c1, Try.underlying24, Try.underlying2, w0, w1]
  unfold keyOf
  rw [Try.underlying26]
  simp only [keyTypeVal, hf, Bool.and_self, if_true]
  rw [show (Value.agg #[.int .u8 v.k, .int .i64 v.n]).cells.toList = [.int .u8 v.k, .int .i64 v.n] from rfl, hlits]
  rfl

theorem keyOf_str {s : ByteArray} (h : s.size ≤ maxLen) : keyOf Try.prog 9 (.string s) = some (litT s) := by
  rw [keyOf_string Try.underlying9]
  simp [mapKey, Try.underlying9, h, litT]

theorem litV_inj {a b : Vl} (ha : a.fits) (hb : b.fits) (h : litV a = litV b) : a = b := by
  have h1 := keyOf_val ha
  have h2 := keyOf_val hb
  rw [← h] at h2
  have := (Keyed.of_law lawVal).inj h1 h2
  simp at this
  obtain ⟨k, n⟩ := a
  obtain ⟨k', n'⟩ := b
  dsimp only at this
  rw [Vl.mk.injEq]
  omega

/-- A key's text, if it is one. -/
def clsT (S : List Om) (v : Vl) : Option ByteArray := match leadO S v with | some o => if o.k = 3 then some o.s else none | none => none

/-- What a key is counted as. -/
def clsL (S : List Om) (v : Vl) : Lit ⊕ Lit := match clsT S v with | some s => .inl (litT s) | none => .inr (litV v)

theorem clsT_text {S : List Om} {v : Vl} (hv : valP S v) (hk : v.k = 3) : ∃ o, leadO S v = some o ∧ clsT S v = some o.s := by
  have := hv.2.2 (by omega)
  cases h : leadO S v with
  | none => exact (this h).elim
  | some o =>
    refine ⟨o, rfl, ?_⟩
    unfold clsT
    rw [h]
    have := (leadO_at h).2.2.2.2.2
    simp [this, hk]

theorem clsT_other {S : List Om} {v : Vl} (hk : v.k ≠ 3) : clsT S v = none := by
  unfold clsT
  cases h : leadO S v with
  | none => rfl
  | some o =>
    have := (leadO_at h).2.2.2.2.2
    simp [this, hk]

theorem cls_same {S : List Om} {a b : Vl} (ha : valP S a) (hb : valP S b) (fa : a.fits) (fb : b.fits) : clsL S a = clsL S b ↔ sameP S a b := by
  by_cases ka : a.k = 3
  · obtain ⟨o, ho, hc⟩ := clsT_text ha ka
    by_cases kb : b.k = 3
    · obtain ⟨o', ho', hc'⟩ := clsT_text hb kb
      unfold clsL
      rw [hc, hc']
      constructor
      · intro h
        refine ⟨by omega, .inr (.inr ⟨ka, o, o', ho, ho', ?_⟩)⟩
        simp [litT] at h
        cases hx : o.s; cases hy : o'.s
        rw [hx, hy] at h
        simp at h
        rw [h]
      · rintro ⟨_, h | h | ⟨_, q, q', h1, h2, h3⟩⟩
        · omega
        · have : a = b := by obtain ⟨x, y⟩ := a; obtain ⟨x', y'⟩ := b; simp at *; omega
          subst this
          rw [ho] at ho'; cases ho'; rfl
        · rw [ho] at h1; rw [ho'] at h2; cases h1; cases h2; rw [h3]
    · unfold clsL
      rw [hc, clsT_other kb]
      constructor
      · intro h; cases h
      · rintro ⟨h, _⟩; omega
  · unfold clsL
    rw [clsT_other ka]
    by_cases kb : b.k = 3
    · obtain ⟨o', ho', hc'⟩ := clsT_text hb kb
      rw [hc']
      constructor
      · intro h; cases h
      · rintro ⟨h, _⟩; omega
    · rw [clsT_other kb]
      constructor
      · intro h
        have := litV_inj fa fb (by injection h)
        subst this
        exact ⟨rfl, .inr (.inl rfl)⟩
      · rintro ⟨h, h2⟩
        have : a = b := by
          have hn : a.n = b.n := by
            rcases h2 with h2 | h2 | ⟨h2, _⟩
            · rw [ha.1 h2, hb.1 (by omega)]
            · exact h2
            · omega
          obtain ⟨x, y⟩ := a; obtain ⟨x', y'⟩ := b; simp at *; exact ⟨h, hn⟩
        rw [this]

/-- The keys of a map. -/
def evens : List Vl → List Vl
  | [] => []
  | [a] => [a]
  | a :: _ :: r => a :: evens r

theorem evens_get : ∀ (l : List Vl) (i : Nat), (evens l)[i]? = l[2 * i]?
  | [], i => by simp [evens]
  | [a], 0 => rfl
  | [a], i + 1 => by simp [evens]
  | a :: b :: r, 0 => rfl
  | a :: b :: r, i + 1 => by
    have := evens_get r i
    rw [show 2 * (i + 1) = 2 * i + 2 by omega]
    simpa [evens] using this

theorem evens_len : ∀ (l : List Vl), 2 * (evens l).length = l.length + l.length % 2
  | [] => rfl
  | [a] => rfl
  | a :: b :: r => by have := evens_len r; simp [evens]; omega

/-- What is counted, key by key. -/
def cntStep (S : List Om) (t : List Lit × List Lit) (v : Vl) (dec : (L : List Lit) → (k : Lit) → Decidable (k ∈ L) := fun _ _ => Classical.propDecidable _) : List Lit × List Lit :=
  match clsT S v with
  | some s => (putL t.1 (litT s) (dec _ _), t.2)
  | none => (t.1, putL t.2 (litV v) (dec _ _))

def cntL (S : List Om) (ks : List Vl) (dec : (L : List Lit) → (k : Lit) → Decidable (k ∈ L) := fun _ _ => Classical.propDecidable _) : List Lit × List Lit := ks.foldl (fun t v => cntStep S t v dec) ([], [])

theorem cntL_snoc (S : List Om) (ks : List Vl) (v : Vl) : cntL S (ks ++ [v]) = cntStep S (cntL S ks) v := by
  unfold cntL; rw [List.foldl_append]; rfl

theorem putL_mem {L : List Lit} {x k : Lit} : x ∈ putL L k ↔ x ∈ L ∨ x = k := by
  unfold putL
  split
  · rename_i h
    constructor
    · exact .inl
    · rintro (h' | rfl)
      · exact h'
      · exact h
  · simp

theorem putL_len {L : List Lit} {k : Lit} : (k ∈ L → (putL L k).length = L.length) ∧ (k ∉ L → (putL L k).length = L.length + 1) := by
  unfold putL
  constructor
  · intro h; rw [if_pos h]
  · intro h; rw [if_neg h]; simp

theorem list_snoc_ind {α : Type} {P : List α → Prop} (h0 : P []) (h1 : ∀ l a, P l → P (l ++ [a])) : ∀ l, P l := by
  have key : ∀ n, ∀ l : List α, l.length = n → P l := by
    intro n
    induction n with
    | zero => intro l hl; have : l = [] := List.eq_nil_of_length_eq_zero hl; subst this; exact h0
    | succ n ih =>
      intro l hl
      have hne : l ≠ [] := by rintro rfl; simp at hl
      rw [← List.dropLast_concat_getLast hne]
      exact h1 _ _ (ih _ (by simp [hl]))
  exact fun l => key _ l rfl

theorem cnt_spec (S : List Om) (ks : List Vl) : (∀ x, x ∈ (cntL S ks).1 ↔ Sum.inl x ∈ ks.map (clsL S)) ∧ (∀ x, x ∈ (cntL S ks).2 ↔ Sum.inr x ∈ ks.map (clsL S)) ∧ (cntL S ks).1.length + (cntL S ks).2.length ≤ ks.length ∧ ((cntL S ks).1.length + (cntL S ks).2.length = ks.length ↔ (ks.map (clsL S)).Nodup) := by
  induction ks using list_snoc_ind with
  | h0 => simp [cntL]
  | h1 l v ih =>
    obtain ⟨h1, h2, h3, h4⟩ := ih
    rw [cntL_snoc]
    have hno : ((l ++ [v]).map (clsL S)).Nodup ↔ (l.map (clsL S)).Nodup ∧ clsL S v ∉ l.map (clsL S) := by
      rw [List.map_append, List.nodup_append]
      constructor
      · rintro ⟨a, _, c⟩
        exact ⟨a, fun h => c _ h (clsL S v) (by simp) rfl⟩
      · rintro ⟨a, c⟩
        refine ⟨a, by simp, ?_⟩
        rintro x hx y hy rfl
        simp at hy; subst hy; exact c hx
    cases hc : clsT S v with
    | some s =>
      have hcl : clsL S v = .inl (litT s) := by unfold clsL; rw [hc]
      have e : cntStep S (cntL S l) v = (putL (cntL S l).1 (litT s), (cntL S l).2) := by unfold cntStep; rw [hc]
      rw [e]
      dsimp only
      refine ⟨?_, ?_, ?_, ?_⟩
      · intro x
        rw [putL_mem, h1, List.map_append]
        simp [hcl]
      · intro x
        rw [h2, List.map_append]
        simp [hcl]
      · by_cases hm : litT s ∈ (cntL S l).1
        · rw [putL_len.1 hm]; simp; omega
        · rw [putL_len.2 hm]; simp; omega
      · rw [hno, hcl, ← h1, ← h4]
        by_cases hm : litT s ∈ (cntL S l).1
        · rw [putL_len.1 hm]; simp [hm]; omega
        · rw [putL_len.2 hm]; simp [hm]; omega
    | none =>
      have hcl : clsL S v = .inr (litV v) := by unfold clsL; rw [hc]
      have e : cntStep S (cntL S l) v = ((cntL S l).1, putL (cntL S l).2 (litV v)) := by unfold cntStep; rw [hc]
      rw [e]
      dsimp only
      refine ⟨?_, ?_, ?_, ?_⟩
      · intro x
        rw [h1, List.map_append]
        simp [hcl]
      · intro x
        rw [putL_mem, h2, List.map_append]
        simp [hcl]
      · by_cases hm : litV v ∈ (cntL S l).2
        · rw [putL_len.1 hm]; simp; omega
        · rw [putL_len.2 hm]; simp; omega
      · rw [hno, hcl, ← h2, ← h4]
        by_cases hm : litV v ∈ (cntL S l).2
        · rw [putL_len.1 hm]; simp [hm]; omega
        · rw [putL_len.2 hm]; simp [hm]; omega

theorem nodup_keys {S : List Om} {l : List Vl} (hv : ∀ v ∈ l, valP S v ∧ v.fits) : ((evens l).map (clsL S)).Nodup ↔ keysP S l := by
  rw [List.Nodup, List.pairwise_iff_getElem]
  constructor
  · intro h i j a b ha hb hlt hs
    have hi : i < (evens l).length := by
      rw [← evens_get] at ha
      exact (List.getElem?_eq_some_iff.1 ha).1
    have := h j i (by simp; omega) (by simpa using hi) hlt
    apply this
    rw [← evens_get] at ha hb
    obtain ⟨_, ha'⟩ := List.getElem?_eq_some_iff.1 ha
    obtain ⟨_, hb'⟩ := List.getElem?_eq_some_iff.1 hb
    simp only [List.getElem_map, ha', hb']
    rw [evens_get] at ha hb
    have q1 := hv a (List.mem_of_getElem? ha)
    have q2 := hv b (List.mem_of_getElem? hb)
    exact ((cls_same q1.1 q2.1 q1.2 q2.2).2 hs).symm
  · intro h i j hi hj hlt e
    simp at hi hj
    have ha : (evens l)[j]? = some (evens l)[j] := by simp
    have hb : (evens l)[i]? = some (evens l)[i] := by simp
    rw [evens_get] at ha hb
    have q1 := hv _ (List.mem_of_getElem? ha)
    have q2 := hv _ (List.mem_of_getElem? hb)
    refine h j i _ _ ha hb hlt ((cls_same q1.1 q2.1 q1.2 q2.2).1 ?_)
    simp only [List.getElem_map] at e
    exact e.symm

/-- All keys differ, if as many are counted as there are. -/
theorem count_keys {S : List Om} {l : List Vl} (hv : ∀ v ∈ l, valP S v ∧ v.fits) : (cntL S (evens l)).1.length + (cntL S (evens l)).2.length = (evens l).length ↔ keysP S l := by
  rw [← nodup_keys hv]
  exact (cnt_spec S (evens l)).2.2.2

end Go.Proofs.Ytgokofomoachaaa
