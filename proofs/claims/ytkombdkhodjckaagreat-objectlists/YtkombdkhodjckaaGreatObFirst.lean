/- Each key once, plainly: of keys that are alike the first, with the last value. -/
import Derived.Test.YtkombdkhodjckaaGreatGcVals
import Derived.Test.YtkombdkhodjckaaGreatObSame
import Derived.WideKeyEntry
import Derived.DeepKeys4
import Derived.Maps.OwnOps
import Derived.Maps.OwnSet
import Derived.Maps.Views
import Derived.Test.YtkombdkhodjckaaGreatObRow
namespace Go.Proofs.YtkombdkhodjckaaGreat
set_option linter.unusedVariables false
set_option linter.unusedSimpArgs false
open Go.RowKit

/-- Are two keys alike, by what each says as a text (if it is one)? -/
def likeK (T : Vl → Option ByteArray) (a b : Vl) : Prop := (∃ s, T a = some s ∧ T b = some s) ∨ (T a = none ∧ T b = none ∧ a = b)

theorem likeK.of {T : Vl → Option ByteArray} {a b : Vl} (h : T a = T b) (h2 : T a = none → a = b) : likeK T a b := by
  cases e : T a with
  | some s => exact .inl ⟨s, e, by rw [← h, e]⟩
  | none => exact .inr ⟨e, by rw [← h, e], h2 e⟩

theorem likeK.refl (T : Vl → Option ByteArray) (a : Vl) : likeK T a a := .of rfl (fun _ => rfl)

theorem likeK.symm {T : Vl → Option ByteArray} {a b : Vl} (h : likeK T a b) : likeK T b a := by
  rcases h with ⟨s, h1, h2⟩ | ⟨h1, h2, rfl⟩
  · exact .inl ⟨s, h2, h1⟩
  · exact .inr ⟨h2, h1, rfl⟩

theorem likeK.trans {T : Vl → Option ByteArray} {a b c : Vl} (h : likeK T a b) (g : likeK T b c) : likeK T a c := by
  rcases h with ⟨s, h1, h2⟩ | ⟨h1, h2, rfl⟩
  · rcases g with ⟨t, g1, g2⟩ | ⟨g1, _⟩
    · rw [h2] at g1; cases g1; exact .inl ⟨s, h1, g2⟩
    · rw [h2] at g1; cases g1
  · exact g

/-- A key gets a value: the first one that is like it, or it is put behind. -/
def upd (T : Vl → Option ByteArray) (k x : Vl) (l : List (Vl × Vl)) (dec : (y : Vl) → Decidable (likeK T y k) := fun _ => Classical.propDecidable _) : List (Vl × Vl) :=
  match l with
  | [] => [(k, x)]
  | p :: r => @ite _ (likeK T p.1 k) (dec p.1) ((p.1, x) :: r) (p :: upd T k x r dec)

theorem upd_no {T : Vl → Option ByteArray} {k x : Vl} : ∀ {acc : List (Vl × Vl)}, (∀ p ∈ acc, ¬ likeK T p.1 k) → upd T k x acc = acc ++ [(k, x)]
  | [], _ => rfl
  | p :: r, h => by
    rw [upd, if_neg (h p (by simp)), upd_no (fun q hq => h q (by simp [hq])), List.cons_append]

theorem upd_yes {T : Vl → Option ByteArray} {k x : Vl} {p : Vl × Vl} {r : List (Vl × Vl)} : ∀ {l : List (Vl × Vl)}, (∀ q ∈ l, ¬ likeK T q.1 k) → likeK T p.1 k → upd T k x (l ++ p :: r) = l ++ (p.1, x) :: r
  | [], _, h => by rw [List.nil_append, upd, if_pos h]; rfl
  | q :: l, hl, h => by
    rw [List.cons_append, upd, if_neg (hl q (by simp)), upd_yes (fun y hy => hl y (by simp [hy])) h]; rfl

theorem upd_cases (T : Vl → Option ByteArray) (k : Vl) : ∀ (acc : List (Vl × Vl)), (∀ p ∈ acc, ¬ likeK T p.1 k) ∨ ∃ l p r, acc = l ++ p :: r ∧ (∀ q ∈ l, ¬ likeK T q.1 k) ∧ likeK T p.1 k
  | [] => .inl (by simp)
  | p :: r => by
    by_cases h : likeK T p.1 k
    · exact .inr ⟨[], p, r, rfl, by simp, h⟩
    · rcases upd_cases T k r with h2 | ⟨l, q, r', rfl, h3, h4⟩
      · refine .inl (fun q hq => ?_)
        rcases List.mem_cons.1 hq with rfl | hq
        · exact h
        · exact h2 q hq
      · refine .inr ⟨p :: l, q, r', rfl, fun y hy => ?_, h4⟩
        rcases List.mem_cons.1 hy with rfl | hy
        · exact h
        · exact h3 y hy

/-- All keys, one behind the other. -/
def once (T : Vl → Option ByteArray) (ps : List (Vl × Vl)) (dec : (k y : Vl) → Decidable (likeK T y k) := fun _ _ => Classical.propDecidable _) : List (Vl × Vl) := ps.foldl (fun a p => upd T p.1 p.2 a (dec p.1)) []

theorem once_snoc (T : Vl → Option ByteArray) (ps : List (Vl × Vl)) (p : Vl × Vl) : once T (ps ++ [p]) = upd T p.1 p.2 (once T ps) := by simp [once]

theorem upd_len (T : Vl → Option ByteArray) (k x : Vl) (acc : List (Vl × Vl)) : (upd T k x acc).length ≤ acc.length + 1 := by
  rcases upd_cases T k acc with h | ⟨l, p, r, rfl, h1, h2⟩
  · rw [upd_no h]; simp
  · rw [upd_yes h1 h2]; simp

theorem once_len (T : Vl → Option ByteArray) (ps : List (Vl × Vl)) : (once T ps).length ≤ ps.length := by
  suffices h : ∀ acc : List (Vl × Vl), (ps.foldl (fun a p => upd T p.1 p.2 a) acc).length ≤ acc.length + ps.length by simpa [once] using h []
  induction ps with
  | nil => simp
  | cons p r ih =>
    intro acc
    rw [List.foldl_cons]
    have h1 := ih (upd T p.1 p.2 acc)
    have h2 := upd_len T p.1 p.2 acc
    simp only [List.length_cons]
    omega

/-- Keys and values, one behind the other. -/
def flat : List (Vl × Vl) → List Vl
  | [] => []
  | p :: r => p.1 :: p.2 :: flat r

theorem flat_len : ∀ (ps : List (Vl × Vl)), (flat ps).length = 2 * ps.length
  | [] => rfl
  | p :: r => by simp [flat, flat_len r]; omega

theorem flat_append : ∀ (a b : List (Vl × Vl)), flat (a ++ b) = flat a ++ flat b
  | [], _ => rfl
  | p :: r, b => by simp [flat, flat_append r b]

theorem flat_mem : ∀ {ps : List (Vl × Vl)} {v : Vl}, v ∈ flat ps ↔ ∃ p ∈ ps, v = p.1 ∨ v = p.2
  | [], v => by simp [flat]
  | p :: r, v => by
    simp only [flat, List.mem_cons, flat_mem (ps := r)]
    constructor
    · rintro (h | h | ⟨q, hq, h⟩)
      · exact ⟨p, .inl rfl, .inl h⟩
      · exact ⟨p, .inl rfl, .inr h⟩
      · exact ⟨q, .inr hq, h⟩
    · rintro ⟨q, rfl | hq, h⟩
      · rcases h with h | h
        · exact .inl h
        · exact .inr (.inl h)
      · exact .inr (.inr ⟨q, hq, h⟩)

theorem flat_get {l r : List (Vl × Vl)} {p : Vl × Vl} : (flat (l ++ p :: r))[2 * l.length]? = some p.1 ∧ (flat (l ++ p :: r))[2 * l.length + 1]? = some p.2 := by
  rw [flat_append]
  constructor
  · rw [List.getElem?_append_right (by rw [flat_len]; omega), flat_len]; simp [flat]
  · rw [List.getElem?_append_right (by rw [flat_len]; omega), flat_len, show 2 * l.length + 1 - 2 * l.length = 1 by omega]; simp [flat]

/-- What is told of the keys' own values. -/
theorem once_mem (T : Vl → Option ByteArray) (P : Vl → Prop) : ∀ (ps acc : List (Vl × Vl)), (∀ p ∈ ps, P p.1 ∧ P p.2) → (∀ p ∈ acc, P p.1 ∧ P p.2) → ∀ p ∈ ps.foldl (fun a p => upd T p.1 p.2 a) acc, P p.1 ∧ P p.2
  | [], acc, _, h => h
  | q :: r, acc, h1, h2 => by
    rw [List.foldl_cons]
    refine once_mem T P r _ (fun p hp => h1 p (by simp [hp])) ?_
    have hq := h1 q (by simp)
    rcases upd_cases T q.1 acc with h | ⟨l, p, r', rfl, h3, h4⟩
    · rw [upd_no h]
      intro p hp
      rcases List.mem_append.1 hp with hp | hp
      · exact h2 p hp
      · simp at hp; subst hp; exact hq
    · rw [upd_yes h3 h4]
      intro y hy
      rcases List.mem_append.1 hy with hy | hy
      · exact h2 y (by simp [hy])
      · rcases List.mem_cons.1 hy with rfl | hy
        · exact ⟨(h2 p (by simp)).1, hq.2⟩
        · exact h2 y (by simp [hy])

theorem vcells_set2 : ∀ (l r : List Vl) (u v : Vl), ((vcells (l ++ u :: r)).set (l.length * 2) (.int .u8 v.k)).set (l.length * 2 + 1) (.int .i64 v.n) = vcells (l ++ v :: r)
  | [], r, u, v => by simp [vcells]
  | y :: l, r, u, v => by
    have := vcells_set2 l r u v
    simp only [List.cons_append, vcells, List.length_cons]
    rw [show (l.length + 1) * 2 = (l.length * 2) + 2 by omega, show l.length * 2 + 2 + 1 = (l.length * 2 + 1) + 2 by omega]
    simp only [List.set_cons_succ, this]

end Go.Proofs.YtkombdkhodjckaaGreat

namespace Go.Proofs.YtkombdkhodjckaaGreat
set_option linter.unusedVariables false
set_option linter.unusedSimpArgs false
open Go.RowKit Go.Maps Go.WideElems Go.MapKept
open Go.WideMaps (KeyLaw)
open Go.ChangeMaps (setBlock heap_setBlock_same heap_setBlock_other)

variable {w : World}

def Vl.fits (v : Vl) : Prop := v.k < 256 ∧ -9223372036854775808 ≤ v.n ∧ v.n ≤ 9223372036854775807

theorem rowVal : (29 : TypeId) < Tryz.prog.types.size := of_decide_eq_true (by kernel_rfl)

theorem laidOut0 : laidOutB Tryz.prog = true := by kernel_rfl

theorem wideVal : (match Tryz.prog.underlying 29 with | some (.array _ _) | some (.struct _) => true | _ => false) = true := by kernel_rfl

set_option maxRecDepth 100000 in
theorem lawVal : KeyLaw Tryz.prog 29 := deep_law_laid laidOut0 (m := 3) (by omega) rowVal (by kernel_rfl) wideVal

theorem keyedVal : Keyed Tryz.prog 29 := Keyed.of_law lawVal

theorem lawStr : Keyed Tryz.prog 9 := string_keyed Tryz.underlying9

theorem keyTypeVal : Tryz.prog.keyType 29 = true := by kernel_rfl

theorem cellsVal0 : Tryz.prog.cellsOf 29 = 2 := by kernel_rfl

/-- A value as a key. -/
def litV (v : Vl) : Lit := .string (keyBytes [.int .u8 v.k, .int .i64 v.n])

def litT (s : ByteArray) : Lit := .string s.data.toList

theorem wfK8 {k : Nat} (h : k < 256) : (Lit.int .u8 k).wf = true := by
  simp only [Lit.wf, IntKind.min, IntKind.max, IntKind.signed, IntKind.bits, Bool.and_eq_true]
  simp; omega

theorem wfI64 {x : Int} (h : -9223372036854775808 ≤ x ∧ x ≤ 9223372036854775807) : (Lit.int .i64 x).wf = true := WalkArith.wf_i64 (by omega)

set_option maxRecDepth 100000 in
theorem keyOf_val {v : Vl} (h : v.fits) : keyOf Tryz.prog 29 (.agg #[.int .u8 v.k, .int .i64 v.n]) = some (litV v) := by
  obtain ⟨m, hm⟩ : ∃ m, Tryz.prog.types.size = m + 1 := ⟨Tryz.prog.types.size - 1, (Nat.succ_pred_eq_of_pos (Nat.lt_of_le_of_lt (Nat.zero_le _) rowVal)).symm⟩
  have c0 : Tryz.prog.cellsOf 27 = 1 := by kernel_rfl
  have c1 : Tryz.prog.cellsOf 2 = 1 := by kernel_rfl
  have w0 := wfK8 h.1
  have w1 := wfI64 h.2
  have hf : (Value.agg #[.int .u8 v.k, .int .i64 v.n]).formed Tryz.prog 29 = true := by
    simp [Value.formed, Tryz.underlying29, cellsVal0]
  have hlits : Tryz.prog.keyLits (Tryz.prog.types.size + 1) 29 [.int .u8 v.k, .int .i64 v.n] = some [.int .u8 v.k, .int .i64 v.n] := by
    rw [hm]
    simp [Program.keyLits, Tryz.underlying29, cellsVal0, c0, c1, Tryz.underlying27, Tryz.underlying2, w0, w1]
  unfold keyOf
  rw [Tryz.underlying29]
  simp only [keyTypeVal, hf, Bool.and_self, if_true]
  rw [show (Value.agg #[.int .u8 v.k, .int .i64 v.n]).cells.toList = [.int .u8 v.k, .int .i64 v.n] from rfl, hlits]
  rfl

theorem keyOf_str {s : ByteArray} (h : s.size ≤ maxLen) : keyOf Tryz.prog 9 (.string s) = some (litT s) := by
  rw [keyOf_string Tryz.underlying9]
  simp [mapKey, Tryz.underlying9, h, litT]

theorem litV_inj {a b : Vl} (ha : a.fits) (hb : b.fits) (h : litV a = litV b) : a = b := by
  have h1 := keyOf_val ha
  have h2 := keyOf_val hb
  rw [← h] at h2
  have := keyedVal.inj h1 h2
  simp at this
  obtain ⟨k, n⟩ := a
  obtain ⟨k', n'⟩ := b
  dsimp only at this
  rw [Vl.mk.injEq]
  omega

theorem litT_inj {a b : ByteArray} (h : litT a = litT b) : a = b := by
  simp only [litT, Lit.string.injEq] at h
  cases a; cases b; simp at h; simp [h]

theorem owns_same {H : Type} {P : Program} {k : TypeId} {R : Value → Option (DataW H × List MemPlace)} {w w' : World} {b n : Nat} {D : DataW H} (h : w.ownsMap P k R b n D) (hk : w'.heap[b]? = w.heap[b]?) : w'.ownsMap P k R b n D := by
  obtain ⟨es, cl, h1, h2⟩ := h
  exact ⟨es, cl, hk.trans h1, h2⟩

/-- An element that is a value. -/
def RVk (k : Value → Option Lit) (v : Value) : Option (DataW Unit × List MemPlace) := (k v).map (fun l => (.lit l, []))

theorem RV_val {v : Vl} (h : v.fits) : (RVk (keyOf Tryz.prog 29)) (.agg #[.int .u8 v.k, .int .i64 v.n]) = some (.lit (litV v), []) := by
  unfold RVk; rw [keyOf_val h]; rfl

theorem fits0 : Vl.fits ⟨0, 0⟩ := by unfold Vl.fits; simp

theorem RV_zero : (RVk (keyOf Tryz.prog 29)) (.agg #[.int .u8 0, .int .i64 0]) = some (.lit (litV ⟨0, 0⟩), []) := by
  have := RV_val fits0
  simpa using this

theorem RV_inv {x : Value} {v : Vl} {ps : List MemPlace} (hv : v.fits) (h : (RVk (keyOf Tryz.prog 29)) x = some (.lit (litV v), ps)) : x = .agg #[.int .u8 v.k, .int .i64 v.n] := by
  unfold RVk at h
  cases hk : keyOf Tryz.prog 29 x with
  | none => rw [hk] at h; cases h
  | some l =>
    rw [hk] at h
    simp only [Option.map_some, Option.some.injEq, Prod.mk.injEq, DataW.lit.injEq] at h
    obtain ⟨rfl, -⟩ := h
    exact keyedVal.inj hk (keyOf_val hv)

theorem zeroV (w : World) : (zeroValue 29).run Tryz.prog w = .ok (.agg #[.int .u8 0, .int .i64 0]) w := by kernel_rfl

theorem zeroI3 (w : World) : (zeroValue 3).run Tryz.prog w = .ok (.int .i64 0) w := by kernel_rfl

/-- The texts of keys, each with the first key that says it. -/
def IsTx (T : Vl → Option ByteArray) (w : World) (b n : Nat) (K : List Vl) : Prop :=
  ∃ D : DataW Unit, w.ownsMap Tryz.prog 9 (RVk (keyOf Tryz.prog 29)) b n D ∧ (∀ s, has D (litT s) = true → ∃ a ∈ K, T a = some s) ∧
    ∀ l a r, K = l ++ a :: r → ∀ s, T a = some s → (∀ q ∈ l, T q ≠ some s) → has D (litT s) = true ∧ D.atKey (litT s) (.lit (litV ⟨0, 0⟩)) = .lit (litV a)

/-- Keys, each with its place. -/
def IsPl (w : World) (b n : Nat) (K : List Vl) : Prop :=
  ∃ D : DataW Unit, w.ownsMap Tryz.prog 29 (plainElem Tryz.prog 3) b n D ∧ (∀ v : Vl, v.fits → has D (litV v) = true → v ∈ K) ∧
    ∀ l a r, K = l ++ a :: r → has D (litV a) = true ∧ D.atKey (litV a) (.lit (.int .i64 0)) = .lit (.int .i64 (2 * l.length : Nat))

theorem IsTx.kept {T : Vl → Option ByteArray} {b n : Nat} {K : List Vl} (h : IsTx T w b n K) {w' : World} (hk : w'.heap[b]? = w.heap[b]?) : IsTx T w' b n K := by
  obtain ⟨D, h1, h2⟩ := h
  exact ⟨D, owns_same h1 hk, h2⟩

theorem IsTx.lt {T : Vl → Option ByteArray} {b n : Nat} {K : List Vl} (h : IsTx T w b n K) : b < w.heap.size := by obtain ⟨D, h1, _⟩ := h; exact h1.lt

theorem IsTx.more {T : Vl → Option ByteArray} {b n m : Nat} {K : List Vl} (h : IsTx T w b n K) (hm : n ≤ m) : IsTx T w b m K := by
  obtain ⟨D, h1, h2⟩ := h; exact ⟨D, h1.mono hm, h2⟩

theorem IsTx.isMap {T : Vl → Option ByteArray} {b n : Nat} {K : List Vl} (h : IsTx T w b n K) : ∃ es cl, w.heap[b]? = some (.map es cl) := by
  obtain ⟨D, ⟨es, cl, h1, _⟩, _⟩ := h; exact ⟨es, cl, h1⟩

theorem IsPl.kept {b n : Nat} {K : List Vl} (h : IsPl w b n K) {w' : World} (hk : w'.heap[b]? = w.heap[b]?) : IsPl w' b n K := by
  obtain ⟨D, h1, h2⟩ := h
  exact ⟨D, owns_same h1 hk, h2⟩

theorem IsPl.lt {b n : Nat} {K : List Vl} (h : IsPl w b n K) : b < w.heap.size := by obtain ⟨D, h1, _⟩ := h; exact h1.lt

theorem IsPl.more {b n m : Nat} {K : List Vl} (h : IsPl w b n K) (hm : n ≤ m) : IsPl w b m K := by
  obtain ⟨D, h1, h2⟩ := h; exact ⟨D, h1.mono hm, h2⟩

theorem IsPl.isMap {b n : Nat} {K : List Vl} (h : IsPl w b n K) : ∃ es cl, w.heap[b]? = some (.map es cl) := by
  obtain ⟨D, ⟨es, cl, h1, _⟩, _⟩ := h; exact ⟨es, cl, h1⟩

theorem IsTx.made (T : Vl → Option ByteArray) (w : World) : IsTx T (w.alloc (.map #[] 0)) w.heap.size 0 [] :=
  ⟨.map [], World.ownsMap_made _ _ _ _, by simp [has], fun l a r h => by simp at h⟩

theorem IsPl.made (w : World) : IsPl (w.alloc (.map #[] 0)) w.heap.size 0 [] :=
  ⟨.map [], World.ownsMap_made _ _ _ _, by simp [has], fun l a r h => by simp at h⟩

/-- A text that is there. -/
theorem IsTx.look_yes {T : Vl → Option ByteArray} {b n : Nat} {K l r : List Vl} {a : Vl} {s : ByteArray} (h : IsTx T w b n K) (hs : s.size ≤ maxLen) (hK : K = l ++ a :: r) (ha : a.fits) (hT : T a = some s) (hl : ∀ q ∈ l, T q ≠ some s) :
    ∀ W : World, W.heap[b]? = w.heap[b]? → (Instr.lookup 142 (.map (some b)) (.string s) true).run Tryz.prog W = .ok (.tuple #[.agg #[.int .u8 a.k, .int .i64 a.n], .bool true]) W := by
  intro W hW
  obtain ⟨D, h1, h2, h3⟩ := h
  obtain ⟨g1, g2⟩ := h3 l a r hK s hT hl
  obtain ⟨x, ps, hrun, hx⟩ := (owns_same h1 hW).look_ok lawStr Tryz.underlying142 (zeroV W) RV_zero (keyOf_str hs)
  rw [hrun, g1]
  rw [g2] at hx
  rw [RV_inv ha hx]

/-- One that is not. -/
theorem IsTx.look_no {T : Vl → Option ByteArray} {b n : Nat} {K : List Vl} {s : ByteArray} (h : IsTx T w b n K) (hs : s.size ≤ maxLen) (hl : ∀ q ∈ K, T q ≠ some s) :
    ∀ W : World, W.heap[b]? = w.heap[b]? → ∃ k' n', (Instr.lookup 142 (.map (some b)) (.string s) true).run Tryz.prog W = .ok (.tuple #[.agg #[.int .u8 k', .int .i64 n'], .bool false]) W := by
  intro W hW
  obtain ⟨D, h1, h2, h3⟩ := h
  have hno : has D (litT s) = false := by
    cases e : has D (litT s) with
    | false => rfl
    | true => obtain ⟨a, ha, hT⟩ := h2 s e; exact (hl a ha hT).elim
  obtain ⟨x, ps, hrun, hx⟩ := (owns_same h1 hW).look_ok lawStr Tryz.underlying142 (zeroV W) RV_zero (keyOf_str hs)
  rw [atKey_of_not_has hno] at hx
  refine ⟨((0 : Nat) : Int), 0, ?_⟩
  rw [hrun, hno, RV_inv fits0 hx]

/-- .. and is put. -/
theorem IsTx.put {T : Vl → Option ByteArray} {b n : Nat} {K : List Vl} {v : Vl} {s : ByteArray} (h : IsTx T w b n K) (hn : n ≤ 1099511627776) (hs : s.size ≤ maxLen) (hv : v.fits) (hT : T v = some s) (hl : ∀ q ∈ K, T q ≠ some s) :
    ∀ W : World, W.heap[b]? = w.heap[b]? → ∃ w2, (Instr.mapUpdate 142 (.map (some b)) (.string s) (.agg #[.int .u8 v.k, .int .i64 v.n])).run Tryz.prog W = .ok () w2 ∧ IsTx T w2 b (n + 1) (K ++ [v]) ∧ W.grownBy w2 (some b) := by
  intro W hW
  obtain ⟨D, h1, h2, h3⟩ := h
  obtain ⟨w2, hrun, hown, hg⟩ := (owns_same h1 hW).update lawStr Tryz.underlying142 (by unfold maxLen; omega) (keyOf_str hs) (RV_val hv)
  refine ⟨w2, hrun, ⟨_, hown, ?_, ?_⟩, hg⟩
  · intro t ht
    by_cases e : t = s
    · subst e; exact ⟨v, by simp, hT⟩
    · rw [has_put_other (fun e2 => e (litT_inj e2))] at ht
      obtain ⟨a, ha, hTa⟩ := h2 t ht
      exact ⟨a, by simp [ha], hTa⟩
  · intro l a r hK t hTa hlt
    by_cases e : t = s
    · subst e
      have : l = K ∧ a = v := by
        have ha : a ∉ K := fun hm => hl a hm hTa
        rcases List.append_eq_append_iff.1 hK with ⟨zs, h4, h5⟩ | ⟨cs, h4, h5⟩
        · cases zs with
          | nil => simp at h4 h5; exact ⟨h4, h5.1.symm⟩
          | cons y ys => simp at h5
        · cases cs with
          | nil => simp at h4 h5; exact ⟨h4.symm, h5.1⟩
          | cons y ys => simp at h5; exact (ha (by rw [h4, h5.1]; simp)).elim
      rw [this.2]
      exact ⟨has_put_same h1.isMap (lawStr.key (keyOf_str hs)) _, atKey_put_same h1.isMap (lawStr.key (keyOf_str hs)) _ _⟩
    · have hne : litT t ≠ litT s := fun e2 => e (litT_inj e2)
      rw [has_put_other hne, atKey_put_other hne]
      rcases List.append_eq_append_iff.1 hK with ⟨zs, h4, h5⟩ | ⟨cs, h4, h5⟩
      · cases zs with
        | nil => simp at h5; rw [← h5.1, hT] at hTa; cases hTa; exact (e rfl).elim
        | cons y ys => simp at h5
      · cases cs with
        | nil => simp at h5; rw [h5.1, hT] at hTa; cases hTa; exact (e rfl).elim
        | cons y ys =>
          simp at h5
          exact h3 l a ys (by rw [h4, h5.1]) t hTa hlt

/-- A key that says nothing is put behind all the same. -/
theorem IsTx.skip {T : Vl → Option ByteArray} {b n : Nat} {K : List Vl} {v : Vl} (h : IsTx T w b n K) (hT : T v = none) : IsTx T w b n (K ++ [v]) := by
  obtain ⟨D, h1, h2, h3⟩ := h
  refine ⟨D, h1, fun s hs => ?_, fun l a r hK s hTa hl => ?_⟩
  · obtain ⟨a, ha, hTa⟩ := h2 s hs
    exact ⟨a, by simp [ha], hTa⟩
  · rcases List.append_eq_append_iff.1 hK with ⟨zs, h4, h5⟩ | ⟨cs, h4, h5⟩
    · cases zs with
      | nil => simp at h5; rw [← h5.1, hT] at hTa; cases hTa
      | cons y ys => simp at h5
    · cases cs with
      | nil => simp at h5; rw [h5.1, hT] at hTa; cases hTa
      | cons y ys => simp at h5; exact h3 l a ys (by rw [h4, h5.1]) s hTa hl

theorem IsPl.look_yes {b n : Nat} {K l r : List Vl} {a : Vl} (h : IsPl w b n K) (hK : K = l ++ a :: r) (ha : a.fits) :
    ∀ W : World, W.heap[b]? = w.heap[b]? → (Instr.lookup 143 (.map (some b)) (.agg #[.int .u8 a.k, .int .i64 a.n]) true).run Tryz.prog W = .ok (.tuple #[.int .i64 (2 * l.length : Nat), .bool true]) W := by
  intro W hW
  obtain ⟨D, h1, h2, h3⟩ := h
  obtain ⟨g1, g2⟩ := h3 l a r hK
  obtain ⟨x, ps, hrun, hx⟩ := (owns_same h1 hW).look_ok keyedVal Tryz.underlying143 (zeroI3 W) (plainElem_int Tryz.underlying3 (wfI64 (by omega))) (keyOf_val ha)
  rw [g2] at hx
  obtain ⟨c, rfl, hc, -⟩ := plainElem_int_inv Tryz.underlying3 hx
  simp only [Prod.mk.injEq, DataW.lit.injEq, Lit.int.injEq, true_and] at hc
  rw [hrun, g1, hc.1]

theorem IsPl.look_no {b n : Nat} {K : List Vl} {v : Vl} (h : IsPl w b n K) (hv : v.fits) (hno : v ∉ K) :
    ∀ W : World, W.heap[b]? = w.heap[b]? → (Instr.lookup 143 (.map (some b)) (.agg #[.int .u8 v.k, .int .i64 v.n]) true).run Tryz.prog W = .ok (.tuple #[.int .i64 0, .bool false]) W := by
  intro W hW
  obtain ⟨D, h1, h2, h3⟩ := h
  have hn : has D (litV v) = false := by
    cases e : has D (litV v) with
    | false => rfl
    | true => exact (hno (h2 v hv e)).elim
  obtain ⟨x, ps, hrun, hx⟩ := (owns_same h1 hW).look_ok keyedVal Tryz.underlying143 (zeroI3 W) (plainElem_int Tryz.underlying3 (wfI64 (by omega))) (keyOf_val hv)
  rw [atKey_of_not_has hn] at hx
  obtain ⟨c, rfl, hc, -⟩ := plainElem_int_inv Tryz.underlying3 hx
  simp only [Prod.mk.injEq, DataW.lit.injEq, Lit.int.injEq, true_and] at hc
  rw [hrun, hn, ← hc.1]

theorem IsPl.put {b n : Nat} {K : List Vl} {v : Vl} (h : IsPl w b n K) (hn : n ≤ 1099511627776) (hv : v.fits) (hKf : ∀ a ∈ K, a.fits) (hno : v ∉ K) (hK6 : K.length ≤ 1099511627776) :
    ∀ W : World, W.heap[b]? = w.heap[b]? → ∃ w2, (Instr.mapUpdate 143 (.map (some b)) (.agg #[.int .u8 v.k, .int .i64 v.n]) (.int .i64 (2 * K.length : Nat))).run Tryz.prog W = .ok () w2 ∧ IsPl w2 b (n + 1) (K ++ [v]) ∧ W.grownBy w2 (some b) := by
  intro W hW
  obtain ⟨D, h1, h2, h3⟩ := h
  obtain ⟨w2, hrun, hown, hg⟩ := (owns_same h1 hW).update keyedVal Tryz.underlying143 (by unfold maxLen; omega) (keyOf_val hv) (val := .int .i64 (2 * K.length : Nat)) (plainElem_int Tryz.underlying3 (wfI64 (by omega)))
  refine ⟨w2, hrun, ⟨_, hown, ?_, ?_⟩, hg⟩
  · intro u hu hh
    by_cases e : u = v
    · subst e; simp
    · rw [has_put_other (fun e2 => e (litV_inj hu hv e2))] at hh
      simp [h2 u hu hh]
  · intro l a r hK
    rcases List.append_eq_append_iff.1 hK with ⟨zs, h4, h5⟩ | ⟨cs, h4, h5⟩
    · cases zs with
      | nil =>
        simp at h4 h5
        obtain ⟨rfl, rfl⟩ := h5
        rw [h4]
        exact ⟨has_put_same h1.isMap (keyedVal.key (keyOf_val hv)) _, atKey_put_same h1.isMap (keyedVal.key (keyOf_val hv)) _ _⟩
      | cons y ys => simp at h5
    · cases cs with
      | nil =>
        simp at h4 h5
        obtain ⟨rfl, rfl⟩ := h5
        rw [← h4]
        exact ⟨has_put_same h1.isMap (keyedVal.key (keyOf_val hv)) _, atKey_put_same h1.isMap (keyedVal.key (keyOf_val hv)) _ _⟩
      | cons y ys =>
        simp at h5
        have hm : a ∈ K := by rw [h4, ← h5.1]; simp
        have hne : litV a ≠ litV v := fun e2 => hno (by rw [← litV_inj (hKf a hm) hv e2]; exact hm)
        rw [has_put_other hne, atKey_put_other hne]
        exact h3 l a ys (by rw [h4, h5.1])

end Go.Proofs.YtkombdkhodjckaaGreat

namespace Go.Proofs.YtkombdkhodjckaaGreat
set_option linter.unusedVariables false
set_option linter.unusedSimpArgs false
open Go.RowKit Go.Maps

variable {w : World} {T : Vl → Option ByteArray} {bh bT n : Nat} {K : List Vl} {v : Vl}

/-- What a value says is told by T. -/
def TextTold (T : Vl → Option ByteArray) (bh : Nat) (v : Vl) (w : World) : Prop :=
  ∀ w', Below w.heap.size w w' → Calls Tryz.prog 114 #[mem bh, .agg #[.int .u8 v.k, .int .i64 v.n]] w' fun e w'' => e = .returned (.tuple #[.string ((T v).getD ⟨#[]⟩), .bool (T v).isSome]) ∧ Below w'.heap.size w' w''

theorem grown_below {w w' : World} {m : Nat} {row : Option Nat} (h : Below m w w') (hm : w.heap.size ≤ m) : w.grownBy w' row := ⟨h.os, h.tape, h.output, h.size, fun k hk _ => h.block k (by omega)⟩

set_option maxRecDepth 20000 in
set_option maxHeartbeats 1000000 in
theorem firstLike_none (hT : T v = none) (HT : TextTold T bh v w) :
    Calls Tryz.prog 88 #[mem bh, .map (some bT), .agg #[.int .u8 v.k, .int .i64 v.n]] w fun e w' => e = .returned (.agg #[.int .u8 v.k, .int .i64 v.n]) ∧ Below w.heap.size w w' := by
  have hb3 := below3' w (.cells #[.pointer (some ⟨bh, 0, none⟩)] 54) (.cells #[.int .u8 v.k, .int .i64 v.n] 29) (.cells #[.int .u8 0, .int .i64 0] 29)
  have H1 := HT _ hb3
  rw [hT] at H1
  simp only [Option.getD_none, Option.isSome_none] at H1
  unfold mem at H1 ⊢
  clear HT hT
  go_enter Tryz.func88, Tryz.ntmps88
  go_wp2_with (first
    | (go_at_call 114; refine H1.mono ?_; clear H1; rintro e w1 ⟨rfl, hB1⟩; obtain ⟨m1, m2, m3, hBz⟩ := later3o hB1; have ⟨d0, d1⟩ := cell_row2 m2; obtain ⟨⟨e0, e1⟩, f0, f1⟩ := cell_row2f m3))
  refine bodyPost_ret (results_cell_row (by rfl) _ _ (w.heap.size + 1 + 1) 29 _ _ _ (by rfl) (set2_row m3) Tryz.underlying29 (by rfl) infoVal3) (by rfl) ?_
  exact ⟨rfl, below_set (below_set hBz (by omega) _) (by omega) _⟩

set_option maxRecDepth 20000 in
set_option maxHeartbeats 1000000 in
theorem firstLike_old {l r : List Vl} {a : Vl} {s : ByteArray} (h : IsTx T w bT n K) (hT : T v = some s) (hs : s.size ≤ maxLen) (HT : TextTold T bh v w) (hK : K = l ++ a :: r) (ha : a.fits) (hTa : T a = some s) (hl : ∀ q ∈ l, T q ≠ some s) :
    Calls Tryz.prog 88 #[mem bh, .map (some bT), .agg #[.int .u8 v.k, .int .i64 v.n]] w fun e w' => e = .returned (.agg #[.int .u8 a.k, .int .i64 a.n]) ∧ Below w.heap.size w w' := by
  have hb3 := below3' w (.cells #[.pointer (some ⟨bh, 0, none⟩)] 54) (.cells #[.int .u8 v.k, .int .i64 v.n] 29) (.cells #[.int .u8 0, .int .i64 0] 29)
  have H1 := HT _ hb3
  rw [hT] at H1
  simp only [Option.getD_some, Option.isSome_some] at H1
  have L := h.look_yes hs hK ha hTa hl
  have hlt := h.lt
  unfold mem at H1 ⊢
  clear HT hT h hK hl hTa ha
  go_enter Tryz.func88, Tryz.ntmps88
  go_wp2_with (first
    | (go_at_call 114; refine H1.mono ?_; clear H1; rintro e w1 ⟨rfl, hB1⟩; obtain ⟨m1, m2, m3, hBz⟩ := later3o hB1; have ⟨d0, d1⟩ := cell_row2 m2; obtain ⟨⟨e0, e1⟩, f0, f1⟩ := cell_row2f m3; have L1 := L w1 (hBz.block _ hlt); clear L
       have m4 := alloc_keeps m3 (.cells #[.int .u8 a.k, .int .i64 a.n] 29); obtain ⟨⟨e2, e3⟩, f2, f3⟩ := cell_row2f m4; have hBy := hBz.alloc hBz.size (.cells #[.int .u8 a.k, .int .i64 a.n] 29)))
  refine bodyPost_ret (results_cell_row (by rfl) _ _ (w.heap.size + 1 + 1) 29 _ _ _ (by rfl) (set2_row m4) Tryz.underlying29 (by rfl) infoVal3) (by rfl) ?_
  exact ⟨rfl, below_set (below_set hBy (by omega) _) (by omega) _⟩

set_option maxRecDepth 20000 in
set_option maxHeartbeats 1000000 in
theorem firstLike_new {s : ByteArray} (h : IsTx T w bT n K) (hn : n ≤ 1099511627776) (hv : v.fits) (hT : T v = some s) (hs : s.size ≤ maxLen) (HT : TextTold T bh v w) (hl : ∀ q ∈ K, T q ≠ some s) :
    Calls Tryz.prog 88 #[mem bh, .map (some bT), .agg #[.int .u8 v.k, .int .i64 v.n]] w fun e w' => e = .returned (.agg #[.int .u8 v.k, .int .i64 v.n]) ∧ w.grownBy w' (some bT) ∧ IsTx T w' bT (n + 1) (K ++ [v]) := by
  have hb3 := below3' w (.cells #[.pointer (some ⟨bh, 0, none⟩)] 54) (.cells #[.int .u8 v.k, .int .i64 v.n] 29) (.cells #[.int .u8 0, .int .i64 0] 29)
  have H1 := HT _ hb3
  rw [hT] at H1
  simp only [Option.getD_some, Option.isSome_some] at H1
  have L := h.look_no hs hl
  have P := h.put hn hs hv hT hl
  have hlt := h.lt
  unfold mem at H1 ⊢
  clear HT hT h hl
  go_enter Tryz.func88, Tryz.ntmps88
  go_wp2_with (first
    | (go_at_call 114; refine H1.mono ?_; clear H1; rintro e w1 ⟨rfl, hB1⟩; obtain ⟨m1, m2, m3, hBz⟩ := later3o hB1; obtain ⟨k', n', L1⟩ := L w1 (hBz.block _ hlt); clear L
       have hBy := hBz.alloc hBz.size (.cells #[.int .u8 k', .int .i64 n'] 29)
       have k2 := alloc_keeps m2 (.cells #[.int .u8 k', .int .i64 n'] 29)
       have k3 := alloc_keeps m3 (.cells #[.int .u8 k', .int .i64 n'] 29)
       have ⟨d0, d1⟩ := cell_row2 k2
       obtain ⟨w2, hrun, hTx, hg⟩ := P _ (hBy.block _ hlt)
       clear P
       have z2 := (hg.block _ (Array.getElem?_eq_some_iff.1 k2).1 (by intro e; cases e; omega)).trans k2
       have z3 := (hg.block _ (Array.getElem?_eq_some_iff.1 k3).1 (by intro e; cases e; omega)).trans k3
       have ⟨e0, e1⟩ := cell_row2 z2
       obtain ⟨⟨e2, e3⟩, f2, f3⟩ := cell_row2f z3))
  refine bodyPost_ret (results_cell_row (by rfl) _ _ (w.heap.size + 1 + 1) 29 _ _ _ (by rfl) (set2_row z3) Tryz.underlying29 (by rfl) infoVal3) (by rfl) ?_
  have hG : w.grownBy w2 (some bT) := (grown_below hBy (Nat.le_refl _)).trans hg
  have hne : bT ≠ w.heap.size + 1 + 1 := by omega
  refine ⟨rfl, ⟨hG.os, hG.tape, hG.output, by simpa [World.setCell] using hG.size, fun k hk hr => ?_⟩, hTx.kept ?_⟩
  · rw [heap_setCell_other _ ⟨w.heap.size + 1 + 1, 1, none⟩ k _ (by show k ≠ w.heap.size + 1 + 1; omega), heap_setCell_other _ ⟨w.heap.size + 1 + 1, 0, none⟩ k _ (by show k ≠ w.heap.size + 1 + 1; omega)]
    exact hG.block k hk hr
  · rw [heap_setCell_other _ ⟨w.heap.size + 1 + 1, 1, none⟩ bT _ hne, heap_setCell_other _ ⟨w.heap.size + 1 + 1, 0, none⟩ bT _ hne]

/-- All of it. -/
theorem firstLike_in (h : IsTx T w bT n K) (hn : n ≤ 1099511627776) (hv : v.fits) (hKf : ∀ a ∈ K, a.fits) (hs : ∀ s, T v = some s → s.size ≤ maxLen) (HT : TextTold T bh v w) :
    (∀ l a r, K = l ++ a :: r → (∀ q ∈ l, ¬ likeK T q v) → likeK T a v → Calls Tryz.prog 88 #[mem bh, .map (some bT), .agg #[.int .u8 v.k, .int .i64 v.n]] w fun e w' => e = .returned (.agg #[.int .u8 a.k, .int .i64 a.n]) ∧ w.grownBy w' (some bT) ∧ IsTx T w' bT (n + 1) K) ∧
    ((∀ q ∈ K, ¬ likeK T q v) → Calls Tryz.prog 88 #[mem bh, .map (some bT), .agg #[.int .u8 v.k, .int .i64 v.n]] w fun e w' => e = .returned (.agg #[.int .u8 v.k, .int .i64 v.n]) ∧ w.grownBy w' (some bT) ∧ IsTx T w' bT (n + 1) (K ++ [v])) := by
  have hlt := h.lt
  cases e : T v with
  | none =>
    refine ⟨fun l a r hK hl ha => ?_, fun hno => ?_⟩
    · rcases ha with ⟨s, h1, h2⟩ | ⟨h1, h2, rfl⟩
      · rw [e] at h2; cases h2
      · exact (firstLike_none e HT).mono (fun E w' ⟨h3, hB⟩ => ⟨h3, grown_below hB (Nat.le_refl _), (h.kept (hB.block _ hlt)).more (by omega)⟩)
    · exact (firstLike_none e HT).mono (fun E w' ⟨h3, hB⟩ => ⟨h3, grown_below hB (Nat.le_refl _), ((h.kept (hB.block _ hlt)).more (by omega)).skip e⟩)
  | some s =>
    refine ⟨fun l a r hK hl ha => ?_, fun hno => ?_⟩
    · rcases ha with ⟨t, h1, h2⟩ | ⟨h1, h2, rfl⟩
      · rw [e] at h2; cases h2
        exact (firstLike_old h e (hs s e) HT hK (hKf a (by rw [hK]; simp)) h1 (fun q hq hq2 => hl q hq (.inl ⟨s, hq2, e⟩))).mono (fun E w' ⟨h3, hB⟩ => ⟨h3, grown_below hB (Nat.le_refl _), (h.kept (hB.block _ hlt)).more (by omega)⟩)
      · rw [e] at h2; cases h2
    · exact firstLike_new h hn hv e (hs s e) HT (fun q hq hq2 => hno q hq (.inl ⟨s, hq2, e⟩))

end Go.Proofs.YtkombdkhodjckaaGreat
