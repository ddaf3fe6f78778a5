/- Copies of lists of a function, with room behind, and that they were left as they were. -/
import Derived.Test.YtpjgdbeekmoedaaGreatDoorVfMem
import Derived.Deep.AppendLies
import Derived.Deep.RegionLaw
import Derived.Laws.AppendOwnNone
import Derived.BigQuiet
namespace Go.Proofs.YtpjgdbeekmoedaaGreatDoor
set_option linter.unusedVariables false
set_option linter.unusedSimpArgs false
open Go.RowKit

variable {w : World}

/-- Elements, flat. -/
def rowC {α : Type} (f : α → List Value) : List α → List Value
  | [] => []
  | x :: r => f x ++ rowC f r

theorem rowC_append {α : Type} (f : α → List Value) : ∀ (l r : List α), rowC f (l ++ r) = rowC f l ++ rowC f r
  | [], _ => rfl
  | x :: l, r => by simp [rowC, rowC_append f l r]

theorem rowC_one {α : Type} (f : α → List Value) (x : α) : rowC f [x] = f x := by simp [rowC]

theorem rowC_get {α : Type} {f : α → List Value} {k : Nat} (hf : ∀ x, (f x).length = k) : ∀ (l : List α) (j : Nat) (x : α) (t : List Value), l[j]? = some x → ∀ i, i < k → (rowC f l ++ t)[j * k + i]? = (f x)[i]?
  | [], j, x, t, h => by simp at h
  | u :: r, 0, x, t, h => by
    simp at h; subst h
    intro i hi
    simp only [rowC, List.append_assoc]
    rw [List.getElem?_append_left (by rw [hf]; omega)]
    congr 1; omega
  | u :: r, j + 1, x, t, h => by
    intro i hi
    have := rowC_get hf r j x t (by simpa using h) i hi
    rw [← this]
    simp only [rowC, List.append_assoc]
    have e : (j + 1) * k + i = k + (j * k + i) := by rw [Nat.add_mul]; omega
    rw [List.getElem?_append_right (by rw [hf, e]; omega), hf, e]
    congr 1
    omega

theorem rowC_len {α : Type} {f : α → List Value} {k : Nat} (hf : ∀ x, (f x).length = k) : ∀ (l : List α), (rowC f l).length = l.length * k
  | [] => by simp [rowC]
  | x :: r => by simp [rowC, hf, rowC_len hf r, Nat.add_mul]; omega

theorem ownsRow_succ2 {w : World} {base e k n : Nat} {v : Value} {xs : List Value} (h : w.ownsRow base e k v (n + 1) xs) : ∃ g c, v = .slice (some ⟨g, 0, none⟩) (n + 1) c := by
  rcases h.2 with ⟨_, h0⟩ | ⟨g, cap, cur, rfl, _⟩
  · omega
  · exact ⟨g, cap, rfl⟩

theorem ownsRow_cap2 {w : World} {base e k n g c : Nat} {xs : List Value} (h : w.ownsRow base e k (.slice (some ⟨g, 0, none⟩) (n + 1) c) (n + 1) xs) : n + 1 ≤ c ∧ c ≤ maxLen := by
  rcases h.2 with ⟨h0, _⟩ | ⟨g', cap, cur, e, _, _, h1, h2, _⟩
  · simp at h0
  · simp at e; obtain ⟨rfl, rfl⟩ := e; exact ⟨h1, h2⟩

/-- A copy with a spare element behind. -/
def Twin {α : Type} (T : TypeId) (f : α → List Value) (k : Nat) (sp : List Value) (base g c : Nat) (l : List α) (w : World) : Prop := w.ownsRow base T k (.slice (some ⟨g, 0, none⟩) (l.length + 1) c) (l.length + 1) (rowC f l ++ sp)

theorem Twin.rowAt {α : Type} {T : TypeId} {f : α → List Value} {k : Nat} {sp : List Value} {base g c : Nat} {l : List α} (hf : ∀ x, (f x).length = k) (h : Twin T f k sp base g c l w) : RowAt f k w (some ⟨g, 0, none⟩) l := by
  intro j x hj
  refine ⟨g, 0, rfl, (World.ownsRow.lt h g rfl).2, fun i u hu => ?_⟩
  have hlt := (List.getElem?_eq_some_iff.1 hj).1
  have hi : i < k := by rw [← hf x]; exact (List.getElem?_eq_some_iff.1 hu).1
  rw [Nat.zero_add, World.ownsRow.cellAt h _ (by
    have : (j + 1) * k ≤ (l.length + 1) * k := Nat.mul_le_mul_right _ (by omega)
    rw [Nat.add_mul] at this; omega), rowC_get hf l j x sp hj i hi]
  exact hu

theorem Twin.kept {α : Type} {T : TypeId} {f : α → List Value} {k : Nat} {sp : List Value} {base g c : Nat} {l : List α} (h : Twin T f k sp base g c l w) {w' : World} (hk : w'.heap[g]? = w.heap[g]?) : Twin T f k sp base g c l w' :=
  row_kept h (fun k e => by simp [Value.ownBlock] at e; subst e; exact hk)

theorem Twin.lt {α : Type} {T : TypeId} {f : α → List Value} {k : Nat} {sp : List Value} {base g c : Nat} {l : List α} (h : Twin T f k sp base g c l w) : base ≤ g ∧ g < w.heap.size := World.ownsRow.lt h g rfl

theorem Twin.below {α : Type} {T : TypeId} {f : α → List Value} {k : Nat} {sp : List Value} {base g c : Nat} {l : List α} (h : Twin T f k sp base g c l w) {w' : World} (hB : Below w.heap.size w w') : Twin T f k sp base g c l w' := h.kept (hB.block g h.lt.2)

theorem Twin.obj {α : Type} {T : TypeId} {f : α → List Value} {k : Nat} {sp : List Value} {base g c : Nat} {l : List α} (h : Twin T f k sp base g c l w) : ∃ cur, w.heap[g]? = some (.cells cur T (0, 0)) := row_obj h rfl

theorem Twin.mono {α : Type} {T : TypeId} {f : α → List Value} {k : Nat} {sp : List Value} {base base' g c : Nat} {l : List α} (h : Twin T f k sp base g c l w) (hb : base' ≤ base) : Twin T f k sp base' g c l w := row_mono2 h hb

theorem Twin.last {α : Type} {T : TypeId} {f : α → List Value} {k : Nat} {sp : List Value} {base g c : Nat} {l : List α} (hf : ∀ x, (f x).length = k) (h : Twin T f k sp base g c l w) {i : Nat} {u : Value} (hi : i < k) (hu : sp[i]? = some u) : w.cell? ⟨g, l.length * k + i, none⟩ = some u := by
  rw [World.ownsRow.cellAt h _ (by rw [Nat.add_mul]; omega), List.getElem?_append_right (by rw [rowC_len hf]; omega), rowC_len hf]
  rw [show l.length * k + i - l.length * k = i by omega]; exact hu

theorem info_parts {P : Program} {t : TypeId} {z : Value} {s b : Nat} (h : (P.info? t).map (fun i => (i.zero, i.size, i.bytes)) = some (some z, s, b)) : ∃ i, P.info? t = some i ∧ i.zero = some z ∧ i.size = s ∧ i.bytes = b := by
  cases hi : P.info? t with
  | none => rw [hi] at h; simp at h
  | some i => rw [hi] at h; simp at h; exact ⟨i, rfl, h.1, h.2.1, h.2.2⟩

def spCaps : List Value := [.bool false, .int .i64 7777]

abbrev TwCaps (base g c : Nat) (l : List Cp) (w : World) : Prop := Twin 170 capC 2 spCaps base g c l w

theorem capC_len (x : Cp) : (capC x).length = 2 := rfl

theorem infoCaps : (Tryz.prog.info? 170).map (fun i => (i.zero, i.size, i.bytes)) = some (some (.agg #[.bool false, .int .i64 0]), 2, 16) := by kernel_rfl

set_option maxRecDepth 20000 in
set_option maxHeartbeats 2000000 in
theorem twinCaps_in {p : Option Addr} {l : List Cp} (c : Nat) (hv : RowAt capC 2 w p l) (hlen : l.length ≤ 1048576) :
    Calls Tryz.prog 180 #[.slice p l.length c] w fun e w' => ∃ g c, e = .returned (.slice (some ⟨g, 0, none⟩) l.length c) ∧ TwCaps w.heap.size g c l w' ∧ Below w.heap.size w w' := by
  obtain ⟨i0, hi, hz0, hz1, hz2⟩ := info_parts infoCaps
  go_enter Tryz.func180, Tryz.ntmps180
  go_wp2_with (first
    | (at_make; refine wpList_make_own w rfl _ _ 63 rfl w.heap.size 170 i0 (.agg #[.bool false, .int .i64 0]) 2 Tryz.underlying63 hi hz0 hz1 .i64 .i64 _ (l.length + 1) rfl rfl (by simp) (by rw [hz2]; omega) (by unfold maxLen; omega) (Nat.le_refl _) ?_; intro w1 hown1 hgrow1))
  have hB1 : Below w.heap.size w w1 := rbelow_grown hgrow1 (fun q e => by cases e) (Nat.le_refl _)
  go_loopw [3, 4] (fun t k wr => ∃ (pre rest : List Cp), k = .int .i64 pre.length ∧ l = pre ++ rest ∧ wr.ownsRow w.heap.size 170 2 t pre.length (rowC capC pre) ∧ Below w.heap.size w wr) (fun _ k _ => l.length - (intOf k).toNat)
  case atStart => exact ⟨[], l, rfl, rfl, hown1, hB1⟩
  case round =>
    obtain ⟨pre, rest, rfl, hR, hrow, hB⟩ := hrel
    have hsz := hB.size
    cases rest with
    | nil =>
      have hR' : l = pre := by simpa using hR
      have hq : ¬ ((pre.length : Int) < (l.length : Int)) := by rw [hR']; omega
      rw [← hR'] at hrow
      have hpl : pre.length = l.length := by rw [hR']
      have HP : Hid _ := hpl
      clear hR hR' hpl
      go_wp2_with (first
        | (at_builtin; go_loud (refine wpList_append_own _ rfl _ _ 63 rfl w.heap.size 170 i0 (.agg #[.bool false, .int .i64 0]) 2 16 Tryz.underlying63 hi hz0 hz1 hz2 rfl (by decide) _ l.length _ rfl (hrow.alloc _) ⟨wr.heap.size, 0, none⟩ 1 1 [.bool false, .int .i64 7777] rfl rfl (World.news_of_block (cs := #[.bool false, .int .i64 7777]) (t := 170) (fr := (0, 0)) (heap_alloc_new wr _)) (by simp [Value.oneCell']) (by unfold maxLen; omega) (by omega) (by simp; omega) ?_; intro v4 w4 hown4 hgrow4 _; obtain ⟨g4, c4, rfl⟩ := ownsRow_succ2 hown4; obtain ⟨hc4, hc5⟩ := ownsRow_cap2 hown4)))
      go_ret
      exact ⟨g4, c4, rfl, hown4, (hB.alloc hB.size _).trans (rbelow_grown hgrow4 (fun q e => (hrow.lt q e).1) (by simp; omega))⟩
    | cons x rest =>
      have hlR : pre.length < l.length := by rw [hR]; simp
      obtain ⟨b0, off, rfl, c0, c1⟩ := hv.lookC hB (j := pre.length) (x := x) (by rw [hR]; simp)
      have HR : Hid (l = pre ++ x :: rest) := hR
      have e1 : (((pre ++ [x]).length : Nat) : Int) = pre.length + 1 := by simp
      clear hR
      go_wp2_with (first
        | (at_builtin; go_loud (refine wpList_append_own _ rfl _ _ 63 rfl w.heap.size 170 i0 (.agg #[.bool false, .int .i64 0]) 2 16 Tryz.underlying63 hi hz0 hz1 hz2 rfl (by decide) _ pre.length _ rfl (hrow.alloc _) ⟨wr.heap.size, 0, none⟩ 1 1 [.bool x.up, .int .i64 x.n] rfl rfl (World.news_of_block (cs := #[.bool x.up, .int .i64 x.n]) (t := 170) (fr := (0, 0)) (heap_alloc_new wr _)) (by simp [Value.oneCell']) (by unfold maxLen; omega) (by omega) (by simp; omega) ?_; intro v4 w4 hown4 hgrow4 _)))
      go_roundw
      case rel =>
        refine ⟨pre ++ [x], rest, by rw [e1], by have := HR.out; simpa using this, ?_, (hB.alloc hB.size _).trans (rbelow_grown hgrow4 (fun q e => (hrow.lt q e).1) (by simp; omega))⟩
        rw [rowC_append, rowC_one, show (pre ++ [x]).length = pre.length + 1 from List.length_append]
        exact hown4
      case measure => simp [intOf]; omega

set_option maxRecDepth 20000 in
set_option maxHeartbeats 2000000 in
theorem leftCaps_in {base g c : Nat} {p : Option Addr} {l : List Cp} (cl : Nat) (ht : TwCaps base g c l w) (hv : RowAt capC 2 w p l) (hlen : l.length ≤ 1048576) :
    Calls Tryz.prog 198 #[.slice (some ⟨g, 0, none⟩) l.length c, .slice p l.length cl] w fun e w' => e = .returned (.bool true) ∧ Below w.heap.size w w' := by
  obtain ⟨hc4, hc5⟩ := ownsRow_cap2 ht
  have hcb : ¬ ((c : Int) ≤ (l.length : Int)) := by omega
  go_enter Tryz.func198, Tryz.ntmps198
  go_wp2
  go_loopw [5] (fun k wr => ∃ j : Nat, k = .int .i64 j ∧ j ≤ l.length ∧ Below w.heap.size w wr) (fun k _ => l.length - (intOf k).toNat)
  case atStart => exact ⟨0, rfl, by omega, Below.refl _ _⟩
  case round =>
    obtain ⟨j, rfl, hj, hB⟩ := hrel
    have ht' : TwCaps base g c l wr := ht.below hB
    by_cases hjn : j < l.length
    · obtain ⟨x, hvj⟩ : ∃ x, l[j]? = some x := ⟨l[j], by simp⟩
      obtain ⟨b0, off, rfl, c0, c1⟩ := hv.lookC hB hvj
      obtain ⟨g', off', e, d0, d1⟩ := (ht'.rowAt capC_len).lookC (Below.refl _ _) hvj
      simp at e
      obtain ⟨rfl, rfl⟩ := e
      rw [Nat.zero_add] at d0 d1
      have hjn' : (j : Int) < (l.length : Int) := by omega
      clear hvj
      go_wp2
      go_quiet (fail)
      go_wp2
      go_roundw
      case rel => exact ⟨j + 1, by simp, by omega, below_drewN' hB _⟩
      case measure => simp [intOf]; omega
    · have hjn' : ¬ ((j : Int) < (l.length : Int)) := by omega
      have d0 : wr.cell? ⟨g, l.length * 2, none⟩ = some (.bool false) := by have := ht'.last capC_len (i := 0) (by omega) rfl; simpa using this
      have d1 : wr.cell? ⟨g, l.length * 2 + 1, none⟩ = some (.int .i64 7777) := by have := ht'.last capC_len (i := 1) (by omega) rfl; simpa using this
      go_wp2
      go_ret
      exact ⟨rfl, hB.alloc hB.size _⟩

def spConsts : List Value := [.int .u8 0, .int .i64 0, .string ⟨#[115, 112, 97, 114, 101]⟩]

abbrev TwConsts (base g c : Nat) (l : List Ck) (w : World) : Prop := Twin 165 conC 3 spConsts base g c l w

theorem conC_len (x : Ck) : (conC x).length = 3 := rfl

theorem infoConsts : (Tryz.prog.info? 165).map (fun i => (i.zero, i.size, i.bytes)) = some (some (.agg #[.int .u8 0, .int .i64 0, .string ⟨#[]⟩]), 3, 32) := by kernel_rfl

set_option maxRecDepth 20000 in
set_option maxHeartbeats 2000000 in
theorem twinConsts_in {p : Option Addr} {l : List Ck} (c : Nat) (hv : RowAt conC 3 w p l) (hlen : l.length ≤ 1048576) :
    Calls Tryz.prog 181 #[.slice p l.length c] w fun e w' => ∃ g c, e = .returned (.slice (some ⟨g, 0, none⟩) l.length c) ∧ TwConsts w.heap.size g c l w' ∧ Below w.heap.size w w' := by
  obtain ⟨i0, hi, hz0, hz1, hz2⟩ := info_parts infoConsts
  go_enter Tryz.func181, Tryz.ntmps181
  go_wp2_with (first
    | (at_make; refine wpList_make_own w rfl _ _ 64 rfl w.heap.size 165 i0 (.agg #[.int .u8 0, .int .i64 0, .string ⟨#[]⟩]) 3 Tryz.underlying64 hi hz0 hz1 .i64 .i64 _ (l.length + 1) rfl rfl (by simp) (by rw [hz2]; omega) (by unfold maxLen; omega) (Nat.le_refl _) ?_; intro w1 hown1 hgrow1))
  have hB1 : Below w.heap.size w w1 := rbelow_grown hgrow1 (fun q e => by cases e) (Nat.le_refl _)
  go_loopw [3, 4] (fun t k wr => ∃ (pre rest : List Ck), k = .int .i64 pre.length ∧ l = pre ++ rest ∧ wr.ownsRow w.heap.size 165 3 t pre.length (rowC conC pre) ∧ Below w.heap.size w wr) (fun _ k _ => l.length - (intOf k).toNat)
  case atStart => exact ⟨[], l, rfl, rfl, hown1, hB1⟩
  case round =>
    obtain ⟨pre, rest, rfl, hR, hrow, hB⟩ := hrel
    have hsz := hB.size
    cases rest with
    | nil =>
      have hR' : l = pre := by simpa using hR
      have hq : ¬ ((pre.length : Int) < (l.length : Int)) := by rw [hR']; omega
      rw [← hR'] at hrow
      have hpl : pre.length = l.length := by rw [hR']
      have HP : Hid _ := hpl
      clear hR hR' hpl
      go_wp2_with (first
        | (at_builtin; go_loud (refine wpList_append_own _ rfl _ _ 64 rfl w.heap.size 165 i0 (.agg #[.int .u8 0, .int .i64 0, .string ⟨#[]⟩]) 3 32 Tryz.underlying64 hi hz0 hz1 hz2 rfl (by decide) _ l.length _ rfl (hrow.alloc _) ⟨wr.heap.size, 0, none⟩ 1 1 [.int .u8 0, .int .i64 0, .string ⟨#[115, 112, 97, 114, 101]⟩] rfl rfl (World.news_of_block (cs := #[.int .u8 0, .int .i64 0, .string ⟨#[115, 112, 97, 114, 101]⟩]) (t := 165) (fr := (0, 0)) (heap_alloc_new wr _)) (by simp [Value.oneCell']) (by unfold maxLen; omega) (by omega) (by simp; omega) ?_; intro v4 w4 hown4 hgrow4 _; obtain ⟨g4, c4, rfl⟩ := ownsRow_succ2 hown4; obtain ⟨hc4, hc5⟩ := ownsRow_cap2 hown4)))
      go_ret
      exact ⟨g4, c4, rfl, hown4, (hB.alloc hB.size _).trans (rbelow_grown hgrow4 (fun q e => (hrow.lt q e).1) (by simp; omega))⟩
    | cons x rest =>
      have hlR : pre.length < l.length := by rw [hR]; simp
      obtain ⟨b0, off, rfl, c0, c1, c2⟩ := hv.lookK hB (j := pre.length) (x := x) (by rw [hR]; simp)
      have HR : Hid (l = pre ++ x :: rest) := hR
      have e1 : (((pre ++ [x]).length : Nat) : Int) = pre.length + 1 := by simp
      clear hR
      go_wp2_with (first
        | (at_builtin; go_loud (refine wpList_append_own _ rfl _ _ 64 rfl w.heap.size 165 i0 (.agg #[.int .u8 0, .int .i64 0, .string ⟨#[]⟩]) 3 32 Tryz.underlying64 hi hz0 hz1 hz2 rfl (by decide) _ pre.length _ rfl (hrow.alloc _) ⟨wr.heap.size, 0, none⟩ 1 1 [.int .u8 x.k, .int .i64 x.n, .string x.s] rfl rfl (World.news_of_block (cs := #[.int .u8 x.k, .int .i64 x.n, .string x.s]) (t := 165) (fr := (0, 0)) (heap_alloc_new wr _)) (by simp [Value.oneCell']) (by unfold maxLen; omega) (by omega) (by simp; omega) ?_; intro v4 w4 hown4 hgrow4 _)))
      go_roundw
      case rel =>
        refine ⟨pre ++ [x], rest, by rw [e1], by have := HR.out; simpa using this, ?_, (hB.alloc hB.size _).trans (rbelow_grown hgrow4 (fun q e => (hrow.lt q e).1) (by simp; omega))⟩
        rw [rowC_append, rowC_one, show (pre ++ [x]).length = pre.length + 1 from List.length_append]
        exact hown4
      case measure => simp [intOf]; omega

set_option maxRecDepth 20000 in
set_option maxHeartbeats 2000000 in
theorem leftConsts_in {base g c : Nat} {p : Option Addr} {l : List Ck} (cl : Nat) (ht : TwConsts base g c l w) (hv : RowAt conC 3 w p l) (hlen : l.length ≤ 1048576) :
    Calls Tryz.prog 199 #[.slice (some ⟨g, 0, none⟩) l.length c, .slice p l.length cl] w fun e w' => e = .returned (.bool true) ∧ Below w.heap.size w w' := by
  obtain ⟨hc4, hc5⟩ := ownsRow_cap2 ht
  have hcb : ¬ ((c : Int) ≤ (l.length : Int)) := by omega
  go_enter Tryz.func199, Tryz.ntmps199
  go_wp2
  go_loopw [5] (fun k wr => ∃ j : Nat, k = .int .i64 j ∧ j ≤ l.length ∧ Below w.heap.size w wr) (fun k _ => l.length - (intOf k).toNat)
  case atStart => exact ⟨0, rfl, by omega, Below.refl _ _⟩
  case round =>
    obtain ⟨j, rfl, hj, hB⟩ := hrel
    have ht' : TwConsts base g c l wr := ht.below hB
    by_cases hjn : j < l.length
    · obtain ⟨x, hvj⟩ : ∃ x, l[j]? = some x := ⟨l[j], by simp⟩
      obtain ⟨b0, off, rfl, c0, c1, c2⟩ := hv.lookK hB hvj
      obtain ⟨g', off', e, d0, d1, d2⟩ := (ht'.rowAt conC_len).lookK (Below.refl _ _) hvj
      simp at e
      obtain ⟨rfl, rfl⟩ := e
      rw [Nat.zero_add] at d0 d1 d2
      have hjn' : (j : Int) < (l.length : Int) := by omega
      clear hvj
      go_wp2
      go_quiet (fail)
      go_wp2
      go_roundw
      case rel => exact ⟨j + 1, by simp, by omega, below_drewN' hB _⟩
      case measure => simp [intOf]; omega
    · have hjn' : ¬ ((j : Int) < (l.length : Int)) := by omega
      have d0 : wr.cell? ⟨g, l.length * 3, none⟩ = some (.int .u8 0) := by have := ht'.last conC_len (i := 0) (by omega) rfl; simpa using this
      have d1 : wr.cell? ⟨g, l.length * 3 + 1, none⟩ = some (.int .i64 0) := by have := ht'.last conC_len (i := 1) (by omega) rfl; simpa using this
      have d2 : wr.cell? ⟨g, l.length * 3 + 2, none⟩ = some (.string ⟨#[115, 112, 97, 114, 101]⟩) := by have := ht'.last conC_len (i := 2) (by omega) rfl; simpa using this
      go_wp2
      go_ret
      exact ⟨rfl, hB.alloc hB.size _⟩

def spInses : List Value := [.int .u8 0, .int .i64 7777]

abbrev TwInses (base g c : Nat) (l : List In) (w : World) : Prop := Twin 120 insC 2 spInses base g c l w

theorem insC_len (x : In) : (insC x).length = 2 := rfl

theorem infoInses : (Tryz.prog.info? 120).map (fun i => (i.zero, i.size, i.bytes)) = some (some (.agg #[.int .u8 0, .int .i64 0]), 2, 16) := by kernel_rfl

set_option maxRecDepth 20000 in
set_option maxHeartbeats 2000000 in
theorem twinInses_in {p : Option Addr} {l : List In} (c : Nat) (hv : RowAt insC 2 w p l) (hlen : l.length ≤ 1048576) :
    Calls Tryz.prog 182 #[.slice p l.length c] w fun e w' => ∃ g c, e = .returned (.slice (some ⟨g, 0, none⟩) l.length c) ∧ TwInses w.heap.size g c l w' ∧ Below w.heap.size w w' := by
  obtain ⟨i0, hi, hz0, hz1, hz2⟩ := info_parts infoInses
  go_enter Tryz.func182, Tryz.ntmps182
  go_wp2_with (first
    | (at_make; refine wpList_make_own w rfl _ _ 65 rfl w.heap.size 120 i0 (.agg #[.int .u8 0, .int .i64 0]) 2 Tryz.underlying65 hi hz0 hz1 .i64 .i64 _ (l.length + 1) rfl rfl (by simp) (by rw [hz2]; omega) (by unfold maxLen; omega) (Nat.le_refl _) ?_; intro w1 hown1 hgrow1))
  have hB1 : Below w.heap.size w w1 := rbelow_grown hgrow1 (fun q e => by cases e) (Nat.le_refl _)
  go_loopw [3, 4] (fun t k wr => ∃ (pre rest : List In), k = .int .i64 pre.length ∧ l = pre ++ rest ∧ wr.ownsRow w.heap.size 120 2 t pre.length (rowC insC pre) ∧ Below w.heap.size w wr) (fun _ k _ => l.length - (intOf k).toNat)
  case atStart => exact ⟨[], l, rfl, rfl, hown1, hB1⟩
  case round =>
    obtain ⟨pre, rest, rfl, hR, hrow, hB⟩ := hrel
    have hsz := hB.size
    cases rest with
    | nil =>
      have hR' : l = pre := by simpa using hR
      have hq : ¬ ((pre.length : Int) < (l.length : Int)) := by rw [hR']; omega
      rw [← hR'] at hrow
      have hpl : pre.length = l.length := by rw [hR']
      have HP : Hid _ := hpl
      clear hR hR' hpl
      go_wp2_with (first
        | (at_builtin; go_loud (refine wpList_append_own _ rfl _ _ 65 rfl w.heap.size 120 i0 (.agg #[.int .u8 0, .int .i64 0]) 2 16 Tryz.underlying65 hi hz0 hz1 hz2 rfl (by decide) _ l.length _ rfl (hrow.alloc _) ⟨wr.heap.size, 0, none⟩ 1 1 [.int .u8 0, .int .i64 7777] rfl rfl (World.news_of_block (cs := #[.int .u8 0, .int .i64 7777]) (t := 120) (fr := (0, 0)) (heap_alloc_new wr _)) (by simp [Value.oneCell']) (by unfold maxLen; omega) (by omega) (by simp; omega) ?_; intro v4 w4 hown4 hgrow4 _; obtain ⟨g4, c4, rfl⟩ := ownsRow_succ2 hown4; obtain ⟨hc4, hc5⟩ := ownsRow_cap2 hown4)))
      go_ret
      exact ⟨g4, c4, rfl, hown4, (hB.alloc hB.size _).trans (rbelow_grown hgrow4 (fun q e => (hrow.lt q e).1) (by simp; omega))⟩
    | cons x rest =>
      have hlR : pre.length < l.length := by rw [hR]; simp
      obtain ⟨b0, off, rfl, c0, c1⟩ := hv.look2 hB (j := pre.length) (x := x) (by rw [hR]; simp)
      have HR : Hid (l = pre ++ x :: rest) := hR
      have e1 : (((pre ++ [x]).length : Nat) : Int) = pre.length + 1 := by simp
      clear hR
      go_wp2_with (first
        | (at_builtin; go_loud (refine wpList_append_own _ rfl _ _ 65 rfl w.heap.size 120 i0 (.agg #[.int .u8 0, .int .i64 0]) 2 16 Tryz.underlying65 hi hz0 hz1 hz2 rfl (by decide) _ pre.length _ rfl (hrow.alloc _) ⟨wr.heap.size, 0, none⟩ 1 1 [.int .u8 x.op, .int .i64 x.a] rfl rfl (World.news_of_block (cs := #[.int .u8 x.op, .int .i64 x.a]) (t := 120) (fr := (0, 0)) (heap_alloc_new wr _)) (by simp [Value.oneCell']) (by unfold maxLen; omega) (by omega) (by simp; omega) ?_; intro v4 w4 hown4 hgrow4 _)))
      go_roundw
      case rel =>
        refine ⟨pre ++ [x], rest, by rw [e1], by have := HR.out; simpa using this, ?_, (hB.alloc hB.size _).trans (rbelow_grown hgrow4 (fun q e => (hrow.lt q e).1) (by simp; omega))⟩
        rw [rowC_append, rowC_one, show (pre ++ [x]).length = pre.length + 1 from List.length_append]
        exact hown4
      case measure => simp [intOf]; omega

set_option maxRecDepth 20000 in
set_option maxHeartbeats 2000000 in
theorem leftInses_in {base g c : Nat} {p : Option Addr} {l : List In} (cl : Nat) (ht : TwInses base g c l w) (hv : RowAt insC 2 w p l) (hlen : l.length ≤ 1048576) :
    Calls Tryz.prog 200 #[.slice (some ⟨g, 0, none⟩) l.length c, .slice p l.length cl] w fun e w' => e = .returned (.bool true) ∧ Below w.heap.size w w' := by
  obtain ⟨hc4, hc5⟩ := ownsRow_cap2 ht
  have hcb : ¬ ((c : Int) ≤ (l.length : Int)) := by omega
  go_enter Tryz.func200, Tryz.ntmps200
  go_wp2
  go_loopw [5] (fun k wr => ∃ j : Nat, k = .int .i64 j ∧ j ≤ l.length ∧ Below w.heap.size w wr) (fun k _ => l.length - (intOf k).toNat)
  case atStart => exact ⟨0, rfl, by omega, Below.refl _ _⟩
  case round =>
    obtain ⟨j, rfl, hj, hB⟩ := hrel
    have ht' : TwInses base g c l wr := ht.below hB
    by_cases hjn : j < l.length
    · obtain ⟨x, hvj⟩ : ∃ x, l[j]? = some x := ⟨l[j], by simp⟩
      obtain ⟨b0, off, rfl, c0, c1⟩ := hv.look2 hB hvj
      obtain ⟨g', off', e, d0, d1⟩ := (ht'.rowAt insC_len).look2 (Below.refl _ _) hvj
      simp at e
      obtain ⟨rfl, rfl⟩ := e
      rw [Nat.zero_add] at d0 d1
      have hjn' : (j : Int) < (l.length : Int) := by omega
      clear hvj
      go_wp2
      go_quiet (fail)
      go_wp2
      go_roundw
      case rel => exact ⟨j + 1, by simp, by omega, below_drewN' hB _⟩
      case measure => simp [intOf]; omega
    · have hjn' : ¬ ((j : Int) < (l.length : Int)) := by omega
      have d0 : wr.cell? ⟨g, l.length * 2, none⟩ = some (.int .u8 0) := by have := ht'.last insC_len (i := 0) (by omega) rfl; simpa using this
      have d1 : wr.cell? ⟨g, l.length * 2 + 1, none⟩ = some (.int .i64 7777) := by have := ht'.last insC_len (i := 1) (by omega) rfl; simpa using this
      go_wp2
      go_ret
      exact ⟨rfl, hB.alloc hB.size _⟩

def spInts : List Value := [.int .i64 7777]

abbrev TwInts (base g c : Nat) (l : List Int) (w : World) : Prop := Twin 3 linC 1 spInts base g c l w

theorem linC_len (x : Int) : (linC x).length = 1 := rfl

theorem infoInts : (Tryz.prog.info? 3).map (fun i => (i.zero, i.size, i.bytes)) = some (some (.int .i64 0), 1, 8) := by kernel_rfl

set_option maxRecDepth 20000 in
set_option maxHeartbeats 2000000 in
theorem twinInts_in {p : Option Addr} {l : List Int} (c : Nat) (hv : RowAt linC 1 w p l) (hlen : l.length ≤ 1048576) :
    Calls Tryz.prog 183 #[.slice p l.length c] w fun e w' => ∃ g c, e = .returned (.slice (some ⟨g, 0, none⟩) l.length c) ∧ TwInts w.heap.size g c l w' ∧ Below w.heap.size w w' := by
  obtain ⟨i0, hi, hz0, hz1, hz2⟩ := info_parts infoInts
  go_enter Tryz.func183, Tryz.ntmps183
  go_wp2_with (first
    | (at_make; refine wpList_make_own w rfl _ _ 26 rfl w.heap.size 3 i0 (.int .i64 0) 1 Tryz.underlying26 hi hz0 hz1 .i64 .i64 _ (l.length + 1) rfl rfl (by simp) (by rw [hz2]; omega) (by unfold maxLen; omega) (Nat.le_refl _) ?_; intro w1 hown1 hgrow1))
  have hB1 : Below w.heap.size w w1 := rbelow_grown hgrow1 (fun q e => by cases e) (Nat.le_refl _)
  go_loopw [3, 4] (fun t k wr => ∃ (pre rest : List Int), k = .int .i64 pre.length ∧ l = pre ++ rest ∧ wr.ownsRow w.heap.size 3 1 t pre.length (rowC linC pre) ∧ Below w.heap.size w wr) (fun _ k _ => l.length - (intOf k).toNat)
  case atStart => exact ⟨[], l, rfl, rfl, hown1, hB1⟩
  case round =>
    obtain ⟨pre, rest, rfl, hR, hrow, hB⟩ := hrel
    have hsz := hB.size
    cases rest with
    | nil =>
      have hR' : l = pre := by simpa using hR
      have hq : ¬ ((pre.length : Int) < (l.length : Int)) := by rw [hR']; omega
      rw [← hR'] at hrow
      have hpl : pre.length = l.length := by rw [hR']
      have HP : Hid _ := hpl
      clear hR hR' hpl
      go_wp2_with (first
        | (at_builtin; go_loud (refine wpList_append_own _ rfl _ _ 26 rfl w.heap.size 3 i0 (.int .i64 0) 1 8 Tryz.underlying26 hi hz0 hz1 hz2 rfl (by decide) _ l.length _ rfl (hrow.alloc _) ⟨wr.heap.size, 0, none⟩ 1 1 [.int .i64 7777] rfl rfl (World.news_of_block (cs := #[.int .i64 7777]) (t := 3) (fr := (0, 0)) (heap_alloc_new wr _)) (by simp [Value.oneCell']) (by unfold maxLen; omega) (by omega) (by simp; omega) ?_; intro v4 w4 hown4 hgrow4 _; obtain ⟨g4, c4, rfl⟩ := ownsRow_succ2 hown4; obtain ⟨hc4, hc5⟩ := ownsRow_cap2 hown4)))
      go_ret
      exact ⟨g4, c4, rfl, hown4, (hB.alloc hB.size _).trans (rbelow_grown hgrow4 (fun q e => (hrow.lt q e).1) (by simp; omega))⟩
    | cons x rest =>
      have hlR : pre.length < l.length := by rw [hR]; simp
      obtain ⟨b0, off, rfl, c0⟩ := hv.lookL hB (j := pre.length) (x := x) (by rw [hR]; simp)
      have HR : Hid (l = pre ++ x :: rest) := hR
      have e1 : (((pre ++ [x]).length : Nat) : Int) = pre.length + 1 := by simp
      clear hR
      go_wp2_with (first
        | (at_builtin; go_loud (refine wpList_append_own _ rfl _ _ 26 rfl w.heap.size 3 i0 (.int .i64 0) 1 8 Tryz.underlying26 hi hz0 hz1 hz2 rfl (by decide) _ pre.length _ rfl (hrow.alloc _) ⟨wr.heap.size, 0, none⟩ 1 1 [.int .i64 x] rfl rfl (World.news_of_block (cs := #[.int .i64 x]) (t := 3) (fr := (0, 0)) (heap_alloc_new wr _)) (by simp [Value.oneCell']) (by unfold maxLen; omega) (by omega) (by simp; omega) ?_; intro v4 w4 hown4 hgrow4 _)))
      go_roundw
      case rel =>
        refine ⟨pre ++ [x], rest, by rw [e1], by have := HR.out; simpa using this, ?_, (hB.alloc hB.size _).trans (rbelow_grown hgrow4 (fun q e => (hrow.lt q e).1) (by simp; omega))⟩
        rw [rowC_append, rowC_one, show (pre ++ [x]).length = pre.length + 1 from List.length_append]
        exact hown4
      case measure => simp [intOf]; omega

set_option maxRecDepth 20000 in
set_option maxHeartbeats 2000000 in
theorem leftInts_in {base g c : Nat} {p : Option Addr} {l : List Int} (cl : Nat) (ht : TwInts base g c l w) (hv : RowAt linC 1 w p l) (hlen : l.length ≤ 1048576) :
    Calls Tryz.prog 201 #[.slice (some ⟨g, 0, none⟩) l.length c, .slice p l.length cl] w fun e w' => e = .returned (.bool true) ∧ Below w.heap.size w w' := by
  obtain ⟨hc4, hc5⟩ := ownsRow_cap2 ht
  have hcb : ¬ ((c : Int) ≤ (l.length : Int)) := by omega
  go_enter Tryz.func201, Tryz.ntmps201
  go_wp2
  go_loopw [5] (fun k wr => ∃ j : Nat, k = .int .i64 j ∧ j ≤ l.length ∧ Below w.heap.size w wr) (fun k _ => l.length - (intOf k).toNat)
  case atStart => exact ⟨0, rfl, by omega, Below.refl _ _⟩
  case round =>
    obtain ⟨j, rfl, hj, hB⟩ := hrel
    have ht' : TwInts base g c l wr := ht.below hB
    by_cases hjn : j < l.length
    · obtain ⟨x, hvj⟩ : ∃ x, l[j]? = some x := ⟨l[j], by simp⟩
      obtain ⟨b0, off, rfl, c0⟩ := hv.lookL hB hvj
      obtain ⟨g', off', e, d0⟩ := (ht'.rowAt linC_len).lookL (Below.refl _ _) hvj
      simp at e
      obtain ⟨rfl, rfl⟩ := e
      rw [Nat.zero_add] at d0
      have hjn' : (j : Int) < (l.length : Int) := by omega
      clear hvj
      go_wp2
      go_region
      go_wp2
      go_roundw
      case rel => exact ⟨j + 1, by simp, by omega, below_drew hB⟩
      case measure => simp [intOf]; omega
    · have hjn' : ¬ ((j : Int) < (l.length : Int)) := by omega
      have d0 : wr.cell? ⟨g, l.length, none⟩ = some (.int .i64 7777) := by have := ht'.last linC_len (i := 0) (by omega) rfl; simpa using this
      go_wp2
      go_ret
      exact ⟨rfl, hB⟩

def spHandlers : List Value := [.int .i64 0, .int .i64 0, .int .i64 7777, .int .i64 0]

abbrev TwHandlers (base g c : Nat) (l : List Hn) (w : World) : Prop := Twin 123 hanC 4 spHandlers base g c l w

theorem hanC_len (x : Hn) : (hanC x).length = 4 := rfl

theorem infoHandlers : (Tryz.prog.info? 123).map (fun i => (i.zero, i.size, i.bytes)) = some (some (.agg #[.int .i64 0, .int .i64 0, .int .i64 0, .int .i64 0]), 4, 32) := by kernel_rfl

set_option maxRecDepth 20000 in
set_option maxHeartbeats 2000000 in
theorem twinHandlers_in {p : Option Addr} {l : List Hn} (c : Nat) (hv : RowAt hanC 4 w p l) (hlen : l.length ≤ 1048576) :
    Calls Tryz.prog 184 #[.slice p l.length c] w fun e w' => ∃ g c, e = .returned (.slice (some ⟨g, 0, none⟩) l.length c) ∧ TwHandlers w.heap.size g c l w' ∧ Below w.heap.size w w' := by
  obtain ⟨i0, hi, hz0, hz1, hz2⟩ := info_parts infoHandlers
  go_enter Tryz.func184, Tryz.ntmps184
  go_wp2_with (first
    | (at_make; refine wpList_make_own w rfl _ _ 66 rfl w.heap.size 123 i0 (.agg #[.int .i64 0, .int .i64 0, .int .i64 0, .int .i64 0]) 4 Tryz.underlying66 hi hz0 hz1 .i64 .i64 _ (l.length + 1) rfl rfl (by simp) (by rw [hz2]; omega) (by unfold maxLen; omega) (Nat.le_refl _) ?_; intro w1 hown1 hgrow1))
  have hB1 : Below w.heap.size w w1 := rbelow_grown hgrow1 (fun q e => by cases e) (Nat.le_refl _)
  go_loopw [3, 4] (fun t k wr => ∃ (pre rest : List Hn), k = .int .i64 pre.length ∧ l = pre ++ rest ∧ wr.ownsRow w.heap.size 123 4 t pre.length (rowC hanC pre) ∧ Below w.heap.size w wr) (fun _ k _ => l.length - (intOf k).toNat)
  case atStart => exact ⟨[], l, rfl, rfl, hown1, hB1⟩
  case round =>
    obtain ⟨pre, rest, rfl, hR, hrow, hB⟩ := hrel
    have hsz := hB.size
    cases rest with
    | nil =>
      have hR' : l = pre := by simpa using hR
      have hq : ¬ ((pre.length : Int) < (l.length : Int)) := by rw [hR']; omega
      rw [← hR'] at hrow
      have hpl : pre.length = l.length := by rw [hR']
      have HP : Hid _ := hpl
      clear hR hR' hpl
      go_wp2_with (first
        | (at_builtin; go_loud (refine wpList_append_own _ rfl _ _ 66 rfl w.heap.size 123 i0 (.agg #[.int .i64 0, .int .i64 0, .int .i64 0, .int .i64 0]) 4 32 Tryz.underlying66 hi hz0 hz1 hz2 rfl (by decide) _ l.length _ rfl (hrow.alloc _) ⟨wr.heap.size, 0, none⟩ 1 1 [.int .i64 0, .int .i64 0, .int .i64 7777, .int .i64 0] rfl rfl (World.news_of_block (cs := #[.int .i64 0, .int .i64 0, .int .i64 7777, .int .i64 0]) (t := 123) (fr := (0, 0)) (heap_alloc_new wr _)) (by simp [Value.oneCell']) (by unfold maxLen; omega) (by omega) (by simp; omega) ?_; intro v4 w4 hown4 hgrow4 _; obtain ⟨g4, c4, rfl⟩ := ownsRow_succ2 hown4; obtain ⟨hc4, hc5⟩ := ownsRow_cap2 hown4)))
      go_ret
      exact ⟨g4, c4, rfl, hown4, (hB.alloc hB.size _).trans (rbelow_grown hgrow4 (fun q e => (hrow.lt q e).1) (by simp; omega))⟩
    | cons x rest =>
      have hlR : pre.length < l.length := by rw [hR]; simp
      obtain ⟨b0, off, rfl, c0, c1, c2, c3⟩ := hv.lookH hB (j := pre.length) (x := x) (by rw [hR]; simp)
      have HR : Hid (l = pre ++ x :: rest) := hR
      have e1 : (((pre ++ [x]).length : Nat) : Int) = pre.length + 1 := by simp
      clear hR
      go_wp2_with (first
        | (at_builtin; go_loud (refine wpList_append_own _ rfl _ _ 66 rfl w.heap.size 123 i0 (.agg #[.int .i64 0, .int .i64 0, .int .i64 0, .int .i64 0]) 4 32 Tryz.underlying66 hi hz0 hz1 hz2 rfl (by decide) _ pre.length _ rfl (hrow.alloc _) ⟨wr.heap.size, 0, none⟩ 1 1 [.int .i64 x.fr, .int .i64 x.to, .int .i64 x.at_, .int .i64 x.deep] rfl rfl (World.news_of_block (cs := #[.int .i64 x.fr, .int .i64 x.to, .int .i64 x.at_, .int .i64 x.deep]) (t := 123) (fr := (0, 0)) (heap_alloc_new wr _)) (by simp [Value.oneCell']) (by unfold maxLen; omega) (by omega) (by simp; omega) ?_; intro v4 w4 hown4 hgrow4 _)))
      go_roundw
      case rel =>
        refine ⟨pre ++ [x], rest, by rw [e1], by have := HR.out; simpa using this, ?_, (hB.alloc hB.size _).trans (rbelow_grown hgrow4 (fun q e => (hrow.lt q e).1) (by simp; omega))⟩
        rw [rowC_append, rowC_one, show (pre ++ [x]).length = pre.length + 1 from List.length_append]
        exact hown4
      case measure => simp [intOf]; omega

set_option maxRecDepth 20000 in
set_option maxHeartbeats 2000000 in
theorem leftHandlers_in {base g c : Nat} {p : Option Addr} {l : List Hn} (cl : Nat) (ht : TwHandlers base g c l w) (hv : RowAt hanC 4 w p l) (hlen : l.length ≤ 1048576) :
    Calls Tryz.prog 202 #[.slice (some ⟨g, 0, none⟩) l.length c, .slice p l.length cl] w fun e w' => e = .returned (.bool true) ∧ Below w.heap.size w w' := by
  obtain ⟨hc4, hc5⟩ := ownsRow_cap2 ht
  have hcb : ¬ ((c : Int) ≤ (l.length : Int)) := by omega
  go_enter Tryz.func202, Tryz.ntmps202
  go_wp2
  go_loopw [5] (fun k wr => ∃ j : Nat, k = .int .i64 j ∧ j ≤ l.length ∧ Below w.heap.size w wr) (fun k _ => l.length - (intOf k).toNat)
  case atStart => exact ⟨0, rfl, by omega, Below.refl _ _⟩
  case round =>
    obtain ⟨j, rfl, hj, hB⟩ := hrel
    have ht' : TwHandlers base g c l wr := ht.below hB
    by_cases hjn : j < l.length
    · obtain ⟨x, hvj⟩ : ∃ x, l[j]? = some x := ⟨l[j], by simp⟩
      obtain ⟨b0, off, rfl, c0, c1, c2, c3⟩ := hv.lookH hB hvj
      obtain ⟨g', off', e, d0, d1, d2, d3⟩ := (ht'.rowAt hanC_len).lookH (Below.refl _ _) hvj
      simp at e
      obtain ⟨rfl, rfl⟩ := e
      rw [Nat.zero_add] at d0 d1 d2 d3
      have hjn' : (j : Int) < (l.length : Int) := by omega
      clear hvj
      go_wp2
      go_quiet (fail)
      go_wp2
      go_roundw
      case rel => exact ⟨j + 1, by simp, by omega, below_drewN' hB _⟩
      case measure => simp [intOf]; omega
    · have hjn' : ¬ ((j : Int) < (l.length : Int)) := by omega
      have d0 : wr.cell? ⟨g, l.length * 4, none⟩ = some (.int .i64 0) := by have := ht'.last hanC_len (i := 0) (by omega) rfl; simpa using this
      have d1 : wr.cell? ⟨g, l.length * 4 + 1, none⟩ = some (.int .i64 0) := by have := ht'.last hanC_len (i := 1) (by omega) rfl; simpa using this
      have d2 : wr.cell? ⟨g, l.length * 4 + 2, none⟩ = some (.int .i64 7777) := by have := ht'.last hanC_len (i := 2) (by omega) rfl; simpa using this
      have d3 : wr.cell? ⟨g, l.length * 4 + 3, none⟩ = some (.int .i64 0) := by have := ht'.last hanC_len (i := 3) (by omega) rfl; simpa using this
      go_wp2
      go_ret
      exact ⟨rfl, hB.alloc hB.size _⟩

end Go.Proofs.YtpjgdbeekmoedaaGreatDoor
