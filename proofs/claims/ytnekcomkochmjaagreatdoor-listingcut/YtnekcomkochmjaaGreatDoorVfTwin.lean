/- Copies of lists of a function, with room behind, and that they were left as they were. -/
import Derived.Test.YtnekcomkochmjaaGreatDoorVfMem
import Derived.Deep.AppendLies
import Derived.Deep.RegionLaw
import Derived.Laws.AppendOwnNone
import Derived.BigQuiet
namespace Go.Proofs.YtnekcomkochmjaaGreatDoor
set_option linter.unusedVariables false
set_option linter.unusedSimpArgs false
open Go.RowKit

variable {w : World}

/-- Elements, flat. -/
def rowC {α : Type} (f : α → List Value) : List α → List Value
  | [] => []
  | x :: r => f x ++ rowC f r

theorem rowC_append {α : Type} (f : α → List Value) : ∀ (l r : List α), rowC f (l ++ r) = rowC f l ++ rowC f r
  | [], _ => rfl
  | x :: l, r => by simp [rowC, rowC_append f l r]

theorem rowC_one {α : Type} (f : α → List Value) (x : α) : rowC f [x] = f x := by simp [rowC]

theorem rowC_get {α : Type} {f : α → List Value} {k : Nat} (hf : ∀ x, (f x).length = k) : ∀ (l : List α) (j : Nat) (x : α) (t : List Value), l[j]? = some x → ∀ i, i < k → (rowC f l ++ t)[j * k + i]? = (f x)[i]?
  | [], j, x, t, h => by simp at h
  | u :: r, 0, x, t, h => by
    simp at h; subst h
    intro i hi
    simp only [rowC, List.append_assoc]
    rw [List.getElem?_append_left (by rw [hf]; omega)]
    congr 1; omega
  | u :: r, j + 1, x, t, h => by
    intro i hi
    have := rowC_get hf r j x t (by simpa using h) i hi
    rw [← this]
    simp only [rowC, List.append_assoc]
    have e : (j + 1) * k + i = k + (j * k + i) := by rw [Nat.add_mul]; omega
    rw [List.getElem?_append_right (by rw [hf, e]; omega), hf, e]
    congr 1
    omega

theorem rowC_len {α : Type} {f : α → List Value} {k : Nat} (hf : ∀ x, (f x).length = k) : ∀ (l : List α), (rowC f l).length = l.length * k
  | [] => by simp [rowC]
  | x :: r => by simp [rowC, hf, rowC_len hf r, Nat.add_mul]; omega

theorem ownsRow_succ2 {w : World} {base e k n : Nat} {v : Value} {xs : List Value} (h : w.ownsRow base e k v (n + 1) xs) : ∃ g c, v = .slice (some ⟨g, 0, none⟩) (n + 1) c := by
  rcases h.2 with ⟨_, h0⟩ | ⟨g, cap, cur, rfl, _⟩
  · omega
  · exact ⟨g, cap, rfl⟩

theorem ownsRow_cap2 {w : World} {base e k n g c : Nat} {xs : List Value} (h : w.ownsRow base e k (.slice (some ⟨g, 0, none⟩) (n + 1) c) (n + 1) xs) : n + 1 ≤ c ∧ c ≤ maxLen := by
  rcases h.2 with ⟨h0, _⟩ | ⟨g', cap, cur, e, _, _, h1, h2, _⟩
  · simp at h0
  · simp at e; obtain ⟨rfl, rfl⟩ := e; exact ⟨h1, h2⟩

/-- A copy with a spare element behind. -/
def Twin {α : Type} (T : TypeId) (f : α → List Value) (k : Nat) (sp : List Value) (base g c : Nat) (l : List α) (w : World) : Prop := w.ownsRow base T k (.slice (some ⟨g, 0, none⟩) (l.length + 1) c) (l.length + 1) (rowC f l ++ sp)

theorem Twin.rowAt {α : Type} {T : TypeId} {f : α → List Value} {k : Nat} {sp : List Value} {base g c : Nat} {l : List α} (hf : ∀ x, (f x).length = k) (h : Twin T f k sp base g c l w) : RowAt f k w (some ⟨g, 0, none⟩) l := by
  intro j x hj
  refine ⟨g, 0, rfl, (World.ownsRow.lt h g rfl).2, fun i u hu => ?_⟩
  have hlt := (List.getElem?_eq_some_iff.1 hj).1
  have hi : i < k := by rw [← hf x]; exact (List.getElem?_eq_some_iff.1 hu).1
  rw [Nat.zero_add, World.ownsRow.cellAt h _ (by
    have : (j + 1) * k ≤ (l.length + 1) * k := Nat.mul_le_mul_right _ (by omega)
    rw [Nat.add_mul] at this; omega), rowC_get hf l j x sp hj i hi]
  exact hu

theorem Twin.kept {α : Type} {T : TypeId} {f : α → List Value} {k : Nat} {sp : List Value} {base g c : Nat} {l : List α} (h : Twin T f k sp base g c l w) {w' : World} (hk : w'.heap[g]? = w.heap[g]?) : Twin T f k sp base g c l w' :=
  row_kept h (fun k e => by simp [Value.ownBlock] at e; subst e; exact hk)

theorem Twin.lt {α : Type} {T : TypeId} {f : α → List Value} {k : Nat} {sp : List Value} {base g c : Nat} {l : List α} (h : Twin T f k sp base g c l w) : base ≤ g ∧ g < w.heap.size := World.ownsRow.lt h g rfl

theorem Twin.below {α : Type} {T : TypeId} {f : α → List Value} {k : Nat} {sp : List Value} {base g c : Nat} {l : List α} (h : Twin T f k sp base g c l w) {w' : World} (hB : Below w.heap.size w w') : Twin T f k sp base g c l w' := h.kept (hB.block g h.lt.2)

theorem Twin.obj {α : Type} {T : TypeId} {f : α → List Value} {k : Nat} {sp : List Value} {base g c : Nat} {l : List α} (h : Twin T f k sp base g c l w) : ∃ cur, w.heap[g]? = some (.cells cur T (0, 0)) := row_obj h rfl

theorem Twin.mono {α : Type} {T : TypeId} {f : α → List Value} {k : Nat} {sp : List Value} {base base' g c : Nat} {l : List α} (h : Twin T f k sp base g c l w) (hb : base' ≤ base) : Twin T f k sp base' g c l w := row_mono2 h hb

theorem Twin.last {α : Type} {T : TypeId} {f : α → List Value} {k : Nat} {sp : List Value} {base g c : Nat} {l : List α} (hf : ∀ x, (f x).length = k) (h : Twin T f k sp base g c l w) {i : Nat} {u : Value} (hi : i < k) (hu : sp[i]? = some u) : w.cell? ⟨g, l.length * k + i, none⟩ = some u := by
  rw [World.ownsRow.cellAt h _ (by rw [Nat.add_mul]; omega), List.getElem?_append_right (by rw [rowC_len hf]; omega), rowC_len hf]
  rw [show l.length * k + i - l.length * k = i by omega]; exact hu

theorem info_parts {P : Program} {t : TypeId} {z : Value} {s b : Nat} (h : (P.info? t).map (fun i => (i.zero, i.size, i.bytes)) = some (some z, s, b)) : ∃ i, P.info? t = some i ∧ i.zero = some z ∧ i.size = s ∧ i.bytes = b := by
  cases hi : P.info? t with
  | none => rw [hi] at h; simp at h
  | some i => rw [hi] at h; simp at h; exact ⟨i, rfl, h.1, h.2.1, h.2.2⟩

def spCaps : List Value := [.bool false, .int .i64 7777]

abbrev TwCaps (base g c : Nat) (l : List Cp) (w : World) : Prop := Twin 72 capC 2 spCaps base g c l w

theorem capC_len (x : Cp) : (capC x).length = 2 := rfl

theorem infoCaps : (Tryz.prog.info? 72).map (fun i => (i.zero, i.size, i.bytes)) = some (some (.agg #[.bool false, .int .i64 0]), 2, 16) := by kernel_rfl

def spConsts : List Value := [.int .u8 0, .int .i64 0, .string ⟨#[115, 112, 97, 114, 101]⟩]

abbrev TwConsts (base g c : Nat) (l : List Ck) (w : World) : Prop := Twin 75 conC 3 spConsts base g c l w

theorem conC_len (x : Ck) : (conC x).length = 3 := rfl

theorem infoConsts : (Tryz.prog.info? 75).map (fun i => (i.zero, i.size, i.bytes)) = some (some (.agg #[.int .u8 0, .int .i64 0, .string ⟨#[]⟩]), 3, 32) := by kernel_rfl

def spInses : List Value := [.int .u8 0, .int .i64 7777]

abbrev TwInses (base g c : Nat) (l : List In) (w : World) : Prop := Twin 38 insC 2 spInses base g c l w

theorem insC_len (x : In) : (insC x).length = 2 := rfl

theorem infoInses : (Tryz.prog.info? 38).map (fun i => (i.zero, i.size, i.bytes)) = some (some (.agg #[.int .u8 0, .int .i64 0]), 2, 16) := by kernel_rfl

def spInts : List Value := [.int .i64 7777]

abbrev TwInts (base g c : Nat) (l : List Int) (w : World) : Prop := Twin 3 linC 1 spInts base g c l w

theorem linC_len (x : Int) : (linC x).length = 1 := rfl

theorem infoInts : (Tryz.prog.info? 3).map (fun i => (i.zero, i.size, i.bytes)) = some (some (.int .i64 0), 1, 8) := by kernel_rfl

def spHandlers : List Value := [.int .i64 0, .int .i64 0, .int .i64 7777, .int .i64 0]

abbrev TwHandlers (base g c : Nat) (l : List Hn) (w : World) : Prop := Twin 78 hanC 4 spHandlers base g c l w

theorem hanC_len (x : Hn) : (hanC x).length = 4 := rfl

theorem infoHandlers : (Tryz.prog.info? 78).map (fun i => (i.zero, i.size, i.bytes)) = some (some (.agg #[.int .i64 0, .int .i64 0, .int .i64 0, .int .i64 0]), 4, 32) := by kernel_rfl

end Go.Proofs.YtnekcomkochmjaaGreatDoor
