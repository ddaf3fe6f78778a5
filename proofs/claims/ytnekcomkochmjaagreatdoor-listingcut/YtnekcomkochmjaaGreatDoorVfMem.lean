/- Programs in memory: rows of elements of some cells each; functions; what is read of them. -/
import Derived.Test.YtnekcomkochmjaaGreatDoorShMem
namespace Go.Proofs.YtnekcomkochmjaaGreatDoor
set_option linter.unusedVariables false
set_option linter.unusedSimpArgs false
open Go.RowKit

/-- What a function is closed over. -/
structure Cp where
  up : Bool
  n : Int

/-- A constant. -/
structure Ck where
  k : Nat
  n : Int
  s : ByteArray

/-- An instruction. -/
structure In where
  op : Nat
  a : Int

/-- A handler. -/
structure Hn where
  fr : Int
  to : Int
  at_ : Int
  deep : Int

/-- A function. -/
structure Fm where
  name : ByteArray
  params : Int
  locals : Int
  caps : List Cp
  consts : List Ck
  code : List In
  lines : List Int
  hs : List Hn

def capC (x : Cp) : List Value := [.bool x.up, .int .i64 x.n]

def conC (x : Ck) : List Value := [.int .u8 x.k, .int .i64 x.n, .string x.s]

def insC (x : In) : List Value := [.int .u8 x.op, .int .i64 x.a]

def linC (x : Int) : List Value := [.int .i64 x]

def hanC (x : Hn) : List Value := [.int .i64 x.fr, .int .i64 x.to, .int .i64 x.at_, .int .i64 x.deep]

variable {w : World}

/-- Elements in memory, each of k cells: a slice's. -/
def RowAt {α : Type} (f : α → List Value) (k : Nat) (w : World) (p : Option Addr) (l : List α) : Prop :=
  ∀ j x, l[j]? = some x → ∃ b0 off : Nat, p = some ⟨b0, off, none⟩ ∧ b0 < w.heap.size ∧ ∀ i u, (f x)[i]? = some u → w.cell? ⟨b0, off + j * k + i, none⟩ = some u

theorem RowAt.below {α : Type} {f : α → List Value} {k : Nat} {p : Option Addr} {l : List α} (h : RowAt f k w p l) {w' : World} (hB : Below w.heap.size w w') : RowAt f k w' p l := by
  intro j x hj
  obtain ⟨b0, off, e, hlt, h1⟩ := h j x hj
  exact ⟨b0, off, e, Nat.lt_of_lt_of_le hlt hB.size, fun i u hu => (hB.cell (p := ⟨b0, off + j * k + i, none⟩) hlt).trans (h1 i u hu)⟩

theorem RowAt.nil {α : Type} (f : α → List Value) (k : Nat) (w : World) (p : Option Addr) : RowAt f k w p [] := by
  intro j x hj; simp at hj

/-- What is at a place, in a later world. -/
theorem RowAt.look {α : Type} {f : α → List Value} {k : Nat} {p : Option Addr} {l : List α} (h : RowAt f k w p l) {w' : World} (hB : Below w.heap.size w w') {j : Nat} {x : α} (hj : l[j]? = some x) :
    ∃ b0 off : Nat, p = some ⟨b0, off, none⟩ ∧ ∀ i u, (f x)[i]? = some u → w'.cell? ⟨b0, off + j * k + i, none⟩ = some u := by
  obtain ⟨b0, off, e, _, h1⟩ := h.below hB j x hj
  exact ⟨b0, off, e, h1⟩

theorem RowAt.look2 {p : Option Addr} {l : List In} (h : RowAt insC 2 w p l) {w' : World} (hB : Below w.heap.size w w') {j : Nat} {x : In} (hj : l[j]? = some x) :
    ∃ b0 off : Nat, p = some ⟨b0, off, none⟩ ∧ w'.cell? ⟨b0, off + j * 2, none⟩ = some (.int .u8 x.op) ∧ w'.cell? ⟨b0, off + j * 2 + 1, none⟩ = some (.int .i64 x.a) := by
  obtain ⟨b0, off, e, h1⟩ := h.look hB hj
  exact ⟨b0, off, e, h1 0 _ rfl, h1 1 _ rfl⟩

theorem RowAt.lookC {p : Option Addr} {l : List Cp} (h : RowAt capC 2 w p l) {w' : World} (hB : Below w.heap.size w w') {j : Nat} {x : Cp} (hj : l[j]? = some x) :
    ∃ b0 off : Nat, p = some ⟨b0, off, none⟩ ∧ w'.cell? ⟨b0, off + j * 2, none⟩ = some (.bool x.up) ∧ w'.cell? ⟨b0, off + j * 2 + 1, none⟩ = some (.int .i64 x.n) := by
  obtain ⟨b0, off, e, h1⟩ := h.look hB hj
  exact ⟨b0, off, e, h1 0 _ rfl, h1 1 _ rfl⟩

theorem RowAt.lookK {p : Option Addr} {l : List Ck} (h : RowAt conC 3 w p l) {w' : World} (hB : Below w.heap.size w w') {j : Nat} {x : Ck} (hj : l[j]? = some x) :
    ∃ b0 off : Nat, p = some ⟨b0, off, none⟩ ∧ w'.cell? ⟨b0, off + j * 3, none⟩ = some (.int .u8 x.k) ∧ w'.cell? ⟨b0, off + j * 3 + 1, none⟩ = some (.int .i64 x.n) ∧ w'.cell? ⟨b0, off + j * 3 + 2, none⟩ = some (.string x.s) := by
  obtain ⟨b0, off, e, h1⟩ := h.look hB hj
  exact ⟨b0, off, e, h1 0 _ rfl, h1 1 _ rfl, h1 2 _ rfl⟩

theorem RowAt.lookL {p : Option Addr} {l : List Int} (h : RowAt linC 1 w p l) {w' : World} (hB : Below w.heap.size w w') {j : Nat} {x : Int} (hj : l[j]? = some x) :
    ∃ b0 off : Nat, p = some ⟨b0, off, none⟩ ∧ w'.cell? ⟨b0, off + j, none⟩ = some (.int .i64 x) := by
  obtain ⟨b0, off, e, h1⟩ := h.look hB hj
  exact ⟨b0, off, e, by have := h1 0 _ rfl; simpa using this⟩

theorem RowAt.lookH {p : Option Addr} {l : List Hn} (h : RowAt hanC 4 w p l) {w' : World} (hB : Below w.heap.size w w') {j : Nat} {x : Hn} (hj : l[j]? = some x) :
    ∃ b0 off : Nat, p = some ⟨b0, off, none⟩ ∧ w'.cell? ⟨b0, off + j * 4, none⟩ = some (.int .i64 x.fr) ∧ w'.cell? ⟨b0, off + j * 4 + 1, none⟩ = some (.int .i64 x.to) ∧ w'.cell? ⟨b0, off + j * 4 + 2, none⟩ = some (.int .i64 x.at_) ∧ w'.cell? ⟨b0, off + j * 4 + 3, none⟩ = some (.int .i64 x.deep) := by
  obtain ⟨b0, off, e, h1⟩ := h.look hB hj
  exact ⟨b0, off, e, h1 0 _ rfl, h1 1 _ rfl, h1 2 _ rfl, h1 3 _ rfl⟩

/-- Where a function's lists lie. -/
structure Fs where
  qc : Option Addr
  cc : Nat
  qk : Option Addr
  ck : Nat
  qi : Option Addr
  ci : Nat
  ql : Option Addr
  cl : Nat
  qh : Option Addr
  ch : Nat

def fnC (f : Fm) (s : Fs) : List Value := [.string f.name, .int .i64 f.params, .int .i64 f.locals, .slice s.qc f.caps.length s.cc, .slice s.qk f.consts.length s.ck, .slice s.qi f.code.length s.ci, .slice s.ql f.lines.length s.cl, .slice s.qh f.hs.length s.ch]

def fnA (f : Fm) (s : Fs) : Value := .agg #[.string f.name, .int .i64 f.params, .int .i64 f.locals, .slice s.qc f.caps.length s.cc, .slice s.qk f.consts.length s.ck, .slice s.qi f.code.length s.ci, .slice s.ql f.lines.length s.cl, .slice s.qh f.hs.length s.ch]

/-- A function's lists. -/
structure FnAt (w : World) (f : Fm) (s : Fs) : Prop where
  caps : RowAt capC 2 w s.qc f.caps
  consts : RowAt conC 3 w s.qk f.consts
  code : RowAt insC 2 w s.qi f.code
  lines : RowAt linC 1 w s.ql f.lines
  hs : RowAt hanC 4 w s.qh f.hs

theorem FnAt.below {f : Fm} {s : Fs} (h : FnAt w f s) {w' : World} (hB : Below w.heap.size w w') : FnAt w' f s :=
  ⟨h.caps.below hB, h.consts.below hB, h.code.below hB, h.lines.below hB, h.hs.below hB⟩

/-- A program in memory. -/
def IsFns (w : World) (p : Option Addr) (l : List Fm) : Prop :=
  ∀ j f, l[j]? = some f → ∃ (b0 off : Nat) (s : Fs), p = some ⟨b0, off, none⟩ ∧ b0 < w.heap.size ∧ (∀ i u, (fnC f s)[i]? = some u → w.cell? ⟨b0, off + j * 8 + i, none⟩ = some u) ∧ FnAt w f s

theorem IsFns.below {p : Option Addr} {l : List Fm} (h : IsFns w p l) {w' : World} (hB : Below w.heap.size w w') : IsFns w' p l := by
  intro j f hj
  obtain ⟨b0, off, s, e, hlt, h1, h2⟩ := h j f hj
  exact ⟨b0, off, s, e, Nat.lt_of_lt_of_le hlt hB.size, fun i u hu => (hB.cell (p := ⟨b0, off + j * 8 + i, none⟩) hlt).trans (h1 i u hu), h2.below hB⟩

theorem IsFns.look {p : Option Addr} {l : List Fm} (h : IsFns w p l) {w' : World} (hB : Below w.heap.size w w') {j : Nat} {f : Fm} (hj : l[j]? = some f) :
    ∃ (b0 off : Nat) (s : Fs), p = some ⟨b0, off, none⟩ ∧ FnAt w' f s ∧ w'.cell? ⟨b0, off + j * 8, none⟩ = some (.string f.name) ∧ w'.cell? ⟨b0, off + j * 8 + 1, none⟩ = some (.int .i64 f.params) ∧ w'.cell? ⟨b0, off + j * 8 + 2, none⟩ = some (.int .i64 f.locals) ∧ w'.cell? ⟨b0, off + j * 8 + 3, none⟩ = some (.slice s.qc f.caps.length s.cc) ∧ w'.cell? ⟨b0, off + j * 8 + 4, none⟩ = some (.slice s.qk f.consts.length s.ck) ∧ w'.cell? ⟨b0, off + j * 8 + 5, none⟩ = some (.slice s.qi f.code.length s.ci) ∧ w'.cell? ⟨b0, off + j * 8 + 6, none⟩ = some (.slice s.ql f.lines.length s.cl) ∧ w'.cell? ⟨b0, off + j * 8 + 7, none⟩ = some (.slice s.qh f.hs.length s.ch) := by
  obtain ⟨b0, off, s, e, _, h1, h2⟩ := h.below hB j f hj
  exact ⟨b0, off, s, e, h2, h1 0 _ rfl, h1 1 _ rfl, h1 2 _ rfl, h1 3 _ rfl, h1 4 _ rfl, h1 5 _ rfl, h1 6 _ rfl, h1 7 _ rfl⟩

theorem IsFns.look0 {p : Option Addr} {l : List Fm} (h : IsFns w p l) {j : Nat} {f : Fm} (hj : l[j]? = some f) :
    ∃ (b0 off : Nat) (s : Fs), p = some ⟨b0, off, none⟩ ∧ FnAt w f s ∧ ∀ w', Below w.heap.size w w' → (w'.cell? ⟨b0, off + j * 8, none⟩ = some (.string f.name) ∧ w'.cell? ⟨b0, off + j * 8 + 1, none⟩ = some (.int .i64 f.params) ∧ w'.cell? ⟨b0, off + j * 8 + 2, none⟩ = some (.int .i64 f.locals) ∧ w'.cell? ⟨b0, off + j * 8 + 3, none⟩ = some (.slice s.qc f.caps.length s.cc) ∧ w'.cell? ⟨b0, off + j * 8 + 4, none⟩ = some (.slice s.qk f.consts.length s.ck) ∧ w'.cell? ⟨b0, off + j * 8 + 5, none⟩ = some (.slice s.qi f.code.length s.ci) ∧ w'.cell? ⟨b0, off + j * 8 + 6, none⟩ = some (.slice s.ql f.lines.length s.cl) ∧ w'.cell? ⟨b0, off + j * 8 + 7, none⟩ = some (.slice s.qh f.hs.length s.ch)) := by
  obtain ⟨b0, off, s, e, hlt, h1, h2⟩ := h j f hj
  refine ⟨b0, off, s, e, h2, fun w' hB => ?_⟩
  have h3 : ∀ i u, (fnC f s)[i]? = some u → w'.cell? ⟨b0, off + j * 8 + i, none⟩ = some u := fun i u hu => (hB.cell (p := ⟨b0, off + j * 8 + i, none⟩) hlt).trans (h1 i u hu)
  exact ⟨h3 0 _ rfl, h3 1 _ rfl, h3 2 _ rfl, h3 3 _ rfl, h3 4 _ rfl, h3 5 _ rfl, h3 6 _ rfl, h3 7 _ rfl⟩

theorem cell_row8 {W : World} {g : Nat} {a b c d e f h i : Value} {t : TypeId} (hh : W.heap[g]? = some (.cells #[a, b, c, d, e, f, h, i] t (0, 0))) :
    (W.cell? ⟨g, 0, none⟩ = some a ∧ W.cell? ⟨g, 1, none⟩ = some b ∧ W.cell? ⟨g, 2, none⟩ = some c ∧ W.cell? ⟨g, 3, none⟩ = some d ∧ W.cell? ⟨g, 4, none⟩ = some e ∧ W.cell? ⟨g, 5, none⟩ = some f ∧ W.cell? ⟨g, 6, none⟩ = some h ∧ W.cell? ⟨g, 7, none⟩ = some i) ∧ (W.frozen? ⟨g, 0, none⟩ = false ∧ W.frozen? ⟨g, 1, none⟩ = false ∧ W.frozen? ⟨g, 2, none⟩ = false ∧ W.frozen? ⟨g, 3, none⟩ = false ∧ W.frozen? ⟨g, 4, none⟩ = false ∧ W.frozen? ⟨g, 5, none⟩ = false ∧ W.frozen? ⟨g, 6, none⟩ = false ∧ W.frozen? ⟨g, 7, none⟩ = false) :=
  ⟨⟨by rw [cell_of_row W g 0 _ _ _ hh]; rfl, by rw [cell_of_row W g 1 _ _ _ hh]; rfl, by rw [cell_of_row W g 2 _ _ _ hh]; rfl, by rw [cell_of_row W g 3 _ _ _ hh]; rfl, by rw [cell_of_row W g 4 _ _ _ hh]; rfl, by rw [cell_of_row W g 5 _ _ _ hh]; rfl, by rw [cell_of_row W g 6 _ _ _ hh]; rfl, by rw [cell_of_row W g 7 _ _ _ hh]; rfl⟩, frozen_of_row W g 0 _ _ hh, frozen_of_row W g 1 _ _ hh, frozen_of_row W g 2 _ _ hh, frozen_of_row W g 3 _ _ hh, frozen_of_row W g 4 _ _ hh, frozen_of_row W g 5 _ _ hh, frozen_of_row W g 6 _ _ hh, frozen_of_row W g 7 _ _ hh⟩

theorem cell_row4 {W : World} {g : Nat} {a b c d : Value} {t : TypeId} (h : W.heap[g]? = some (.cells #[a, b, c, d] t (0, 0))) :
    (W.cell? ⟨g, 0, none⟩ = some a ∧ W.cell? ⟨g, 1, none⟩ = some b ∧ W.cell? ⟨g, 2, none⟩ = some c ∧ W.cell? ⟨g, 3, none⟩ = some d) ∧ (W.frozen? ⟨g, 0, none⟩ = false ∧ W.frozen? ⟨g, 1, none⟩ = false ∧ W.frozen? ⟨g, 2, none⟩ = false ∧ W.frozen? ⟨g, 3, none⟩ = false) :=
  ⟨⟨by rw [cell_of_row W g 0 _ _ _ h]; rfl, by rw [cell_of_row W g 1 _ _ _ h]; rfl, by rw [cell_of_row W g 2 _ _ _ h]; rfl, by rw [cell_of_row W g 3 _ _ _ h]; rfl⟩, frozen_of_row W g 0 _ _ h, frozen_of_row W g 1 _ _ h, frozen_of_row W g 2 _ _ h, frozen_of_row W g 3 _ _ h⟩

theorem cell_row3 {W : World} {g : Nat} {a b c : Value} {t : TypeId} (h : W.heap[g]? = some (.cells #[a, b, c] t (0, 0))) :
    (W.cell? ⟨g, 0, none⟩ = some a ∧ W.cell? ⟨g, 1, none⟩ = some b ∧ W.cell? ⟨g, 2, none⟩ = some c) ∧ (W.frozen? ⟨g, 0, none⟩ = false ∧ W.frozen? ⟨g, 1, none⟩ = false ∧ W.frozen? ⟨g, 2, none⟩ = false) :=
  ⟨⟨by rw [cell_of_row W g 0 _ _ _ h]; rfl, by rw [cell_of_row W g 1 _ _ _ h]; rfl, by rw [cell_of_row W g 2 _ _ _ h]; rfl⟩, frozen_of_row W g 0 _ _ h, frozen_of_row W g 1 _ _ h, frozen_of_row W g 2 _ _ h⟩

theorem cell_row2 {W : World} {g : Nat} {a b : Value} {t : TypeId} (h : W.heap[g]? = some (.cells #[a, b] t (0, 0))) :
    (W.cell? ⟨g, 0, none⟩ = some a ∧ W.cell? ⟨g, 1, none⟩ = some b) ∧ (W.frozen? ⟨g, 0, none⟩ = false ∧ W.frozen? ⟨g, 1, none⟩ = false) :=
  ⟨⟨by rw [cell_of_row W g 0 _ _ _ h]; rfl, by rw [cell_of_row W g 1 _ _ _ h]; rfl⟩, frozen_of_row W g 0 _ _ h, frozen_of_row W g 1 _ _ h⟩

end Go.Proofs.YtnekcomkochmjaaGreatDoor
