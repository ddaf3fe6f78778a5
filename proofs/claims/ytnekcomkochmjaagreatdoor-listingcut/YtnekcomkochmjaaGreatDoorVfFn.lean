/- Copies of functions and programs, and that they were left as they were. -/
import Derived.Test.YtnekcomkochmjaaGreatDoorVfTwin
namespace Go.Proofs.YtnekcomkochmjaaGreatDoor
set_option linter.unusedVariables false
set_option linter.unusedSimpArgs false
open Go.RowKit

variable {w : World}

theorem infoF : (Tryz.prog.info? 45).map (·.size) = some 8 := by kernel_rfl

theorem infoFn : (Tryz.prog.info? 45).map (fun i => (i.zero, i.size, i.bytes)) = some (some (.agg #[.string ⟨#[]⟩, .int .i64 0, .int .i64 0, .slice none 0 0, .slice none 0 0, .slice none 0 0, .slice none 0 0, .slice none 0 0]), 8, 152) := by kernel_rfl

theorem set8_row {W : World} {g : Nat} {a0 a1 a2 a3 a4 a5 a6 a7 x0 x1 x2 x3 x4 x5 x6 x7 : Value} {t : TypeId} (h : W.heap[g]? = some (.cells #[a0, a1, a2, a3, a4, a5, a6, a7] t (0, 0))) : ((((((((W.setCell ⟨g, 0, none⟩ x0).setCell ⟨g, 1, none⟩ x1).setCell ⟨g, 2, none⟩ x2).setCell ⟨g, 3, none⟩ x3).setCell ⟨g, 4, none⟩ x4).setCell ⟨g, 5, none⟩ x5).setCell ⟨g, 6, none⟩ x6).setCell ⟨g, 7, none⟩ x7).heap[g]? = some (.cells #[x0, x1, x2, x3, x4, x5, x6, x7] t (0, 0)) := by
  have h1 := heap_setCell_same W g 0 _ t x0 h
  have h2 := heap_setCell_same _ g 1 _ t x1 h1
  have h3 := heap_setCell_same _ g 2 _ t x2 h2
  have h4 := heap_setCell_same _ g 3 _ t x3 h3
  have h5 := heap_setCell_same _ g 4 _ t x4 h4
  have h6 := heap_setCell_same _ g 5 _ t x5 h5
  have h7 := heap_setCell_same _ g 6 _ t x6 h6
  have h8 := heap_setCell_same _ g 7 _ t x7 h7
  simpa using h8

theorem heap_set8 {W : World} {g k : Nat} {x0 x1 x2 x3 x4 x5 x6 x7 : Value} (h : k ≠ g) : ((((((((W.setCell ⟨g, 0, none⟩ x0).setCell ⟨g, 1, none⟩ x1).setCell ⟨g, 2, none⟩ x2).setCell ⟨g, 3, none⟩ x3).setCell ⟨g, 4, none⟩ x4).setCell ⟨g, 5, none⟩ x5).setCell ⟨g, 6, none⟩ x6).setCell ⟨g, 7, none⟩ x7).heap[k]? = W.heap[k]? := by
  rw [heap_setCell_other _ ⟨g, 7, none⟩ _ _ h, heap_setCell_other _ ⟨g, 6, none⟩ _ _ h, heap_setCell_other _ ⟨g, 5, none⟩ _ _ h, heap_setCell_other _ ⟨g, 4, none⟩ _ _ h, heap_setCell_other _ ⟨g, 3, none⟩ _ _ h, heap_setCell_other _ ⟨g, 2, none⟩ _ _ h, heap_setCell_other _ ⟨g, 1, none⟩ _ _ h, heap_setCell_other _ ⟨g, 0, none⟩ _ _ h]

theorem cell_set8 {W : World} {g : Nat} {x0 x1 x2 x3 x4 x5 x6 x7 : Value} {a : Addr} (h : a.block ≠ g) : ((((((((W.setCell ⟨g, 0, none⟩ x0).setCell ⟨g, 1, none⟩ x1).setCell ⟨g, 2, none⟩ x2).setCell ⟨g, 3, none⟩ x3).setCell ⟨g, 4, none⟩ x4).setCell ⟨g, 5, none⟩ x5).setCell ⟨g, 6, none⟩ x6).setCell ⟨g, 7, none⟩ x7).cell? a = W.cell? a := World.cell?_of_block (heap_set8 h)

theorem below_set8 {n : Nat} {w W : World} (h : Below n w W) {g : Nat} (hg : n ≤ g) (x0 x1 x2 x3 x4 x5 x6 x7 : Value) : Below n w ((((((((W.setCell ⟨g, 0, none⟩ x0).setCell ⟨g, 1, none⟩ x1).setCell ⟨g, 2, none⟩ x2).setCell ⟨g, 3, none⟩ x3).setCell ⟨g, 4, none⟩ x4).setCell ⟨g, 5, none⟩ x5).setCell ⟨g, 6, none⟩ x6).setCell ⟨g, 7, none⟩ x7) :=
  below_set (below_set (below_set (below_set (below_set (below_set (below_set (below_set h hg _) hg _) hg _) hg _) hg _) hg _) hg _) hg _

/-- How great the lists of a function are. -/
structure Small (f : Fm) : Prop where
  caps : f.caps.length ≤ 1048576
  consts : f.consts.length ≤ 1048576
  code : f.code.length ≤ 1048576
  lines : f.lines.length ≤ 1048576
  hs : f.hs.length ≤ 1048576

/-- A copied function. -/
structure TwFn (base : Nat) (f : Fm) (s : Fs) (w : World) : Prop where
  caps : ∃ g, s.qc = some ⟨g, 0, none⟩ ∧ TwCaps base g s.cc f.caps w
  consts : ∃ g, s.qk = some ⟨g, 0, none⟩ ∧ TwConsts base g s.ck f.consts w
  code : ∃ g, s.qi = some ⟨g, 0, none⟩ ∧ TwInses base g s.ci f.code w
  lines : ∃ g, s.ql = some ⟨g, 0, none⟩ ∧ TwInts base g s.cl f.lines w
  hs : ∃ g, s.qh = some ⟨g, 0, none⟩ ∧ TwHandlers base g s.ch f.hs w

theorem TwFn.kept {base : Nat} {f : Fm} {s : Fs} (h : TwFn base f s w) {w' : World} (hk : ∀ g cur t, base ≤ g → w.heap[g]? = some (.cells cur t (0, 0)) → t ≠ 45 → w'.heap[g]? = w.heap[g]?) : TwFn base f s w' := by
  obtain ⟨⟨g0, e0, h0⟩, ⟨g1, e1, h1⟩, ⟨g2, e2, h2⟩, ⟨g3, e3, h3⟩, ⟨g4, e4, h4⟩⟩ := h
  refine ⟨⟨g0, e0, h0.kept ?_⟩, ⟨g1, e1, h1.kept ?_⟩, ⟨g2, e2, h2.kept ?_⟩, ⟨g3, e3, h3.kept ?_⟩, ⟨g4, e4, h4.kept ?_⟩⟩
  · obtain ⟨cur, hc⟩ := h0.obj; exact hk _ _ _ h0.lt.1 hc (by decide)
  · obtain ⟨cur, hc⟩ := h1.obj; exact hk _ _ _ h1.lt.1 hc (by decide)
  · obtain ⟨cur, hc⟩ := h2.obj; exact hk _ _ _ h2.lt.1 hc (by decide)
  · obtain ⟨cur, hc⟩ := h3.obj; exact hk _ _ _ h3.lt.1 hc (by decide)
  · obtain ⟨cur, hc⟩ := h4.obj; exact hk _ _ _ h4.lt.1 hc (by decide)

theorem TwFn.below {base : Nat} {f : Fm} {s : Fs} (h : TwFn base f s w) {w' : World} (hB : Below w.heap.size w w') : TwFn base f s w' :=
  h.kept (fun g cur t _ hc _ => hB.block g (Array.getElem?_eq_some_iff.1 hc).1)

theorem TwFn.mono {base base' : Nat} {f : Fm} {s : Fs} (h : TwFn base f s w) (hb : base' ≤ base) : TwFn base' f s w := by
  obtain ⟨⟨g0, e0, h0⟩, ⟨g1, e1, h1⟩, ⟨g2, e2, h2⟩, ⟨g3, e3, h3⟩, ⟨g4, e4, h4⟩⟩ := h
  exact ⟨⟨g0, e0, h0.mono hb⟩, ⟨g1, e1, h1.mono hb⟩, ⟨g2, e2, h2.mono hb⟩, ⟨g3, e3, h3.mono hb⟩, ⟨g4, e4, h4.mono hb⟩⟩

theorem TwFn.at {base : Nat} {f : Fm} {s : Fs} (h : TwFn base f s w) : FnAt w f s := by
  obtain ⟨⟨g0, e0, h0⟩, ⟨g1, e1, h1⟩, ⟨g2, e2, h2⟩, ⟨g3, e3, h3⟩, ⟨g4, e4, h4⟩⟩ := h
  refine ⟨?_, ?_, ?_, ?_, ?_⟩
  · rw [e0]; exact h0.rowAt capC_len
  · rw [e1]; exact h1.rowAt conC_len
  · rw [e2]; exact h2.rowAt insC_len
  · rw [e3]; exact h3.rowAt linC_len
  · rw [e4]; exact h4.rowAt hanC_len

end Go.Proofs.YtnekcomkochmjaaGreatDoor
