/- A store in memory: objects and their values; what a row of one's own keeps. -/
import Derived.Test.YtnekcomkochmjaaGreatDoorRows
import Derived.RowKit
import Derived.WalkKit
import Derived.WalkSpells
import Derived.WalkLawsBesides
import Derived.Deep.RegionHeld3
import Derived.Laws.ResultCell
namespace Go.Proofs.YtnekcomkochmjaaGreatDoor
set_option linter.unusedVariables false
set_option linter.unusedSimpArgs false
open Go.RowKit

/-- A value, plainly. -/
structure Vl where
  k : Nat
  n : Int

/-- An object, plainly. -/
structure Om where
  k : Nat
  s : ByteArray
  l : List Vl
  room : Int
  fn : Int

variable {w : World}

theorem hid {p : Prop} (h : p) : Hid p := h

/-- Values in memory: a slice's. -/
def Vals (w : World) (p : Option Addr) (vs : List Vl) : Prop :=
  ∀ j v, vs[j]? = some v → ∃ b0 off : Nat, p = some ⟨b0, off, none⟩ ∧ w.cell? ⟨b0, off + j * 2, none⟩ = some (.int .u8 v.k) ∧ w.cell? ⟨b0, off + j * 2 + 1, none⟩ = some (.int .i64 v.n)

theorem Vals.below {p : Option Addr} {vs : List Vl} (h : Vals w p vs) {w' : World} (hB : Below w.heap.size w w') : Vals w' p vs := by
  intro j v hj
  obtain ⟨b0, off, e, h1, h2⟩ := h j v hj
  have hlt := World.block_lt_of_cell? w _ h1
  exact ⟨b0, off, e, (hB.cell (p := ⟨b0, off + j * 2, none⟩) hlt).trans h1, (hB.cell (p := ⟨b0, off + j * 2 + 1, none⟩) hlt).trans h2⟩

/-- Objects in memory: a store. -/
def IsSt (w : World) (p : Option Addr) (S : List Om) : Prop :=
  ∀ j o, S[j]? = some o → ∃ b0 off : Nat, p = some ⟨b0, off, none⟩ ∧ w.cell? ⟨b0, off + j * 5, none⟩ = some (.int .u8 o.k) ∧ w.cell? ⟨b0, off + j * 5 + 1, none⟩ = some (.string o.s) ∧
    (∃ q c, w.cell? ⟨b0, off + j * 5 + 2, none⟩ = some (.slice q o.l.length c) ∧ Vals w q o.l ∧ (q = none → c = 0)) ∧ w.cell? ⟨b0, off + j * 5 + 3, none⟩ = some (.int .i64 o.room) ∧ w.cell? ⟨b0, off + j * 5 + 4, none⟩ = some (.int .i64 o.fn)

theorem IsSt.below {p : Option Addr} {S : List Om} (h : IsSt w p S) {w' : World} (hB : Below w.heap.size w w') : IsSt w' p S := by
  intro j o hj
  obtain ⟨b0, off, e, h1, h2, ⟨q, c, h3, hv⟩, h4, h5⟩ := h j o hj
  have hlt := World.block_lt_of_cell? w _ h1
  exact ⟨b0, off, e, (hB.cell (p := ⟨b0, off + j * 5, none⟩) hlt).trans h1, (hB.cell (p := ⟨b0, off + j * 5 + 1, none⟩) hlt).trans h2, ⟨q, c, (hB.cell (p := ⟨b0, off + j * 5 + 2, none⟩) hlt).trans h3, ⟨hv.1.below hB, hv.2⟩⟩, (hB.cell (p := ⟨b0, off + j * 5 + 3, none⟩) hlt).trans h4, (hB.cell (p := ⟨b0, off + j * 5 + 4, none⟩) hlt).trans h5⟩

theorem IsSt.look {p : Option Addr} {S : List Om} (h : IsSt w p S) {w' : World} (hB : Below w.heap.size w w') {j : Nat} {o : Om} (hj : S[j]? = some o) :
    ∃ b0 off : Nat, p = some ⟨b0, off, none⟩ ∧ w'.cell? ⟨b0, off + j * 5, none⟩ = some (.int .u8 o.k) ∧ w'.cell? ⟨b0, off + j * 5 + 1, none⟩ = some (.string o.s) ∧
    (∃ q c, w'.cell? ⟨b0, off + j * 5 + 2, none⟩ = some (.slice q o.l.length c) ∧ Vals w q o.l ∧ (q = none → c = 0)) ∧ w'.cell? ⟨b0, off + j * 5 + 3, none⟩ = some (.int .i64 o.room) ∧ w'.cell? ⟨b0, off + j * 5 + 4, none⟩ = some (.int .i64 o.fn) := by
  obtain ⟨b0, off, e, h1, h2, ⟨q, c, h3, hv⟩, h4, h5⟩ := h j o hj
  have hlt := World.block_lt_of_cell? w _ h1
  exact ⟨b0, off, e, (hB.cell (p := ⟨b0, off + j * 5, none⟩) hlt).trans h1, (hB.cell (p := ⟨b0, off + j * 5 + 1, none⟩) hlt).trans h2, ⟨q, c, (hB.cell (p := ⟨b0, off + j * 5 + 2, none⟩) hlt).trans h3, hv⟩, (hB.cell (p := ⟨b0, off + j * 5 + 3, none⟩) hlt).trans h4, (hB.cell (p := ⟨b0, off + j * 5 + 4, none⟩) hlt).trans h5⟩

theorem below1 (w : World) (o : Obj) : Below w.heap.size w (w.alloc o) := (Below.refl _ _).alloc (Nat.le_refl _) _

theorem below2' (w : World) (o1 o2 : Obj) : Below w.heap.size w ((w.alloc o1).alloc o2) := (below1 w o1).alloc (by simp) _

theorem below3' (w : World) (o1 o2 o3 : Obj) : Below w.heap.size w (((w.alloc o1).alloc o2).alloc o3) := (below2' w o1 o2).alloc (by simp; omega) _

theorem below_drew {n : Nat} {w w1 : World} (h : Below n w w1) : Below n w w1.drew := ⟨h.os, h.tape, h.output, h.size, h.block⟩

theorem cell_drew {W : World} (a : Addr) : W.drew.cell? a = W.cell? a := rfl

theorem below_drewN' {n : Nat} {w w1 : World} (h : Below n w w1) (q : Nat) : Below n w (w1.drewN q) := ⟨h.os, h.tape, h.output, h.size, h.block⟩

theorem rbelow_grown {W w1 : World} {m₀ : Nat} {row : Option Nat} (hg : W.grownBy w1 row) (hrow : ∀ q, row = some q → m₀ ≤ q) (hm : m₀ ≤ W.heap.size) : Below m₀ W w1 :=
  ⟨hg.os, hg.tape, hg.output, hg.size, fun k hk => hg.block k (by omega) (fun e => by have := hrow k e.symm; omega)⟩

theorem row_kept {w w' : World} {base e s n : Nat} {v : Value} {xs : List Value} (hr : w.ownsRow base e s v n xs) (hk : ∀ k, v.ownBlock = some k → w'.heap[k]? = w.heap[k]?) : w'.ownsRow base e s v n xs := by
  refine ⟨hr.1, ?_⟩
  rcases hr.2 with hn | ⟨g, cap, cur, rfl, hb, hgg, rest⟩
  · exact .inl hn
  · exact .inr ⟨g, cap, cur, rfl, hb, by rw [hk g rfl]; exact hgg, rest⟩

theorem row_below {w : World} {base e s n : Nat} {v : Value} {xs : List Value} (h : w.ownsRow base e s v n xs) {w' : World} (hB : Below w.heap.size w w') : w'.ownsRow base e s v n xs := row_kept h (fun k e => hB.block k (h.lt k e).2)

theorem row_obj {w : World} {base e s n : Nat} {v : Value} {xs : List Value} (h : w.ownsRow base e s v n xs) {k : Nat} (hk : v.ownBlock = some k) : ∃ cur, w.heap[k]? = some (.cells cur e (0, 0)) := by
  rcases h.2 with ⟨rfl, rfl⟩ | ⟨g, cap, cur, rfl, _, hg, _⟩
  · simp [Value.ownBlock] at hk
  · simp [Value.ownBlock] at hk; subst hk; exact ⟨cur, hg⟩

theorem row_mono2 {w : World} {base base' e s n : Nat} {v : Value} {xs : List Value} (h : w.ownsRow base e s v n xs) (hb : base' ≤ base) : w.ownsRow base' e s v n xs := by
  refine ⟨h.1, ?_⟩
  rcases h.2 with hn | ⟨g, cap, cur, rfl, hb', rest⟩
  · exact .inl hn
  · exact .inr ⟨g, cap, cur, rfl, by omega, rest⟩

/-- A row's place. -/
theorem row_form {w : World} {base e s n : Nat} {v : Value} {xs : List Value} (h : w.ownsRow base e s v n xs) : ∃ p c, v = .slice p n c ∧ n ≤ c ∧ c ≤ maxLen ∧ (0 < n → ∃ g, p = some ⟨g, 0, none⟩) := by
  rcases h.2 with ⟨h1, h0⟩ | ⟨g, cap, cur, h1, _, _, h2, h3, _⟩
  · exact ⟨none, 0, by rw [h1, h0], by omega, by unfold maxLen; omega, by omega⟩
  · exact ⟨_, _, h1, h2, h3, fun _ => ⟨g, rfl⟩⟩

theorem row_cell {w : World} {base e n c g j : Nat} {u : Value} {xs : List Value} (h : w.ownsRow base e 1 (.slice (some ⟨g, 0, none⟩) n c) n xs) (hj : xs[j]? = some u) (hn : j < n) : w.cell? ⟨g, j, none⟩ = some u := by
  rw [h.cellAt _ (by omega)]; exact hj

theorem results_row_tmp {P : Program} {fn : Func} {p u : Tmp} {ty : TypeId} (h : fn.results = #[.cell p ty, .tmp u]) (tmps : Array Value) (w : World) (g : Nat) (t : TypeId) (cs : Array Value) (fr : Nat × Nat) (d : TypeDesc)
    (hp : tmps.getD p undef = .pointer (some ⟨g, 0, none⟩)) (hg : w.heap[g]? = some (.cells cs t fr))
    (hu : P.underlying ty = some d) (hd : (match d with | .struct _ | .array _ _ => true | _ => false) = true) (hi : (P.info? ty).map (·.size) = some cs.size) :
    (results fn tmps).run P w = .ok (.tuple #[.agg cs, tmps.getD u undef]) w := by
  rw [results_cell_tmp h]
  rw [hp]
  simp [asAddr, run_loadVar_row w g t ty cs fr d hg hu hd hi, Result.andThen]

theorem heap_two (w : World) (o1 o2 : Obj) : ((w.alloc o1).alloc o2).heap[w.heap.size + 1]? = some o2 := by
  have := heap_alloc_new (w.alloc o1) o2
  simpa using this

theorem heap3_0 (w : World) (o1 o2 o3 : Obj) : (((w.alloc o1).alloc o2).alloc o3).heap[w.heap.size]? = some o1 := (Below.heap_alloc _ _ _ (by simp; omega)).trans ((Below.heap_alloc _ _ _ (by simp)).trans (heap_alloc_new w _))

theorem heap3_1 (w : World) (o1 o2 o3 : Obj) : (((w.alloc o1).alloc o2).alloc o3).heap[w.heap.size + 1]? = some o2 := (Below.heap_alloc _ _ _ (by simp)).trans (heap_two w o1 o2)

theorem heap3_2 (w : World) (o1 o2 o3 : Obj) : (((w.alloc o1).alloc o2).alloc o3).heap[w.heap.size + 1 + 1]? = some o3 := by
  have := heap_alloc_new ((w.alloc o1).alloc o2) o3
  simpa using this

theorem below_set {n : Nat} {w W : World} (h : Below n w W) {g i : Nat} (hg : n ≤ g) (v : Value) : Below n w (W.setCell ⟨g, i, none⟩ v) :=
  ⟨h.os, h.tape, h.output, by simpa [World.setCell] using h.size, fun k hk => (heap_setCell_other W ⟨g, i, none⟩ k v (by intro e; simp only at e; omega)).trans (h.block k hk)⟩

theorem below_set5 {n : Nat} {w W : World} (h : Below n w W) {g : Nat} (hg : n ≤ g) (v0 v1 v2 v3 v4 : Value) : Below n w (((((W.setCell ⟨g, 0, none⟩ v0).setCell ⟨g, 1, none⟩ v1).setCell ⟨g, 2, none⟩ v2).setCell ⟨g, 3, none⟩ v3).setCell ⟨g, 4, none⟩ v4) :=
  below_set (below_set (below_set (below_set (below_set h hg _) hg _) hg _) hg _) hg _

theorem cell_row5 {W : World} {g : Nat} {a b c d e : Value} {t : TypeId} (h : W.heap[g]? = some (.cells #[a, b, c, d, e] t (0, 0))) :
    (W.cell? ⟨g, 0, none⟩ = some a ∧ W.cell? ⟨g, 1, none⟩ = some b ∧ W.cell? ⟨g, 2, none⟩ = some c ∧ W.cell? ⟨g, 3, none⟩ = some d ∧ W.cell? ⟨g, 4, none⟩ = some e) ∧ (W.frozen? ⟨g, 0, none⟩ = false ∧ W.frozen? ⟨g, 1, none⟩ = false ∧ W.frozen? ⟨g, 2, none⟩ = false ∧ W.frozen? ⟨g, 3, none⟩ = false ∧ W.frozen? ⟨g, 4, none⟩ = false) :=
  ⟨⟨by rw [cell_of_row W g 0 _ _ _ h]; rfl, by rw [cell_of_row W g 1 _ _ _ h]; rfl, by rw [cell_of_row W g 2 _ _ _ h]; rfl, by rw [cell_of_row W g 3 _ _ _ h]; rfl, by rw [cell_of_row W g 4 _ _ _ h]; rfl⟩, frozen_of_row W g 0 _ _ h, frozen_of_row W g 1 _ _ h, frozen_of_row W g 2 _ _ h, frozen_of_row W g 3 _ _ h, frozen_of_row W g 4 _ _ h⟩

theorem set5_row {W : World} {g : Nat} {a b c d e x0 x1 x2 x3 x4 : Value} {t : TypeId} (h : W.heap[g]? = some (.cells #[a, b, c, d, e] t (0, 0))) : (((((W.setCell ⟨g, 0, none⟩ x0).setCell ⟨g, 1, none⟩ x1).setCell ⟨g, 2, none⟩ x2).setCell ⟨g, 3, none⟩ x3).setCell ⟨g, 4, none⟩ x4).heap[g]? = some (.cells #[x0, x1, x2, x3, x4] t (0, 0)) := by
  have h1 := heap_setCell_same W g 0 _ t x0 h
  have h2 := heap_setCell_same _ g 1 _ t x1 h1
  have h3 := heap_setCell_same _ g 2 _ t x2 h2
  have h4 := heap_setCell_same _ g 3 _ t x3 h3
  have h5 := heap_setCell_same _ g 4 _ t x4 h4
  simpa using h5

theorem cell_set5 {W : World} {g : Nat} {x0 x1 x2 x3 x4 : Value} {a : Addr} (h : a.block ≠ g) : (((((W.setCell ⟨g, 0, none⟩ x0).setCell ⟨g, 1, none⟩ x1).setCell ⟨g, 2, none⟩ x2).setCell ⟨g, 3, none⟩ x3).setCell ⟨g, 4, none⟩ x4).cell? a = W.cell? a := by
  rw [World.cell?_of_block (heap_setCell_other _ ⟨g, 4, none⟩ _ _ h), World.cell?_of_block (heap_setCell_other _ ⟨g, 3, none⟩ _ _ h), World.cell?_of_block (heap_setCell_other _ ⟨g, 2, none⟩ _ _ h), World.cell?_of_block (heap_setCell_other _ ⟨g, 1, none⟩ _ _ h), World.cell?_of_block (heap_setCell_other _ ⟨g, 0, none⟩ _ _ h)]

/-- The object that a value leads to. -/
def leadO (S : List Om) (v : Vl) : Option Om :=
  if 3 ≤ v.k ∧ v.k ≤ 7 ∧ 1 ≤ v.n ∧ v.n ≤ S.length then
    match S[(v.n - 1).toNat]? with
    | some o => if o.k = v.k then some o else none
    | none => none
  else none

theorem leadO_some {S : List Om} {v : Vl} {o : Om} (h : leadO S v = some o) : 3 ≤ v.k ∧ v.k ≤ 7 ∧ o.k = v.k ∧ ∃ i : Nat, v.n = (i : Int) + 1 ∧ i < S.length ∧ S[i]? = some o := by
  unfold leadO at h
  split at h
  · rename_i hc
    split at h
    · rename_i o' ho
      split at h
      · rename_i hk
        cases h
        exact ⟨hc.1, hc.2.1, hk, (v.n - 1).toNat, by omega, by omega, ho⟩
      · cases h
    · cases h
  · cases h

theorem cell_row1 {W : World} {g : Nat} {a : Value} {t : TypeId} (h : W.heap[g]? = some (.cells #[a] t (0, 0))) : W.cell? ⟨g, 0, none⟩ = some a ∧ W.frozen? ⟨g, 0, none⟩ = false := ⟨by rw [cell_of_row W g 0 _ _ _ h]; rfl, frozen_of_row W g 0 _ _ h⟩

end Go.Proofs.YtnekcomkochmjaaGreatDoor
