/- A store in memory: objects and their values; what a row of one's own keeps. -/
import Derived.Test.YtgokofomoachaaaGreatDoorRows
import Derived.RowKit
import Derived.WalkKit
import Derived.WalkSpells
import Derived.WalkLawsBesides
import Derived.Deep.RegionHeld3
import Derived.Laws.ResultCell
namespace Go.Proofs.YtgokofomoachaaaGreatDoor
set_option linter.unusedVariables false
set_option linter.unusedSimpArgs false
open Go.RowKit

/-- A value, plainly. -/
structure Vl where
  k : Nat
  n : Int

/-- An object, plainly. -/
structure Om where
  k : Nat
  s : ByteArray
  l : List Vl
  room : Int
  fn : Int

variable {w : World}

theorem hid {p : Prop} (h : p) : Hid p := h

/-- Values in memory: a slice's. -/
def Vals (w : World) (p : Option Addr) (vs : List Vl) : Prop :=
  ∀ j v, vs[j]? = some v → ∃ b0 off : Nat, p = some ⟨b0, off, none⟩ ∧ w.cell? ⟨b0, off + j * 2, none⟩ = some (.int .u8 v.k) ∧ w.cell? ⟨b0, off + j * 2 + 1, none⟩ = some (.int .i64 v.n)

theorem Vals.below {p : Option Addr} {vs : List Vl} (h : Vals w p vs) {w' : World} (hB : Below w.heap.size w w') : Vals w' p vs := by
  intro j v hj
  obtain ⟨b0, off, e, h1, h2⟩ := h j v hj
  have hlt := World.block_lt_of_cell? w _ h1
  exact ⟨b0, off, e, (hB.cell (p := ⟨b0, off + j * 2, none⟩) hlt).trans h1, (hB.cell (p := ⟨b0, off + j * 2 + 1, none⟩) hlt).trans h2⟩

/-- Objects in memory: a store. -/
def IsSt (w : World) (p : Option Addr) (S : List Om) : Prop :=
  ∀ j o, S[j]? = some o → ∃ b0 off : Nat, p = some ⟨b0, off, none⟩ ∧ w.cell? ⟨b0, off + j * 5, none⟩ = some (.int .u8 o.k) ∧ w.cell? ⟨b0, off + j * 5 + 1, none⟩ = some (.string o.s) ∧
    (∃ q c, w.cell? ⟨b0, off + j * 5 + 2, none⟩ = some (.slice q o.l.length c) ∧ Vals w q o.l ∧ (q = none → c = 0)) ∧ w.cell? ⟨b0, off + j * 5 + 3, none⟩ = some (.int .i64 o.room) ∧ w.cell? ⟨b0, off + j * 5 + 4, none⟩ = some (.int .i64 o.fn)

theorem IsSt.below {p : Option Addr} {S : List Om} (h : IsSt w p S) {w' : World} (hB : Below w.heap.size w w') : IsSt w' p S := by
  intro j o hj
  obtain ⟨b0, off, e, h1, h2, ⟨q, c, h3, hv⟩, h4, h5⟩ := h j o hj
  have hlt := World.block_lt_of_cell? w _ h1
  exact ⟨b0, off, e, (hB.cell (p := ⟨b0, off + j * 5, none⟩) hlt).trans h1, (hB.cell (p := ⟨b0, off + j * 5 + 1, none⟩) hlt).trans h2, ⟨q, c, (hB.cell (p := ⟨b0, off + j * 5 + 2, none⟩) hlt).trans h3, ⟨hv.1.below hB, hv.2⟩⟩, (hB.cell (p := ⟨b0, off + j * 5 + 3, none⟩) hlt).trans h4, (hB.cell (p := ⟨b0, off + j * 5 + 4, none⟩) hlt).trans h5⟩

theorem IsSt.look {p : Option Addr} {S : List Om} (h : IsSt w p S) {w' : World} (hB : Below w.heap.size w w') {j : Nat} {o : Om} (hj : S[j]? = some o) :
    ∃ b0 off : Nat, p = some ⟨b0, off, none⟩ ∧ w'.cell? ⟨b0, off + j * 5, none⟩ = some (.int .u8 o.k) ∧ w'.cell? ⟨b0, off + j * 5 + 1, none⟩ = some (.string o.s) ∧
    (∃ q c, w'.cell? ⟨b0, off + j * 5 + 2, none⟩ = some (.slice q o.l.length c) ∧ Vals w q o.l ∧ (q = none → c = 0)) ∧ w'.cell? ⟨b0, off + j * 5 + 3, none⟩ = some (.int .i64 o.room) ∧ w'.cell? ⟨b0, off + j * 5 + 4, none⟩ = some (.int .i64 o.fn) := by
  obtain ⟨b0, off, e, h1, h2, ⟨q, c, h3, hv⟩, h4, h5⟩ := h j o hj
  have hlt := World.block_lt_of_cell? w _ h1
  exact ⟨b0, off, e, (hB.cell (p := ⟨b0, off + j * 5, none⟩) hlt).trans h1, (hB.cell (p := ⟨b0, off + j * 5 + 1, none⟩) hlt).trans h2, ⟨q, c, (hB.cell (p := ⟨b0, off + j * 5 + 2, none⟩) hlt).trans h3, hv⟩, (hB.cell (p := ⟨b0, off + j * 5 + 3, none⟩) hlt).trans h4, (hB.cell (p := ⟨b0, off + j * 5 + 4, none⟩) hlt).trans h5⟩

theorem below1 (w : World) (o : Obj) : Below w.heap.size w (w.alloc o) := (Below.refl _ _).alloc (Nat.le_refl _) _

theorem below2' (w : World) (o1 o2 : Obj) : Below w.heap.size w ((w.alloc o1).alloc o2) := (below1 w o1).alloc (by simp) _

theorem below3' (w : World) (o1 o2 o3 : Obj) : Below w.heap.size w (((w.alloc o1).alloc o2).alloc o3) := (below2' w o1 o2).alloc (by simp; omega) _

theorem below_drew {n : Nat} {w w1 : World} (h : Below n w w1) : Below n w w1.drew := ⟨h.os, h.tape, h.output, h.size, h.block⟩

theorem below_drewN' {n : Nat} {w w1 : World} (h : Below n w w1) (q : Nat) : Below n w (w1.drewN q) := ⟨h.os, h.tape, h.output, h.size, h.block⟩

theorem rbelow_grown {W w1 : World} {m₀ : Nat} {row : Option Nat} (hg : W.grownBy w1 row) (hrow : ∀ q, row = some q → m₀ ≤ q) (hm : m₀ ≤ W.heap.size) : Below m₀ W w1 :=
  ⟨hg.os, hg.tape, hg.output, hg.size, fun k hk => hg.block k (by omega) (fun e => by have := hrow k e.symm; omega)⟩

theorem row_kept {w w' : World} {base e s n : Nat} {v : Value} {xs : List Value} (hr : w.ownsRow base e s v n xs) (hk : ∀ k, v.ownBlock = some k → w'.heap[k]? = w.heap[k]?) : w'.ownsRow base e s v n xs := by
  refine ⟨hr.1, ?_⟩
  rcases hr.2 with hn | ⟨g, cap, cur, rfl, hb, hgg, rest⟩
  · exact .inl hn
  · exact .inr ⟨g, cap, cur, rfl, hb, by rw [hk g rfl]; exact hgg, rest⟩

theorem row_below {w : World} {base e s n : Nat} {v : Value} {xs : List Value} (h : w.ownsRow base e s v n xs) {w' : World} (hB : Below w.heap.size w w') : w'.ownsRow base e s v n xs := row_kept h (fun k e => hB.block k (h.lt k e).2)

theorem row_obj {w : World} {base e s n : Nat} {v : Value} {xs : List Value} (h : w.ownsRow base e s v n xs) {k : Nat} (hk : v.ownBlock = some k) : ∃ cur, w.heap[k]? = some (.cells cur e (0, 0)) := by
  rcases h.2 with ⟨rfl, rfl⟩ | ⟨g, cap, cur, rfl, _, hg, _⟩
  · simp [Value.ownBlock] at hk
  · simp [Value.ownBlock] at hk; subst hk; exact ⟨cur, hg⟩

theorem row_mono2 {w : World} {base base' e s n : Nat} {v : Value} {xs : List Value} (h : w.ownsRow base e s v n xs) (hb : base' ≤ base) : w.ownsRow base' e s v n xs := by
  refine ⟨h.1, ?_⟩
  rcases h.2 with hn | ⟨g, cap, cur, rfl, hb', rest⟩
  · exact .inl hn
  · exact .inr ⟨g, cap, cur, rfl, by omega, rest⟩

/-- A row's place. -/
theorem row_form {w : World} {base e s n : Nat} {v : Value} {xs : List Value} (h : w.ownsRow base e s v n xs) : ∃ p c, v = .slice p n c ∧ n ≤ c ∧ c ≤ maxLen ∧ (0 < n → ∃ g, p = some ⟨g, 0, none⟩) := by
  rcases h.2 with ⟨h1, h0⟩ | ⟨g, cap, cur, h1, _, _, h2, h3, _⟩
  · exact ⟨none, 0, by rw [h1, h0], by omega, by unfold maxLen; omega, by omega⟩
  · exact ⟨_, _, h1, h2, h3, fun _ => ⟨g, rfl⟩⟩

theorem row_cell {w : World} {base e n c g j : Nat} {u : Value} {xs : List Value} (h : w.ownsRow base e 1 (.slice (some ⟨g, 0, none⟩) n c) n xs) (hj : xs[j]? = some u) (hn : j < n) : w.cell? ⟨g, j, none⟩ = some u := by
  rw [h.cellAt _ (by omega)]; exact hj

theorem results_row_tmp {P : Program} {fn : Func} {p u : Tmp} {ty : TypeId} (h : fn.results = #[.cell p ty, .tmp u]) (tmps : Array Value) (w : World) (g : Nat) (t : TypeId) (cs : Array Value) (fr : Nat × Nat) (d : TypeDesc)
    (hp : tmps.getD p undef = .pointer (some ⟨g, 0, none⟩)) (hg : w.heap[g]? = some (.cells cs t fr))
    (hu : P.underlying ty = some d) (hd : (match d with | .struct _ | .array _ _ => true | _ => false) = true) (hi : (P.info? ty).map (·.size) = some cs.size) :
    (results fn tmps).run P w = .ok (.tuple #[.agg cs, tmps.getD u undef]) w := by
  rw [results_cell_tmp h]
  rw [hp]
  simp [asAddr, run_loadVar_row w g t ty cs fr d hg hu hd hi, Result.andThen]

theorem heap_two (w : World) (o1 o2 : Obj) : ((w.alloc o1).alloc o2).heap[w.heap.size + 1]? = some o2 := by
  have := heap_alloc_new (w.alloc o1) o2
  simpa using this

theorem heap3_0 (w : World) (o1 o2 o3 : Obj) : (((w.alloc o1).alloc o2).alloc o3).heap[w.heap.size]? = some o1 := (Below.heap_alloc _ _ _ (by simp; omega)).trans ((Below.heap_alloc _ _ _ (by simp)).trans (heap_alloc_new w _))

theorem heap3_1 (w : World) (o1 o2 o3 : Obj) : (((w.alloc o1).alloc o2).alloc o3).heap[w.heap.size + 1]? = some o2 := (Below.heap_alloc _ _ _ (by simp)).trans (heap_two w o1 o2)

theorem heap3_2 (w : World) (o1 o2 o3 : Obj) : (((w.alloc o1).alloc o2).alloc o3).heap[w.heap.size + 1 + 1]? = some o3 := by
  have := heap_alloc_new ((w.alloc o1).alloc o2) o3
  simpa using this

theorem below_set {n : Nat} {w W : World} (h : Below n w W) {g i : Nat} (hg : n ≤ g) (v : Value) : Below n w (W.setCell ⟨g, i, none⟩ v) :=
  ⟨h.os, h.tape, h.output, by simpa [World.setCell] using h.size, fun k hk => (heap_setCell_other W ⟨g, i, none⟩ k v (by intro e; simp only at e; omega)).trans (h.block k hk)⟩

theorem below_set5 {n : Nat} {w W : World} (h : Below n w W) {g : Nat} (hg : n ≤ g) (v0 v1 v2 v3 v4 : Value) : Below n w (((((W.setCell ⟨g, 0, none⟩ v0).setCell ⟨g, 1, none⟩ v1).setCell ⟨g, 2, none⟩ v2).setCell ⟨g, 3, none⟩ v3).setCell ⟨g, 4, none⟩ v4) :=
  below_set (below_set (below_set (below_set (below_set h hg _) hg _) hg _) hg _) hg _

theorem cell_row5 {W : World} {g : Nat} {a b c d e : Value} {t : TypeId} (h : W.heap[g]? = some (.cells #[a, b, c, d, e] t (0, 0))) :
    (W.cell? ⟨g, 0, none⟩ = some a ∧ W.cell? ⟨g, 1, none⟩ = some b ∧ W.cell? ⟨g, 2, none⟩ = some c ∧ W.cell? ⟨g, 3, none⟩ = some d ∧ W.cell? ⟨g, 4, none⟩ = some e) ∧ (W.frozen? ⟨g, 0, none⟩ = false ∧ W.frozen? ⟨g, 1, none⟩ = false ∧ W.frozen? ⟨g, 2, none⟩ = false ∧ W.frozen? ⟨g, 3, none⟩ = false ∧ W.frozen? ⟨g, 4, none⟩ = false) :=
  ⟨⟨by rw [cell_of_row W g 0 _ _ _ h]; rfl, by rw [cell_of_row W g 1 _ _ _ h]; rfl, by rw [cell_of_row W g 2 _ _ _ h]; rfl, by rw [cell_of_row W g 3 _ _ _ h]; rfl, by rw [cell_of_row W g 4 _ _ _ h]; rfl⟩, frozen_of_row W g 0 _ _ h, frozen_of_row W g 1 _ _ h, frozen_of_row W g 2 _ _ h, frozen_of_row W g 3 _ _ h, frozen_of_row W g 4 _ _ h⟩

theorem set5_row {W : World} {g : Nat} {a b c d e x0 x1 x2 x3 x4 : Value} {t : TypeId} (h : W.heap[g]? = some (.cells #[a, b, c, d, e] t (0, 0))) : (((((W.setCell ⟨g, 0, none⟩ x0).setCell ⟨g, 1, none⟩ x1).setCell ⟨g, 2, none⟩ x2).setCell ⟨g, 3, none⟩ x3).setCell ⟨g, 4, none⟩ x4).heap[g]? = some (.cells #[x0, x1, x2, x3, x4] t (0, 0)) := by
  have h1 := heap_setCell_same W g 0 _ t x0 h
  have h2 := heap_setCell_same _ g 1 _ t x1 h1
  have h3 := heap_setCell_same _ g 2 _ t x2 h2
  have h4 := heap_setCell_same _ g 3 _ t x3 h3
  have h5 := heap_setCell_same _ g 4 _ t x4 h4
  simpa using h5

theorem cell_set5 {W : World} {g : Nat} {x0 x1 x2 x3 x4 : Value} {a : Addr} (h : a.block ≠ g) : (((((W.setCell ⟨g, 0, none⟩ x0).setCell ⟨g, 1, none⟩ x1).setCell ⟨g, 2, none⟩ x2).setCell ⟨g, 3, none⟩ x3).setCell ⟨g, 4, none⟩ x4).cell? a = W.cell? a := by
  rw [World.cell?_of_block (heap_setCell_other _ ⟨g, 4, none⟩ _ _ h), World.cell?_of_block (heap_setCell_other _ ⟨g, 3, none⟩ _ _ h), World.cell?_of_block (heap_setCell_other _ ⟨g, 2, none⟩ _ _ h), World.cell?_of_block (heap_setCell_other _ ⟨g, 1, none⟩ _ _ h), World.cell?_of_block (heap_setCell_other _ ⟨g, 0, none⟩ _ _ h)]

/-- The object that a value leads to. -/
def leadO (S : List Om) (v : Vl) : Option Om :=
  if 3 ≤ v.k ∧ v.k ≤ 7 ∧ 1 ≤ v.n ∧ v.n ≤ S.length then
    match S[(v.n - 1).toNat]? with
    | some o => if o.k = v.k then some o else none
    | none => none
  else none

theorem leadO_some {S : List Om} {v : Vl} {o : Om} (h : leadO S v = some o) : 3 ≤ v.k ∧ v.k ≤ 7 ∧ o.k = v.k ∧ ∃ i : Nat, v.n = (i : Int) + 1 ∧ i < S.length ∧ S[i]? = some o := by
  unfold leadO at h
  split at h
  · rename_i hc
    split at h
    · rename_i o' ho
      split at h
      · rename_i hk
        cases h
        exact ⟨hc.1, hc.2.1, hk, (v.n - 1).toNat, by omega, by omega, ho⟩
      · cases h
    · cases h
  · cases h

theorem cell_row1 {W : World} {g : Nat} {a : Value} {t : TypeId} (h : W.heap[g]? = some (.cells #[a] t (0, 0))) : W.cell? ⟨g, 0, none⟩ = some a ∧ W.frozen? ⟨g, 0, none⟩ = false := ⟨by rw [cell_of_row W g 0 _ _ _ h]; rfl, frozen_of_row W g 0 _ _ h⟩

end Go.Proofs.YtgokofomoachaaaGreatDoor

namespace Go.Proofs.YtgokofomoachaaaGreatDoor
set_option linter.unusedVariables false
set_option linter.unusedSimpArgs false
open Go.RowKit

variable {w : World}

theorem infoO : (Tryz.prog.info? 96).map (·.size) = some 5 := by kernel_rfl

def noObj : Value := .agg #[.int .u8 0, .string ⟨#[]⟩, .slice none 0 0, .int .i64 0, .int .i64 0]

def objV (o : Om) (q : Option Addr) (c : Nat) : Value := .agg #[.int .u8 o.k, .string o.s, .slice q o.l.length c, .int .i64 o.room, .int .i64 o.fn]

set_option maxHeartbeats 1000000 in
theorem lead_out {p : Option Addr} {S : List Om} (c : Nat) (k : Nat) (n : Int) (hd : (decide ((k : Int) < 3) || decide (7 < (k : Int)) || decide (n < 1) || decide ((S.length : Int) < n)) = true) :
    Calls Tryz.prog 236 #[.slice p S.length c, .agg #[.int .u8 k, .int .i64 n]] w fun e w' => Below w.heap.size w w' ∧ e = .returned (.tuple #[noObj, .bool false]) := by
  unfold noObj
  go_enter Tryz.func236, Tryz.ntmps236
  go_wp2
  all_goals
    refine bodyPost_ret (results_row_tmp (by rfl) _ _ (w.heap.size + 1) 96 #[.int .u8 0, .string ⟨#[]⟩, .slice none 0 0, .int .i64 0, .int .i64 0] (0, 0) _ (by rfl) (heap_two _ _ _) Tryz.underlying96 (by rfl) infoO) (by rfl) ?_
    exact ⟨below2' _ _ _, rfl⟩

set_option maxHeartbeats 1000000 in
theorem lead_at0 {w0 : World} {p : Option Addr} {S : List Om} (c : Nat) (hs : IsSt w0 p S) (hB : Below w0.heap.size w0 w) (k : Nat) (n : Int) (i : Nat) (o : Om) (hl : S.length ≤ maxLen) (hk : 3 ≤ k) (hk7 : k ≤ 7) (hn : n = i + 1) (ho : S[i]? = some o) (hok : o.k = k) :
    Calls Tryz.prog 236 #[.slice p S.length c, .agg #[.int .u8 k, .int .i64 n]] w fun e w' => Below w.heap.size w w' ∧ ∃ q c, e = .returned (.tuple #[objV o q c, .bool true]) ∧ Vals w0 q o.l := by
  have hlt := (List.getElem?_eq_some_iff.1 ho).1
  obtain ⟨b0, off, rfl, c0, c1, ⟨q, cq, c2, hv⟩, c3, c4⟩ := hs.look (hB.trans ((below2' w (.cells #[.int .u8 k, .int .i64 n] 27) (.cells #[.int .u8 0, .string ⟨#[]⟩, .slice none 0 0, .int .i64 0, .int .i64 0] 96)).mono hB.size)) ho
  have h1 : ¬ ((k : Int) < 3) := by omega
  have h2 : ¬ (7 < (k : Int)) := by omega
  have h3 : ¬ (n < 1) := by omega
  have h4 : ¬ ((S.length : Int) < n) := by omega
  have hw : IntKind.i64.wrap (n - 1) = i := by rw [IntKind.wrap_i64]; unfold maxLen at hl; omega
  have hi : (i : Int) < (S.length : Int) := by omega
  unfold objV
  clear hs ho hn
  go_enter Tryz.func236, Tryz.ntmps236
  go_wp2
  refine bodyPost_ret (results_row_tmp (by rfl) _ _ (w.heap.size + 1) 96 #[.int .u8 k, .string o.s, .slice q o.l.length cq, .int .i64 o.room, .int .i64 o.fn] (0, 0) _ (by rfl) (heap3_1 _ _ _ _) Tryz.underlying96 (by rfl) infoO) (by rfl) ?_
  exact ⟨below3' _ _ _ _, q, ⟨cq, rfl⟩, hv.1⟩

theorem lead_at {p : Option Addr} {S : List Om} (c : Nat) (hs : IsSt w p S) (k : Nat) (n : Int) (i : Nat) (o : Om) (hl : S.length ≤ maxLen) (hk : 3 ≤ k) (hk7 : k ≤ 7) (hn : n = i + 1) (ho : S[i]? = some o) (hok : o.k = k) :
    Calls Tryz.prog 236 #[.slice p S.length c, .agg #[.int .u8 k, .int .i64 n]] w fun e w' => Below w.heap.size w w' ∧ ∃ q c, e = .returned (.tuple #[objV o q c, .bool true]) ∧ Vals w q o.l :=
  lead_at0 c hs (Below.refl _ _) k n i o hl hk hk7 hn ho hok

set_option maxHeartbeats 1000000 in
theorem lead_off {p : Option Addr} {S : List Om} (c : Nat) (hs : IsSt w p S) (k : Nat) (n : Int) (i : Nat) (o : Om) (hl : S.length ≤ maxLen) (hk : 3 ≤ k) (hk7 : k ≤ 7) (hn : n = i + 1) (ho : S[i]? = some o) (hok : o.k ≠ k) :
    Calls Tryz.prog 236 #[.slice p S.length c, .agg #[.int .u8 k, .int .i64 n]] w fun e w' => Below w.heap.size w w' ∧ e = .returned (.tuple #[noObj, .bool false]) := by
  have hlt := (List.getElem?_eq_some_iff.1 ho).1
  obtain ⟨b0, off, rfl, c0, c1, ⟨q, cq, c2, hv⟩, c3, c4⟩ := hs.look (below2' w (.cells #[.int .u8 k, .int .i64 n] 27) (.cells #[.int .u8 0, .string ⟨#[]⟩, .slice none 0 0, .int .i64 0, .int .i64 0] 96)) ho
  have h1 : ¬ ((k : Int) < 3) := by omega
  have h2 : ¬ (7 < (k : Int)) := by omega
  have h3 : ¬ (n < 1) := by omega
  have h4 : ¬ ((S.length : Int) < n) := by omega
  have hw : IntKind.i64.wrap (n - 1) = i := by rw [IntKind.wrap_i64]; unfold maxLen at hl; omega
  have hi : (i : Int) < (S.length : Int) := by omega
  have hne : ((o.k : Int) == (k : Int)) = false := by simp; omega
  unfold noObj
  clear hs ho hn hok
  go_enter Tryz.func236, Tryz.ntmps236
  go_wp2
  refine bodyPost_ret (results_row_tmp (by rfl) _ _ (w.heap.size + 1) 96 #[.int .u8 0, .string ⟨#[]⟩, .slice none 0 0, .int .i64 0, .int .i64 0] (0, 0) _ (by rfl) (heap3_1 _ _ _ _) Tryz.underlying96 (by rfl) infoO) (by rfl) ?_
  exact ⟨below3' _ _ _ _, rfl⟩

/-- lead, whole. -/
theorem lead_in {p : Option Addr} {S : List Om} (c : Nat) (hs : IsSt w p S) (hl : S.length ≤ maxLen) (v : Vl) :
    Calls Tryz.prog 236 #[.slice p S.length c, .agg #[.int .u8 v.k, .int .i64 v.n]] w fun e w' => Below w.heap.size w w' ∧
      ((leadO S v = none ∧ e = .returned (.tuple #[noObj, .bool false])) ∨ ∃ o q c, leadO S v = some o ∧ e = .returned (.tuple #[objV o q c, .bool true]) ∧ Vals w q o.l) := by
  by_cases hc : 3 ≤ v.k ∧ v.k ≤ 7 ∧ 1 ≤ v.n ∧ v.n ≤ S.length
  · obtain ⟨h1, h2, h3, h4⟩ := hc
    have hi : (v.n - 1).toNat < S.length := by omega
    have ho : S[(v.n - 1).toNat]? = some S[(v.n - 1).toNat] := by simp [hi]
    have hn : v.n = ((v.n - 1).toNat : Int) + 1 := by omega
    by_cases hok : (S[(v.n - 1).toNat]).k = v.k
    · have e : leadO S v = some S[(v.n - 1).toNat] := by
        unfold leadO
        rw [if_pos ⟨h1, h2, h3, h4⟩, ho]
        exact if_pos hok
      refine (lead_at c hs v.k v.n _ _ hl h1 h2 hn ho hok).mono ?_
      rintro e' w' ⟨hB, q, c, rfl, hv⟩
      exact ⟨hB, .inr ⟨_, q, c, e, rfl, hv⟩⟩
    · have e : leadO S v = none := by
        unfold leadO
        rw [if_pos ⟨h1, h2, h3, h4⟩, ho]
        exact if_neg hok
      refine (lead_off c hs v.k v.n _ _ hl h1 h2 hn ho hok).mono ?_
      rintro e' w' ⟨hB, rfl⟩
      exact ⟨hB, .inl ⟨e, rfl⟩⟩
  · have e : leadO S v = none := by unfold leadO; rw [if_neg hc]
    refine (lead_out c v.k v.n ?_).mono ?_
    · have : (v.k : Int) < 3 ∨ 7 < (v.k : Int) ∨ v.n < 1 ∨ (S.length : Int) < v.n := by omega
      rcases this with h | h | h | h <;> simp [h]
    · rintro e' w' ⟨hB, rfl⟩
      exact ⟨hB, .inl ⟨e, rfl⟩⟩

theorem lead_none {p : Option Addr} {S : List Om} {c : Nat} (hs : IsSt w p S) (hl : S.length ≤ maxLen) {v : Vl} (h : leadO S v = none) :
    Calls Tryz.prog 236 #[.slice p S.length c, .agg #[.int .u8 v.k, .int .i64 v.n]] w fun e w' => Below w.heap.size w w' ∧ e = .returned (.tuple #[noObj, .bool false]) := by
  refine (lead_in c hs hl v).mono ?_
  rintro e w' ⟨hB, ⟨_, rfl⟩ | ⟨o, q, c, h2, _⟩⟩
  · exact ⟨hB, rfl⟩
  · rw [h] at h2; cases h2

theorem lead_some {p : Option Addr} {S : List Om} {c : Nat} (hs : IsSt w p S) (hl : S.length ≤ maxLen) {v : Vl} {o : Om} (h : leadO S v = some o) :
    Calls Tryz.prog 236 #[.slice p S.length c, .agg #[.int .u8 v.k, .int .i64 v.n]] w fun e w' => Below w.heap.size w w' ∧ ∃ q c, e = .returned (.tuple #[objV o q c, .bool true]) ∧ Vals w q o.l := by
  refine (lead_in c hs hl v).mono ?_
  rintro e w' ⟨hB, ⟨h2, _⟩ | ⟨o', q, c, h2, rfl, hv⟩⟩
  · rw [h] at h2; cases h2
  · rw [h] at h2
    cases h2
    exact ⟨hB, q, c, rfl, hv⟩

theorem lead_some0 {w0 : World} {p : Option Addr} {S : List Om} {c : Nat} (hs : IsSt w0 p S) (hB : Below w0.heap.size w0 w) (hl : S.length ≤ maxLen) {v : Vl} {o : Om} (h : leadO S v = some o) :
    Calls Tryz.prog 236 #[.slice p S.length c, .agg #[.int .u8 v.k, .int .i64 v.n]] w fun e w' => Below w.heap.size w w' ∧ ∃ q c, e = .returned (.tuple #[objV o q c, .bool true]) ∧ Vals w0 q o.l := by
  obtain ⟨h3, h7, hok, i, hn, -, ho⟩ := leadO_some h
  exact lead_at0 c hs hB v.k v.n i o hl h3 h7 hn ho hok

/-- How many words an object has. -/
def wordsO (o : Om) : Nat :=
  if o.k = 3 then 2 + (o.s.size + 7) / 8
  else if o.k = 6 then 2 + 2 * o.l.length
  else if (o.k = 4 ∨ o.k = 5) ∧ 0 < o.room then 4 + 2 * o.room.toNat
  else 3

set_option maxHeartbeats 1000000 in
theorem words_in (o : Om) (q : Option Addr) (c : Nat) (w : World) (hs : o.s.size ≤ 1048576) (hl : o.l.length ≤ 1048576) (hr : o.room ≤ 1099511627776) :
    Calls Tryz.prog 150 #[objV o q c] w fun e w' => Below w.heap.size w w' ∧ e = .returned (.int .i64 (wordsO o : Nat)) := by
  unfold objV
  by_cases h3 : o.k = 3
  · have e : wordsO o = 2 + (o.s.size + 7) / 8 := by unfold wordsO; rw [if_pos h3]
    rw [e, h3]
    have e2 : ((2 + (o.s.size + 7) / 8 : Nat) : Int) = 2 + ((o.s.size : Int) + 7) / 8 := by omega
    rw [e2]
    clear e e2 h3
    go_enter Tryz.func150, Tryz.ntmps150
    go_wp2
    go_ret
    exact ⟨below1 _ _, rfl⟩
  · have b3 : ¬ ((o.k : Int) = 3) := by omega
    by_cases h6 : o.k = 6
    · have e : wordsO o = 2 + 2 * o.l.length := by unfold wordsO; rw [if_neg h3, if_pos h6]
      rw [e, h6]
      have e2 : ((2 + 2 * o.l.length : Nat) : Int) = 2 + 2 * (o.l.length : Int) := by omega
      rw [e2]
      clear e e2 h3 h6 b3
      go_enter Tryz.func150, Tryz.ntmps150
      go_wp2
      go_ret
      exact ⟨below1 _ _, rfl⟩
    · have b6 : ¬ ((o.k : Int) = 6) := by omega
      by_cases h4 : (o.k = 4 ∨ o.k = 5) ∧ 0 < o.room
      · have e : wordsO o = 4 + 2 * o.room.toNat := by unfold wordsO; rw [if_neg h3, if_neg h6, if_pos h4]
        have e2 : ((4 + 2 * o.room.toNat : Nat) : Int) = 4 + 2 * o.room := by omega
        rw [e, e2]
        have hr0 := h4.2
        rcases h4.1 with h | h
        all_goals
          rw [h]
          clear e e2 h3 h6 b3 b6 h4 h
          go_enter Tryz.func150, Tryz.ntmps150
          go_wp2
          go_ret
          exact ⟨below1 _ _, rfl⟩
      · have e : wordsO o = 3 := by unfold wordsO; rw [if_neg h3, if_neg h6, if_neg h4]
        rw [e]
        by_cases h : o.k = 4 ∨ o.k = 5
        · have hr0 : ¬ (0 < o.room) := fun x => h4 ⟨h, x⟩
          rcases h with h | h
          all_goals
            rw [h]
            clear e h3 h6 b3 b6 h4 h
            go_enter Tryz.func150, Tryz.ntmps150
            go_wp2
            go_ret
            exact ⟨below1 _ _, rfl⟩
        · have b4 : ¬ ((o.k : Int) = 4) := by omega
          have b5 : ¬ ((o.k : Int) = 5) := by omega
          clear e h3 h6 h4 h
          go_enter Tryz.func150, Tryz.ntmps150
          go_wp2
          go_ret
          exact ⟨below1 _ _, rfl⟩

end Go.Proofs.YtgokofomoachaaaGreatDoor
