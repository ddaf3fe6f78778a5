/- The marks: what has been come to (gc's marks.add, next). -/
import Derived.Test.YtkombdkhodjckaaGreatStay
import Derived.Test.YtkombdkhodjckaaGreatPlaces
import Derived.Test.YtkombdkhodjckaaGreatObMem
import Derived.Test.YtkombdkhodjckaaGreatRefMove
import Derived.Test.YtkombdkhodjckaaGreatMore
namespace Go.Proofs.YtkombdkhodjckaaGreat
set_option linter.unusedVariables false
set_option linter.unusedSimpArgs false
open Go.RowKit

/-- Where a walk is stopped. -/
def Stopped (p : Prop) : Prop := p

theorem stop_here {p : Prop} (h : Stopped p) : p := h

/-- The marks at block bm. -/
structure IsMk (n₁ bm : Nat) (vs vt : Value) (w : World) (m : Mk) : Prop where
  base : n₁ ≤ bm
  blk : w.heap[bm]? = some (.cells #[vs, vt] 122 (0, 0))
  rs : w.ownsRow n₁ 4 1 vs m.S.length (m.S.map Value.bool)
  rt : w.ownsRow n₁ 2 1 vt m.T.length (m.T.map pv)
  les : m.S.length ≤ 1048576
  let_ : m.T.length ≤ 1048576

/-- What a step of the marks may turn. -/
structure MStep (bm : Nat) (vs vt : Value) (w : World) (vt' : Value) (w' : World) : Prop where
  os : w'.os = w.os
  tape : w'.tape = w.tape
  output : w'.output = w.output
  size : w.heap.size ≤ w'.heap.size
  block : ∀ k, k < w.heap.size → k ≠ bm → some k ≠ vs.ownBlock → some k ≠ vt.ownBlock → w'.heap[k]? = w.heap[k]?
  ft : ∀ k, vt'.ownBlock = some k → vt.ownBlock = some k ∨ w.heap.size ≤ k

namespace IsMk

variable {n₁ bm : Nat} {vs vt : Value} {w : World} {m : Mk}

theorem lt (h : IsMk n₁ bm vs vt w m) : bm < w.heap.size := (Array.getElem?_eq_some_iff.1 h.blk).1

theorem c0 (h : IsMk n₁ bm vs vt w m) : w.cell? ⟨bm, 0, none⟩ = some vs := by rw [cell_of_row w bm 0 _ _ _ h.blk]; rfl

theorem c1 (h : IsMk n₁ bm vs vt w m) : w.cell? ⟨bm, 1, none⟩ = some vt := by rw [cell_of_row w bm 1 _ _ _ h.blk]; rfl

theorem f (h : IsMk n₁ bm vs vt w m) (j : Nat) : w.frozen? ⟨bm, j, none⟩ = false := frozen_of_row w bm j _ _ h.blk

theorem ns (h : IsMk n₁ bm vs vt w m) : vs.ownBlock ≠ some bm := by
  intro e; obtain ⟨cur, hc⟩ := IsAr.row_type h.rs e; rw [h.blk] at hc; simp at hc

theorem nt (h : IsMk n₁ bm vs vt w m) : vt.ownBlock ≠ some bm := by
  intro e; obtain ⟨cur, hc⟩ := IsAr.row_type h.rt e; rw [h.blk] at hc; simp at hc

theorem nst (h : IsMk n₁ bm vs vt w m) {k : Nat} (hk : vs.ownBlock = some k) : vt.ownBlock ≠ some k := by
  intro e; obtain ⟨cur, hc⟩ := IsAr.row_type h.rt e; obtain ⟨cur', hc'⟩ := IsAr.row_type h.rs hk; rw [hc] at hc'; simp at hc'

theorem kept (h : IsMk n₁ bm vs vt w m) {w' : World} (hk : ∀ k, (k = bm ∨ vs.ownBlock = some k ∨ vt.ownBlock = some k) → w'.heap[k]? = w.heap[k]?) : IsMk n₁ bm vs vt w' m :=
  ⟨h.base, (hk bm (.inl rfl)).trans h.blk, row_kept h.rs (fun k e => hk k (.inr (.inl e))), row_kept h.rt (fun k e => hk k (.inr (.inr e))), h.les, h.let_⟩

theorem blocks (h : IsMk n₁ bm vs vt w m) : ∀ k, (k = bm ∨ vs.ownBlock = some k ∨ vt.ownBlock = some k) → n₁ ≤ k ∧ k < w.heap.size ∧ ∃ cur t, w.heap[k]? = some (.cells cur t (0, 0)) := by
  rintro k (rfl | e | e)
  · exact ⟨h.base, h.lt, _, _, h.blk⟩
  · obtain ⟨cur, hc⟩ := IsAr.row_type h.rs e
    exact ⟨(h.rs.lt k e).1, (h.rs.lt k e).2, cur, _, hc⟩
  · obtain ⟨cur, hc⟩ := IsAr.row_type h.rt e
    exact ⟨(h.rt.lt k e).1, (h.rt.lt k e).2, cur, _, hc⟩

theorem below (h : IsMk n₁ bm vs vt w m) {w' : World} (hB : Below w.heap.size w w') : IsMk n₁ bm vs vt w' m :=
  h.kept (fun k hk => hB.block k (h.blocks k hk).2.1)

theorem grown (h : IsMk n₁ bm vs vt w m) {w' : World} {row : Option Nat} (hg : w.grownBy w' row) (hr : ∀ r, row = some r → ∃ o : Obj, w.heap[r]? = some o ∧ o.isCells = false) : IsMk n₁ bm vs vt w' m :=
  h.kept (fun k hk => by
    obtain ⟨_, hlt, cur, t, hc⟩ := h.blocks k hk
    refine hg.block k hlt ?_
    intro e
    obtain ⟨o, ho, hn⟩ := hr k e.symm
    rw [hc] at ho; cases ho; simp [Obj.isCells] at hn)

end IsMk

theorem MStep.refl (bm : Nat) (vs vt : Value) (w : World) : MStep bm vs vt w vt w := ⟨rfl, rfl, rfl, Nat.le_refl _, fun _ _ _ _ _ => rfl, fun _ h => .inl h⟩

theorem MStep.trans {bm : Nat} {vs vt vt' vt'' : Value} {w w' w'' : World} (h : MStep bm vs vt w vt' w') (g : MStep bm vs vt' w' vt'' w'') : MStep bm vs vt w vt'' w'' := by
  refine ⟨g.os.trans h.os, g.tape.trans h.tape, g.output.trans h.output, Nat.le_trans h.size g.size, ?_, ?_⟩
  · intro k hk h1 h2 h3
    refine (g.block k (Nat.lt_of_lt_of_le hk h.size) h1 h2 ?_).trans (h.block k hk h1 h2 h3)
    intro e; rcases h.ft k e.symm with e' | e'
    · exact h3 e'.symm
    · omega
  · intro k e
    rcases g.ft k e with e' | e'
    · exact h.ft k e'
    · exact .inr (Nat.le_trans h.size e')

theorem MStep.of_below {bm : Nat} {vs vt : Value} {w w' : World} (h : Below w.heap.size w w') : MStep bm vs vt w vt w' :=
  ⟨h.os, h.tape, h.output, h.size, fun k hk _ _ _ => h.block k hk, fun _ h => .inl h⟩

theorem MStep.below {n₁ bm : Nat} {vs vt vt' : Value} {w w' : World} {m : Mk} (h : MStep bm vs vt w vt' w') (hm : IsMk n₁ bm vs vt w m) : Below n₁ w w' := by
  refine ⟨h.os, h.tape, h.output, h.size, fun k hk => ?_⟩
  have hb := hm.base
  have hlt := hm.lt
  refine h.block k (by omega) (by omega) ?_ ?_
  · intro e; have := (hm.rs.lt k e.symm).1; omega
  · intro e; have := (hm.rt.lt k e.symm).1; omega

theorem MStep.keeps {n₁ bm : Nat} {vs vt vt' : Value} {w w' : World} {m : Mk} (h : MStep bm vs vt w vt' w') (hm : IsMk n₁ bm vs vt w m) : ∀ (k : Nat) (o : Obj), w.heap[k]? = some o → o.isCells = false → w'.heap[k]? = some o := by
  intro k o hk ho
  rw [← hk]
  have no : ¬ (k = bm ∨ vs.ownBlock = some k ∨ vt.ownBlock = some k) := by
    intro e
    obtain ⟨_, _, cur, t, hc⟩ := hm.blocks k e
    rw [hk] at hc; cases hc; simp [Obj.isCells] at ho
  exact h.block k (Array.getElem?_eq_some_iff.1 hk).1 (fun e => no (.inl e)) (fun e => no (.inr (.inl e.symm))) (fun e => no (.inr (.inr e.symm)))

variable {n₁ bm : Nat} {vs vt : Value} {w : World} {m : Mk}

/-- A mark is set. -/
theorem IsMk.setSeen (h : IsMk n₁ bm vs vt w m) {g c i : Nat} (hv : vs = .slice (some ⟨g, 0, none⟩) m.S.length c) :
    IsMk n₁ bm vs vt (w.setCell ⟨g, i, none⟩ (.bool true)) { m with S := m.S.set i true } ∧ MStep bm vs vt w vt (w.setCell ⟨g, i, none⟩ (.bool true)) := by
  have hg : vs.ownBlock = some g := by rw [hv]; rfl
  have hgb : g ≠ bm := fun e => h.ns (by rw [hg, e])
  have hs := (hv ▸ h.rs).stored i (.bool true)
  refine ⟨⟨h.base, (heap_setCell_other w ⟨g, i, none⟩ bm _ hgb.symm).trans h.blk, ?_, ?_, ?_, h.let_⟩, ⟨rfl, rfl, rfl, by simp [World.setCell], fun k _ _ hw _ => heap_setCell_other w ⟨g, i, none⟩ k _ (fun e => hw (by rw [hg, e])), fun _ h => .inl h⟩⟩
  · have := hs.1
    rw [hv]
    simpa [List.map_set] using this
  · refine h.rt.kept hs.2 ?_
    cases e : vt.ownBlock with
    | none => exact .inl rfl
    | some k => exact .inr (fun e' => h.nst hg (by rw [e, e']))
  · simpa using h.les

/-- The list is another one. -/
theorem IsMk.setTodo {w1 : World} {v' : Value} {T' : List Nat} (h : IsMk n₁ bm vs vt w m) (hg : w.grownBy w1 vt.ownBlock) (hown : w1.ownsRow n₁ 2 1 v' T'.length (T'.map pv)) (hT : T'.length ≤ 1048576) (hb : v'.ownBlock = vt.ownBlock ∨ ∀ k, v'.ownBlock = some k → w.heap.size ≤ k) :
    IsMk n₁ bm vs v' (w1.setCell ⟨bm, 1, none⟩ v') { m with T := T' } ∧ MStep bm vs vt w v' (w1.setCell ⟨bm, 1, none⟩ v') := by
  have hne : some bm ≠ vt.ownBlock := fun e => h.nt e.symm
  have hlt := h.lt
  have hb1 : w1.heap[bm]? = some (.cells #[vs, vt] 122 (0, 0)) := (hg.block bm hlt hne).trans h.blk
  have hnew : v'.ownBlock ≠ some bm := by
    intro e
    rcases hb with e' | e'
    · exact h.nt (e' ▸ e)
    · have := e' bm e; omega
  have hs1 : w1.ownsRow n₁ 4 1 vs m.S.length (m.S.map Value.bool) := row_kept h.rs (fun k e => hg.block k (h.rs.lt k e).2 (fun e' => h.nst e e'.symm))
  refine ⟨⟨h.base, ?_, ?_, ?_, h.les, hT⟩, ⟨by show w1.os = _; exact hg.os, by show w1.tape = _; exact hg.tape, by show w1.output = _; exact hg.output, by simp [World.setCell]; exact hg.size, ?_, ?_⟩⟩
  · have := heap_setCell_same w1 bm 1 _ 122 v' hb1
    simpa using this
  · exact row_kept hs1 (fun k e => heap_setCell_other w1 ⟨bm, 1, none⟩ k _ (fun e' => h.ns (by rw [e, e'])))
  · exact row_kept hown (fun k e => heap_setCell_other w1 ⟨bm, 1, none⟩ k _ (fun e' => hnew (by rw [e, e'])))
  · intro k hk h1 h2 h3
    exact (heap_setCell_other w1 ⟨bm, 1, none⟩ k _ h1).trans (hg.block k hk h3)
  · intro k e
    rcases hb with e' | e'
    · exact .inl (e' ▸ e)
    · exact .inr (e' k e)

set_option maxRecDepth 20000 in
set_option maxHeartbeats 1000000 in
theorem add_seen (h : IsMk n₁ bm vs vt w m) (p : Nat) (hp : m.S[p]? = some true) : Calls Tryz.prog 73 #[.pointer (some ⟨bm, 0, none⟩), .int .i64 p] w fun e w' => e = .returned (.tuple #[]) ∧ w' = w := by
  have hlt : p < m.S.length := (List.getElem?_eq_some_iff.1 hp).1
  have hle := h.les
  obtain ⟨g, c, rfl, hc1, hc2⟩ := IsAr.row_some h.rs (by omega)
  have d0 := h.c0
  have d1 : w.cell? ⟨g, p, none⟩ = some (.bool true) := by
    rw [h.rs.cellAt _ (by omega)]; simp [hp]
  obtain ⟨S, T⟩ := m
  simp only at *
  obtain ⟨n, hn⟩ : ∃ n, S.length = n := ⟨_, rfl⟩
  rw [hn] at d0 hlt hle
  clear h hp hn hc1 hc2
  go_enter Tryz.func73, Tryz.ntmps73
  go_wp2
  refine bodyPost_end (results_none (by rfl) _ _ _) (by rfl) ?_
  exact ⟨rfl, rfl⟩

set_option maxRecDepth 20000 in
set_option maxHeartbeats 1000000 in
theorem add_new (h : IsMk n₁ bm vs vt w m) (p : Nat) (hp : m.S[p]? = some false) (hT : m.T.length < 1048576) : Calls Tryz.prog 73 #[.pointer (some ⟨bm, 0, none⟩), .int .i64 p] w fun e w' => e = .returned (.tuple #[]) ∧
    ∃ vt', IsMk n₁ bm vs vt' w' ⟨m.S.set p true, m.T ++ [p]⟩ ∧ MStep bm vs vt w vt' w' := by
  have hlt : p < m.S.length := (List.getElem?_eq_some_iff.1 hp).1
  have hle := h.les
  obtain ⟨g, c, rfl, hc1, hc2⟩ := IsAr.row_some h.rs (by omega)
  have d0 := h.c0
  have d1 : w.cell? ⟨g, p, none⟩ = some (.bool false) := by
    rw [h.rs.cellAt _ (by omega)]; simp [hp]
  obtain ⟨h2, s2⟩ := h.setSeen (i := p) rfl
  have hfr : w.frozen? ⟨g, p, none⟩ = false := by
    obtain ⟨cur, hc⟩ := IsAr.row_type h.rs (k := g) rfl
    exact frozen_of_row w g p _ _ hc
  have d2 := h2.c0
  have d3 := h2.c1
  have f3 := h2.f 1
  obtain ⟨S, T⟩ := m
  obtain ⟨pt, ct, rfl, ht1, ht2⟩ := IsAr.row_form h.rt
  have H : Hid _ := h
  have H2 : Hid _ := h2
  have S2 : Hid _ := s2
  simp only at *
  obtain ⟨n, hn⟩ : ∃ n, S.length = n := ⟨_, rfl⟩
  obtain ⟨tn, htn⟩ : ∃ tn, T.length = tn := ⟨_, rfl⟩
  rw [hn] at d0 hlt hle d2
  rw [htn] at d3 hT
  have HN : Hid _ := hn
  have HT : Hid _ := htn
  have hrt : (w.setCell ⟨g, p, none⟩ (.bool true)).ownsRow n₁ 2 1 (.slice pt tn ct) tn (T.map pv) := by rw [← htn]; exact h2.rt
  obtain ⟨i0, hi, hz0, hz1, hz2⟩ := info_parts info2
  have hsz : n₁ ≤ (w.setCell ⟨g, p, none⟩ (.bool true)).heap.size := Nat.le_trans h2.base (Nat.le_of_lt h2.lt)
  clear h h2 s2 hp hn htn hc1 hc2
  go_enter Tryz.func73, Tryz.ntmps73
  obtain ⟨W, hW⟩ : ∃ W, w.setCell ⟨g, p, none⟩ (.bool true) = W := ⟨_, rfl⟩
  have hsW : w.heap.size = W.heap.size := by rw [← hW]; simp [World.setCell]
  have D3 : W.cell? ⟨bm, 1, none⟩ = some (.slice pt tn ct) := by rw [← hW]; exact d3
  have F3 : W.frozen? ⟨bm, 1, none⟩ = false := by rw [← hW]; exact f3
  rw [hW] at hrt hsz
  have hnt : some bm ≠ Value.ownBlock (.slice pt tn ct) := by have := H.out.nt; rw [HT.out] at this; exact fun e => this e.symm
  have hbm : bm < W.heap.size := by rw [← hsW]; exact H.out.lt
  have HW : Hid _ := hW
  clear hW
  go_wp2_with (at_builtin; refine stop_here ?_)
  unfold Stopped
  rw [HW.out]
  refine wpList_append_lies _ rfl _ _ 22 rfl n₁ 2 i0 (.int .i64 0) 1 8 Tryz.underlying22 hi hz0 hz1 hz2 rfl (by decide) _ tn _ rfl (hrt.alloc _) ⟨W.heap.size, 0, none⟩ 1 1 [.int .i64 p] rfl rfl (cell_one_new _ _ _) (by simp [Value.oneCell']) (by omega) (by unfold maxLen; omega) (by omega) (by simp; omega) (W.heap.size + 1) (by simp) ?_
  intro g4 c4 w4 hown4 hgrow4 hb4 hl4
  have f4 : w4.frozen? ⟨bm, 1, none⟩ = false := (hgrow4.frozen_far _ (by simp; omega) hnt).trans ((World.frozen?_of_block (a := ⟨bm, 1, none⟩) (Below.heap_alloc _ _ bm hbm)).trans F3)
  have d4 : w4.cell? ⟨bm, 1, none⟩ = some (.slice pt tn ct) := (hgrow4.cell_far _ (by simp; omega) hnt).trans ((World.cell?_of_block (a := ⟨bm, 1, none⟩) (Below.heap_alloc _ _ bm hbm)).trans D3)
  go_wp2
  refine bodyPost_end (results_none (by rfl) _ _ _) (by rfl) ?_
  have h2 := H2.out
  rw [HW.out] at h2
  have s2 := S2.out
  rw [HW.out] at s2
  have hgW : W.grownBy w4 (Value.ownBlock (.slice pt T.length ct)) := by
    rw [HT.out]
    exact ⟨hgrow4.os, hgrow4.tape, hgrow4.output, Nat.le_trans (by simp) hgrow4.size, fun k hk hn => (hgrow4.block k (by simp; omega) hn).trans (Below.heap_alloc _ _ k hk)⟩
  obtain ⟨h5, s5⟩ := h2.setTodo (T' := T ++ [p]) hgW (by simpa [pv, HT.out] using hown4) (by simp [HT.out]; omega) (by
    rcases hb4 with e | e
    · left; rw [HT.out]; exact e.symm
    · right; intro k hk; simp [Value.ownBlock] at hk; omega)
  exact ⟨rfl, _, h5, s2.trans s5⟩

end Go.Proofs.YtkombdkhodjckaaGreat

namespace Go.Proofs.YtkombdkhodjckaaGreat
set_option linter.unusedVariables false
set_option linter.unusedSimpArgs false
open Go.RowKit

variable {n₁ bm : Nat} {vs vt : Value} {w : World} {m : Mk}

theorem mark_in (h : IsMk n₁ bm vs vt w m) (p : Nat) (hp : p < m.S.length) (hT : m.room ≤ 1048576) : Calls Tryz.prog 73 #[.pointer (some ⟨bm, 0, none⟩), .int .i64 p] w fun e w' => e = .returned (.tuple #[]) ∧
    ∃ vt', IsMk n₁ bm vs vt' w' (m.add p) ∧ MStep bm vs vt w vt' w' := by
  cases hx : m.S[p]? with
  | none => rw [List.getElem?_eq_none_iff] at hx; omega
  | some y =>
    cases y with
    | true =>
      refine (add_seen h p hx).mono ?_
      rintro e w' ⟨he, rfl⟩
      refine ⟨he, vt, ?_, MStep.refl _ _ _ _⟩
      rw [Mk.add, if_pos hx]; exact h
    | false =>
      have := unseen_set hx
      refine (add_new h p hx (by unfold Mk.room at hT; omega)).mono ?_
      rintro e w' ⟨he, vt', h', hS⟩
      refine ⟨he, vt', ?_, hS⟩
      rw [Mk.add, if_neg (by rw [hx]; simp)]; exact h'

set_option maxRecDepth 20000 in
set_option maxHeartbeats 1000000 in
theorem next_none (h : IsMk n₁ bm vs vt w m) (hT : m.T = []) : Calls Tryz.prog 74 #[.pointer (some ⟨bm, 0, none⟩)] w fun e w' => e = .returned (.tuple #[.int .i64 0, .bool false]) ∧ w' = w := by
  have d1 := h.c1
  obtain ⟨p, c, rfl, _, _⟩ := IsAr.row_form h.rt
  rw [hT] at d1
  clear h hT
  go_enter Tryz.func74, Tryz.ntmps74
  go_wp2
  go_ret2
  exact ⟨rfl, rfl⟩

set_option maxRecDepth 20000 in
set_option maxHeartbeats 1000000 in
theorem next_some {S : List Bool} {T : List Nat} {p : Nat} (h : IsMk n₁ bm vs vt w ⟨S, T ++ [p]⟩) : Calls Tryz.prog 74 #[.pointer (some ⟨bm, 0, none⟩)] w fun e w' => e = .returned (.tuple #[.int .i64 p, .bool true]) ∧
    ∃ vt', IsMk n₁ bm vs vt' w' ⟨S, T⟩ ∧ MStep bm vs vt w vt' w' := by
  have d1 := h.c1
  have f1 := h.f 1
  have hle := h.let_
  obtain ⟨g, c, rfl, hc1, hc2⟩ := IsAr.row_some h.rt (by simp)
  have d2 : w.cell? ⟨g, T.length, none⟩ = some (.int .i64 p) := by
    rw [h.rt.cellAt _ (by simp)]; simp [pv]
  have hrow := row_shorter' h.rt (m := T.length) (by simp)
  have hg : w.grownBy w (Value.ownBlock (.slice (some ⟨g, 0, none⟩) (T ++ [p]).length c)) := ⟨rfl, rfl, rfl, Nat.le_refl _, fun _ _ _ => rfl⟩
  obtain ⟨h5, s5⟩ := h.setTodo (T' := T) (v' := .slice (some ⟨g, 0, none⟩) T.length c) hg (by simpa using hrow) (by simp at hle; omega) (.inl rfl)
  simp only [List.length_append, List.length_cons, List.length_nil, Nat.zero_add] at d1 hle hc1 h5 s5 ⊢
  have H5 : Hid _ := h5
  have S5 : Hid _ := s5
  obtain ⟨n, hn⟩ : ∃ n, T.length = n := ⟨_, rfl⟩
  rw [hn] at d1 d2 hle hc1
  have HN : Hid _ := hn
  clear h h5 s5 hrow hg hn
  have e1 : (((n + 1 : Nat) : Int) == 0) = false := by simp; omega
  go_enter Tryz.func74, Tryz.ntmps74
  go_wp2
  go_ret2
  obtain rfl := HN.out
  exact ⟨rfl, _, H5.out, S5.out⟩

/-- The places that are marked, rising, from a place on. -/
def marked : Nat → List Bool → List Nat
  | _, [] => []
  | i, x :: r => if x then i :: marked (i + 1) r else marked (i + 1) r

theorem marked_append : ∀ (A B : List Bool) (i : Nat), marked i (A ++ B) = marked i A ++ marked (i + A.length) B
  | [], _, _ => by simp [marked]
  | x :: A, B, i => by
    have := marked_append A B (i + 1)
    simp only [List.cons_append, marked, this, List.length_cons, show i + (A.length + 1) = i + 1 + A.length by omega]
    split <;> simp

theorem marked_length : ∀ (A : List Bool) (i : Nat), (marked i A).length ≤ A.length
  | [], _ => Nat.le_refl _
  | x :: A, i => by
    have := marked_length A (i + 1)
    unfold marked
    split <;> simp <;> omega

set_option maxRecDepth 20000 in
set_option maxHeartbeats 1000000 in
theorem places_mk (h : IsMk n₁ bm vs vt w m) : Calls Tryz.prog 77 #[.pointer (some ⟨bm, 0, none⟩)] w fun e w' => ∃ p c, e = .returned (.slice p (marked 0 m.S).length c) ∧
    w'.ownsRow w.heap.size 2 1 (.slice p (marked 0 m.S).length c) (marked 0 m.S).length ((marked 0 m.S).map pv) ∧ Below w.heap.size w w' := by
  have hle := h.les
  have d0 := h.c0
  obtain ⟨S, T⟩ := m
  simp only at *
  obtain ⟨p, c, rfl, _, _⟩ := IsAr.row_form h.rs
  obtain ⟨i0, hi, hz0, hz1, hz2⟩ := info_parts info2
  have hrs := h.rs
  simp only at hrs
  clear h
  go_enter Tryz.func77, Tryz.ntmps77
  go_wp2
  go_loopw [3, 11] (fun out k wr => ∃ (l r : List Bool), S = l ++ r ∧ k = .int .i64 l.length ∧ wr.ownsRow w.heap.size 2 1 out (marked 0 l).length ((marked 0 l).map pv) ∧ Below w.heap.size w wr) (fun _ k _ => S.length - (intOf k).toNat)
  case atStart => exact ⟨[], S, rfl, rfl, World.ownsRow_nil _ _ _ _, Below.refl _ _⟩
  case round =>
    obtain ⟨l, r, hR, rfl, hrow, hB⟩ := hrel
    cases r with
    | nil =>
      have hR' : S = l := by simpa using hR
      have hq : ¬ ((l.length : Int) < (S.length : Int)) := by rw [hR']; omega
      have E1 : Hid _ := hR'
      obtain ⟨p1, c1, hv, _, _⟩ := IsAr.row_form hrow
      have E2 : Hid _ := hv
      clear hR hR' hv
      go_wp2
      go_ret
      have e := E2.out
      refine ⟨p1, c1, ?_, ?_, hB⟩
      · rw [E1.out, ← e]; rfl
      · rw [E1.out, ← e]; exact hrow
    | cons x r =>
      have hlR : l.length < S.length := by rw [hR]; simp
      have hml := marked_length l 0
      have d2 : ∃ g, p = some ⟨g, 0, none⟩ ∧ wr.cell? ⟨g, l.length, none⟩ = some (.bool x) := by
        obtain ⟨g, c', e, _, _⟩ := IsAr.row_some hrs (by omega)
        simp at e
        obtain ⟨rfl, rfl⟩ := e
        refine ⟨g, rfl, ?_⟩
        rw [(row_kept hrs (fun k hk => hB.block k (hrs.lt k hk).2)).cellAt _ (by omega), hR]
        simp
      obtain ⟨g, rfl, d2⟩ := d2
      have HR : Hid (S = l ++ x :: r) := hR
      have hsz := hB.size
      have e1 : (((l ++ [x]).length : Nat) : Int) = l.length + 1 := by simp
      clear hR
      cases x with
      | true =>
        go_wp2_with (at_builtin; refine wpList_append_own _ rfl _ _ 22 rfl w.heap.size 2 i0 (.int .i64 0) 1 8 Tryz.underlying22 hi hz0 hz1 hz2 rfl (by decide) _ (marked 0 l).length _ rfl (hrow.alloc _) ⟨wr.heap.size, 0, none⟩ 1 1 [.int .i64 l.length] rfl rfl (cell_one_new _ _ _) (by simp [Value.oneCell']) (by unfold maxLen; omega) (by omega) (by simp; omega) ?_; intro v4 w4 hown4 hgrow4 _)
        go_roundw
        case rel =>
          refine ⟨l ++ [true], r, by have := HR.out; simpa using this, by rw [e1], ?_, ?_⟩
          · simpa [pv, marked_append, marked] using hown4
          · exact (hB.alloc hB.size _).trans (rbelow_grown hgrow4 (fun q e => (hrow.lt q e).1) (by simp; omega))
        case measure => simp [intOf]; omega
      | false =>
        go_wp2
        go_roundw
        case rel =>
          refine ⟨l ++ [false], r, by have := HR.out; simpa using this, by rw [e1], ?_, hB⟩
          simpa [marked_append, marked] using hrow
        case measure => simp [intOf]; omega

set_option maxHeartbeats 400000 in
theorem taken_in {n₀ bh b lim used : Nat} {vw vb : Value} {l r : List Ob} {o : Ob} (h : Hp n₀ bh b vw vb w lim used (l ++ o :: r)) :
    Calls Tryz.prog 78 #[.pointer (some ⟨bh, 0, none⟩), .int .i64 o.at_] w fun e w' => e = .returned (.int .i64 (o.ws.length + 1 : Nat)) ∧ w' = w := by
  have h1 := sizeM h
  have hb : o.ws.length ≤ 1048576 := by
    have := h.srt.2 o (by simp); have := h.le; unfold Ob.end_ at *; omega
  clear h
  go_enter Tryz.func78, Tryz.ntmps78
  go_wp2_with (go_at_call 98; refine h1.mono ?_; clear h1; rintro e w' ⟨rfl, rfl⟩)
  go_ret
  exact ⟨rfl, rfl⟩

end Go.Proofs.YtkombdkhodjckaaGreat

namespace Go.Proofs.YtkombdkhodjckaaGreat
set_option linter.unusedVariables false
set_option linter.unusedSimpArgs false
open Go.RowKit Go.Shelf

attribute [local go_sem] Oper.semAt_some

variable {n₀ bh b lim used : Nat} {vw vb : Value} {w : World} {M : List Ob}

theorem infoVal : (Tryz.prog.info? 29).map (·.size) = some 2 := by kernel_rfl

/-- The kind, and the number, of a value held in two words. -/
def heldK (k : Nat) : Nat := if k ≤ 7 then k else 0

def heldN (k n : Nat) : Int := if k ≤ 7 then wrap64 (n : Int) else 0

theorem wrap_at {M : List Ob} (hu : ∀ o ∈ M, o.at_ < 1048576) {n : Nat} (hn : n < 18446744073709551616) (k : Nat) : Is M k (wrap64 (n : Int)) ↔ Is M k (n : Int) := by
  have ew : wrap64 (n : Int) = if n < 9223372036854775808 then (n : Int) else n - 18446744073709551616 := by
    simp only [wrap64]; split <;> omega
  unfold Is
  rw [ew]
  constructor
  · rintro ⟨o, ho, e, e2⟩
    have := hu o ho
    exact ⟨o, ho, by omega, e2⟩
  · rintro ⟨o, ho, e, e2⟩
    have := hu o ho
    exact ⟨o, ho, by omega, e2⟩

theorem held_leads {M : List Ob} (hu : ∀ o ∈ M, o.at_ < 1048576) {k n : Nat} (hn : n < 18446744073709551616) : Leads M (heldK k) (heldN k n) ↔ Leads M k n := by
  unfold heldK heldN
  split
  · unfold Leads
    rw [wrap_at hu hn]
  · constructor
    · rintro ⟨h, _⟩; omega
    · rintro ⟨_, h, _⟩; omega

theorem held_at {M : List Ob} (hu : ∀ o ∈ M, o.at_ < 1048576) {k n : Nat} (hn : n < 18446744073709551616) (h : Leads M k n) : heldN k n = n := by
  obtain ⟨_, h7, o, ho, e, _⟩ := h
  have := hu o ho
  unfold heldN
  rw [if_pos h7]
  simp only [wrap64]
  omega

set_option maxRecDepth 20000 in
set_option maxHeartbeats 1000000 in
theorem held_in {l r : List Ob} {o : Ob} (h : Hp n₀ bh b vw vb w lim used (l ++ o :: r)) (i k n : Nat) (hk : o.ws[i]? = some k) (hn : o.ws[i + 1]? = some n) :
    Calls Tryz.prog 124 #[.pointer (some ⟨bh, 0, none⟩), .int .i64 o.at_, .int .i64 i] w fun e w' => e = .returned (.agg #[.int .u8 (heldK k), .int .i64 (heldN k n)]) ∧ Below w.heap.size w w' := by
  have h1 := fun w' (hB : Below w.heap.size w w') => readM (h.below hB) i k hk
  have h2 := fun w' (hB : Below w.heap.size w w') => readM (h.below hB) (i + 1) n hn
  have hk64 := h.word_lt hk
  have hn64 := h.word_lt hn
  have hi : i + 1 < 1048577 := by
    have := h.srt.2 o (by simp); have := h.le; have := (List.getElem?_eq_some_iff.1 hn).1; unfold Ob.end_ at *; omega
  clear h hk hn
  rw [show ((i + 1 : Nat) : Int) = (i : Int) + 1 by simp] at h2
  by_cases h7 : k ≤ 7
  · have e1 : heldK k = k := by simp [heldK, h7]
    have e2 : heldN k n = wrap64 n := by simp [heldN, h7]
    rw [e1, e2]
    clear e1 e2
    have h7' : ¬ ((7 : Int) < (k : Int)) := by omega
    go_enter Tryz.func124, Tryz.ntmps124
    go_wp2_with (first
      | (go_at_call 115; refine (h1 _ (below1 _ _)).mono ?_; clear h1; rintro e w' ⟨rfl, rfl⟩)
      | (go_at_call 115; refine (h2 _ (below1 _ _)).mono ?_; clear h2; rintro e w' ⟨rfl, rfl⟩))
    refine bodyPost_ret (results_cell_row (by rfl) _ _ w.heap.size 29 _ _ _ (by rfl) (heap_alloc_new w _) Tryz.underlying29 (by rfl) infoVal) (by rfl) ?_
    exact ⟨rfl, below1 _ _⟩
  · have e1 : heldK k = 0 := by simp [heldK, h7]
    have e2 : heldN k n = 0 := by simp [heldN, h7]
    rw [e1, e2]
    clear e1 e2
    have h7' : ((7 : Int) < (k : Int)) := by omega
    go_enter Tryz.func124, Tryz.ntmps124
    go_wp2_with (first
      | (go_at_call 115; refine (h1 _ (below1 _ _)).mono ?_; clear h1; rintro e w' ⟨rfl, rfl⟩))
    refine bodyPost_ret (results_cell_row (by rfl) _ _ w.heap.size 29 _ _ _ (by rfl) (heap_alloc_new w _) Tryz.underlying29 (by rfl) infoVal) (by rfl) ?_
    exact ⟨rfl, below1 _ _⟩

end Go.Proofs.YtkombdkhodjckaaGreat
