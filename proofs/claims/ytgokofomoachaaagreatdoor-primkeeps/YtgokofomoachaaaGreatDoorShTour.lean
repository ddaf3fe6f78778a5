/- show's tour: what is met, what is to be gone to. -/
import Derived.Test.YtgokofomoachaaaGreatDoorShLead
import Derived.Maps.OwnSet
import Derived.Deep.AppendLies
import Derived.Deep.RegionLaw
namespace Go.Proofs.YtgokofomoachaaaGreatDoor
set_option linter.unusedVariables false
set_option linter.unusedSimpArgs false
open Go.RowKit Go.Maps

variable {w : World}

theorem lawI : Keyed Tryz.prog 2 := int_keyed Tryz.underlying2

theorem zeroI (w : World) : (zeroValue 3).run Tryz.prog w = .ok (.int .i64 0) w := by kernel_rfl

theorem wfI {x : Int} (h : -9223372036854775808 ≤ x ∧ x ≤ 9223372036854775807) : (Lit.int .i64 x).wf = true := by
  exact WalkArith.wf_i64 (by omega)

/-- How often objects were met, by their numbers; which are to be gone to. -/
structure Tr where
  cnt : Int → Nat
  todo : List Int

def meet1 (S : List Om) (t : Tr) (v : Vl) : Tr :=
  match leadO S v with
  | none => t
  | some _ => ⟨fun x => if x = v.n then t.cnt x + 1 else t.cnt x, if t.cnt v.n = 0 then t.todo ++ [v.n] else t.todo⟩

def meetL (S : List Om) (t : Tr) (l : List Vl) : Tr := l.foldl (meet1 S) t

/-- The map of counts. -/
def IsCnt (w : World) (bM n : Nat) (cnt : Int → Nat) : Prop :=
  ∃ D : DataW Unit, w.ownsMap Tryz.prog 2 (plainElem Tryz.prog 3) bM n D ∧ ∀ x : Int, D.atKey (.int .i64 x) (.lit (.int .i64 0)) = .lit (.int .i64 (cnt x : Nat)) ∧ cnt x ≤ n

theorem IsCnt.kept {bM n : Nat} {cnt : Int → Nat} (h : IsCnt w bM n cnt) {w' : World} (hk : w'.heap[bM]? = w.heap[bM]?) : IsCnt w' bM n cnt := by
  obtain ⟨D, ⟨es, cl, h1, h2⟩, h3⟩ := h
  exact ⟨D, ⟨es, cl, hk.trans h1, h2⟩, h3⟩

theorem IsCnt.lt {bM n : Nat} {cnt : Int → Nat} (h : IsCnt w bM n cnt) : bM < w.heap.size := by
  obtain ⟨D, h1, _⟩ := h; exact h1.lt

theorem IsCnt.isMap {bM n : Nat} {cnt : Int → Nat} (h : IsCnt w bM n cnt) : ∃ es cl, w.heap[bM]? = some (.map es cl) := by
  obtain ⟨D, ⟨es, cl, h1, h2⟩, h3⟩ := h; exact ⟨es, cl, h1⟩

theorem IsCnt.more {bM n m : Nat} {cnt : Int → Nat} (h : IsCnt w bM n cnt) (hm : n ≤ m) : IsCnt w bM m cnt := by
  obtain ⟨D, h1, h2⟩ := h
  exact ⟨D, h1.mono hm, fun x => ⟨(h2 x).1, Nat.le_trans (h2 x).2 hm⟩⟩

theorem IsCnt.look {bM n : Nat} {cnt : Int → Nat} (h : IsCnt w bM n cnt) (x : Int) (hx : -9223372036854775808 ≤ x ∧ x ≤ 9223372036854775807) :
    (Instr.lookup 310 (.map (some bM)) (.int .i64 x) false).run Tryz.prog w = .ok (.int .i64 (cnt x : Nat)) w := by
  obtain ⟨D, h1, h2⟩ := h
  have hkey : keyOf Tryz.prog 2 (.int .i64 x) = some (.int .i64 x) := keyOf_int_mk Tryz.underlying2 (wfI hx)
  obtain ⟨v, ps, hrun, hv⟩ := h1.lookup lawI Tryz.underlying310 (zeroI w) (plainElem_int Tryz.underlying3 (wfI (by omega))) hkey
  obtain ⟨c, rfl, hc, hwc⟩ := plainElem_int_inv Tryz.underlying3 hv
  rw [hrun]
  have := (h2 x).1
  rw [show D.atKey (.int .i64 x) (.lit (.int .i64 0)) = .lit (.int .i64 c) from congrArg Prod.fst hc] at this
  simp at this
  rw [this]

theorem info2 : (Tryz.prog.info? 2).map (fun i => (i.zero, i.size, i.bytes)) = some (some (.int .i64 0), 1, 8) := by kernel_rfl

/-- A tour in memory. -/
structure IsTo (n₀ bt bM : Nat) (vs vt : Value) (K : Nat) (t : Tr) (w : World) : Prop where
  base : n₀ ≤ bt
  baseM : n₀ ≤ bM
  blk : w.heap[bt]? = some (.cells #[vs, .map (some bM), vt] 312 (0, 0))
  cnt : IsCnt w bM K t.cnt
  todo : w.ownsRow n₀ 2 1 vt t.todo.length (t.todo.map (fun x => Value.int .i64 x))
  len : t.todo.length ≤ K

/-- What a step of a tour may turn. -/
structure TStep (bt bM : Nat) (vt : Value) (w : World) (vt' : Value) (w' : World) : Prop where
  os : w'.os = w.os
  tape : w'.tape = w.tape
  output : w'.output = w.output
  size : w.heap.size ≤ w'.heap.size
  block : ∀ k, k < w.heap.size → k ≠ bt → k ≠ bM → some k ≠ vt.ownBlock → w'.heap[k]? = w.heap[k]?
  fw : ∀ k, vt'.ownBlock = some k → vt.ownBlock = some k ∨ w.heap.size ≤ k

theorem TStep.refl (bt bM : Nat) (vt : Value) (w : World) : TStep bt bM vt w vt w := ⟨rfl, rfl, rfl, Nat.le_refl _, fun _ _ _ _ _ => rfl, fun _ h => .inl h⟩

theorem TStep.trans {bt bM : Nat} {vt vt' vt'' : Value} {w w' w'' : World} (h : TStep bt bM vt w vt' w') (g : TStep bt bM vt' w' vt'' w'') : TStep bt bM vt w vt'' w'' := by
  refine ⟨g.os.trans h.os, g.tape.trans h.tape, g.output.trans h.output, Nat.le_trans h.size g.size, ?_, ?_⟩
  · intro k hk hb hm hv
    refine (g.block k (Nat.lt_of_lt_of_le hk h.size) hb hm ?_).trans (h.block k hk hb hm hv)
    intro e
    rcases h.fw k e.symm with e' | e'
    · exact hv e'.symm
    · omega
  · intro k e
    rcases g.fw k e with e' | e'
    · exact h.fw k e'
    · exact .inr (Nat.le_trans h.size e')

theorem TStep.of_below {bt bM : Nat} {vt : Value} {w w' : World} (h : Below w.heap.size w w') : TStep bt bM vt w vt w' := ⟨h.os, h.tape, h.output, h.size, fun k hk _ _ _ => h.block k hk, fun _ e => .inl e⟩

theorem IsTo.lt {n₀ bt bM K : Nat} {vs vt : Value} {t : Tr} (h : IsTo n₀ bt bM vs vt K t w) : bt < w.heap.size := (Array.getElem?_eq_some_iff.1 h.blk).1

theorem IsTo.below0 {n₀ bt bM K : Nat} {vs vt vt' : Value} {t : Tr} {w' : World} (h : IsTo n₀ bt bM vs vt K t w) (hS : TStep bt bM vt w vt' w') : Below n₀ w w' :=
  ⟨hS.os, hS.tape, hS.output, hS.size, fun k hk => by
    have h1 := h.base; have h2 := h.baseM; have h3 := h.lt
    refine hS.block k (by omega) (by omega) (by omega) (fun e => ?_)
    have := (h.todo.lt k e.symm).1
    omega⟩

theorem IsTo.kept {n₀ bt bM K : Nat} {vs vt : Value} {t : Tr} (h : IsTo n₀ bt bM vs vt K t w) {w' : World} (hk : ∀ k, (k = bt ∨ k = bM ∨ vt.ownBlock = some k) → w'.heap[k]? = w.heap[k]?) : IsTo n₀ bt bM vs vt K t w' :=
  ⟨h.base, h.baseM, (hk _ (.inl rfl)).trans h.blk, h.cnt.kept (hk _ (.inr (.inl rfl))), row_kept h.todo (fun k e => hk k (.inr (.inr e))), h.len⟩

theorem IsTo.below {n₀ bt bM K : Nat} {vs vt : Value} {t : Tr} (h : IsTo n₀ bt bM vs vt K t w) {w' : World} (hB : Below w.heap.size w w') : IsTo n₀ bt bM vs vt K t w' :=
  h.kept (fun k hk => hB.block k (by
    rcases hk with rfl | rfl | e
    · exact h.lt
    · exact h.cnt.lt
    · exact (h.todo.lt k e).2))

theorem IsTo.more {n₀ bt bM K K' : Nat} {vs vt : Value} {t : Tr} (h : IsTo n₀ bt bM vs vt K t w) (hK : K ≤ K') : IsTo n₀ bt bM vs vt K' t w := ⟨h.base, h.baseM, h.blk, h.cnt.more hK, h.todo, Nat.le_trans h.len hK⟩

theorem IsCnt.other {bM n : Nat} {cnt : Int → Nat} (h : IsCnt w bM n cnt) {k : Nat} {cs : Array Value} {ty : TypeId} {fr : Nat × Nat} (hk : w.heap[k]? = some (.cells cs ty fr)) : k ≠ bM := by
  rintro rfl
  obtain ⟨es, cl, h1⟩ := h.isMap
  rw [h1] at hk; cases hk

theorem IsTo.ne {n₀ bt bM K : Nat} {vs vt : Value} {t : Tr} (h : IsTo n₀ bt bM vs vt K t w) : bt ≠ bM := h.cnt.other h.blk

theorem IsTo.cnt_le {n₀ bt bM K : Nat} {vs vt : Value} {t : Tr} (h : IsTo n₀ bt bM vs vt K t w) (x : Int) : t.cnt x ≤ K := by
  obtain ⟨D, g1, g2⟩ := h.cnt
  exact (g2 x).2

/-- One is counted. -/
theorem IsTo.count {n₀ bt bM K : Nat} {vs vt : Value} {t : Tr} (h : IsTo n₀ bt bM vs vt K t w) (x : Int) (hx : -9223372036854775808 ≤ x ∧ x ≤ 9223372036854775807) (hK : K < maxLen) (hK2 : K ≤ 1099511627776) :
    ∃ w2, (Instr.mapUpdate 310 (.map (some bM)) (.int .i64 x) (.int .i64 ((t.cnt x : Nat) + 1))).run Tryz.prog w = .ok () w2 ∧ IsTo n₀ bt bM vs vt (K + 1) ⟨fun y => if y = x then t.cnt y + 1 else t.cnt y, t.todo⟩ w2 ∧ (∀ k, k < w.heap.size → k ≠ bM → w2.heap[k]? = w.heap[k]?) ∧ TStep bt bM vt w vt w2 := by
  obtain ⟨D, g1, g2⟩ := h.cnt
  have hkey : keyOf Tryz.prog 2 (.int .i64 x) = some (.int .i64 x) := keyOf_int_mk Tryz.underlying2 (wfI hx)
  obtain ⟨w2, hrun, hown, hgrow⟩ := g1.update lawI Tryz.underlying310 hK hkey (val := .int .i64 ((t.cnt x : Nat) + 1)) (plainElem_int Tryz.underlying3 (wfI (by have := (g2 x).2; omega)))
  have hbl : ∀ k, k < w.heap.size → k ≠ bM → w2.heap[k]? = w.heap[k]? := fun k hk hne => hgrow.block k hk (fun e => hne (by simpa using e))
  have hms := g1.isMap
  refine ⟨w2, hrun, ⟨h.base, h.baseM, (hbl _ h.lt h.ne).trans h.blk, ⟨_, hown, fun y => ?_⟩, row_kept h.todo (fun k e => ?_), Nat.le_trans h.len (by omega)⟩, hbl, ⟨hgrow.os, hgrow.tape, hgrow.output, hgrow.size, fun k hk _ h2 _ => hbl k hk h2, fun _ e => .inl e⟩⟩
  · by_cases hy : y = x
    · subst hy
      rw [atKey_put_same hms (by simp [WideAt.IsKeyLit])]
      have := (g2 y).2
      simp; omega
    · have hk : (Lit.int .i64 y) ≠ Lit.int .i64 x := by
        intro e
        injection e with _ e
        exact hy e
      rw [atKey_put_other hk, (g2 y).1]
      have := (g2 y).2
      simp [hy]; omega
  · have := h.todo.lt k e
    obtain ⟨cur, hc⟩ := row_obj h.todo e
    exact hbl k this.2 (h.cnt.other hc)

theorem cell_row3 {W : World} {g : Nat} {a b c : Value} {t : TypeId} (h : W.heap[g]? = some (.cells #[a, b, c] t (0, 0))) :
    (W.cell? ⟨g, 0, none⟩ = some a ∧ W.cell? ⟨g, 1, none⟩ = some b ∧ W.cell? ⟨g, 2, none⟩ = some c) ∧ (W.frozen? ⟨g, 0, none⟩ = false ∧ W.frozen? ⟨g, 1, none⟩ = false ∧ W.frozen? ⟨g, 2, none⟩ = false) :=
  ⟨⟨by rw [cell_of_row W g 0 _ _ _ h]; rfl, by rw [cell_of_row W g 1 _ _ _ h]; rfl, by rw [cell_of_row W g 2 _ _ _ h]; rfl⟩, frozen_of_row W g 0 _ _ h, frozen_of_row W g 1 _ _ h, frozen_of_row W g 2 _ _ h⟩

theorem cell_row2 {W : World} {g : Nat} {a b : Value} {t : TypeId} (h : W.heap[g]? = some (.cells #[a, b] t (0, 0))) : W.cell? ⟨g, 0, none⟩ = some a ∧ W.cell? ⟨g, 1, none⟩ = some b :=
  ⟨by rw [cell_of_row W g 0 _ _ _ h]; rfl, by rw [cell_of_row W g 1 _ _ _ h]; rfl⟩

/-- One is put behind what is to be gone to. -/
theorem IsTo.pushed {n₀ bt bM K gg cap : Nat} {vs vt : Value} {t : Tr} {x : Int} {B : Obj} {W3 w5 : World} (h : IsTo n₀ bt bM vs vt K t W3) (hown5 : w5.ownsRow n₀ 2 1 (.slice (some ⟨gg, 0, none⟩) (t.todo.length + 1) cap) (t.todo.length + 1) (t.todo.map (fun x => Value.int .i64 x) ++ [.int .i64 x]))
    (hgrow5 : (W3.drew.alloc B).grownBy w5 vt.ownBlock) (hat : vt.ownBlock = some gg ∨ gg = W3.heap.size + 1) (hK : t.todo.length + 1 ≤ K) :
    IsTo n₀ bt bM vs (.slice (some ⟨gg, 0, none⟩) (t.todo.length + 1) cap) K ⟨t.cnt, t.todo ++ [x]⟩ (w5.setCell ⟨bt, 2, none⟩ (.slice (some ⟨gg, 0, none⟩) (t.todo.length + 1) cap)) ∧ TStep bt bM vt W3 (.slice (some ⟨gg, 0, none⟩) (t.todo.length + 1) cap) (w5.setCell ⟨bt, 2, none⟩ (.slice (some ⟨gg, 0, none⟩) (t.todo.length + 1) cap)) := by
  have hbt := h.lt
  have hbM := h.cnt.lt
  have hbv : some bt ≠ vt.ownBlock := fun e => by
    obtain ⟨cur, hc⟩ := row_obj h.todo e.symm
    rw [h.blk] at hc
    cases hc
  have hMv : some bM ≠ vt.ownBlock := fun e => by
    obtain ⟨cur, hc⟩ := row_obj h.todo e.symm
    exact h.cnt.other hc rfl
  have hg : bt ≠ gg := by
    rintro rfl
    rcases hat with e | e
    · exact hbv e.symm
    · omega
  have old : ∀ k, k < W3.heap.size → some k ≠ vt.ownBlock → w5.heap[k]? = W3.heap[k]? := fun k hk hne => (hgrow5.block k (by simp; omega) hne).trans (Below.heap_alloc W3.drew B k hk)
  have hsz : W3.heap.size ≤ w5.heap.size := by have := hgrow5.size; simp at this; omega
  have hbb := (old bt hbt hbv).trans h.blk
  refine ⟨⟨h.base, h.baseM, ?_, h.cnt.kept ?_, ?_, by simpa using hK⟩, ⟨?_, ?_, ?_, ?_, ?_, ?_⟩⟩
  · have := heap_setCell_same w5 bt 2 _ _ (.slice (some ⟨gg, 0, none⟩) (t.todo.length + 1) cap) hbb
    simpa using this
  · rw [heap_setCell_other _ ⟨bt, 2, none⟩ bM _ (Ne.symm h.ne)]
    exact old bM hbM hMv
  · rw [List.map_append, List.length_append]
    exact row_kept hown5 (fun k e => heap_setCell_other _ ⟨bt, 2, none⟩ k _ (by simp [Value.ownBlock] at e; subst e; exact Ne.symm hg))
  · exact hgrow5.os
  · exact hgrow5.tape
  · exact hgrow5.output
  · simpa [World.setCell] using hsz
  · intro k hk h1 h2 h3
    rw [heap_setCell_other _ ⟨bt, 2, none⟩ k _ h1]
    exact old k hk h3
  · intro k e
    simp [Value.ownBlock] at e
    subst e
    rcases hat with e | e
    · exact .inl e
    · exact .inr (by omega)

set_option maxRecDepth 20000 in
set_option maxHeartbeats 2000000 in
theorem meet_any {w0 : World} {bt bM K c cq : Nat} {vt : Value} {t : Tr} {p q : Option Addr} {S : List Om} {l : List Vl} (hs : IsSt w0 p S) (hl : S.length ≤ maxLen) (hv : ∀ vt1 wr, TStep bt bM vt w vt1 wr → Vals wr q l) (hB : Below w0.heap.size w0 w) (ht : IsTo w0.heap.size bt bM (.slice p S.length c) vt K t w) (hK : K + l.length ≤ 1099511627776) :
    Calls Tryz.prog 148 #[.pointer (some ⟨bt, 0, none⟩), .slice q l.length cq] w fun e w' => e = .returned (.tuple #[]) ∧ ∃ vt', IsTo w0.heap.size bt bM (.slice p S.length c) vt' (K + l.length) (meetL S t l) w' ∧ TStep bt bM vt w vt' w' := by
  obtain ⟨i0, hi, hz0, hz1, hz2⟩ := info_parts info2
  go_enter Tryz.func148, Tryz.ntmps148
  go_wp2
  go_loopw [10] (fun k wr => ∃ (pre rest : List Vl) (vt1 : Value), l = pre ++ rest ∧ k = .int .i64 pre.length ∧ IsTo w0.heap.size bt bM (.slice p S.length c) vt1 (K + pre.length) (meetL S t pre) wr ∧ TStep bt bM vt w vt1 wr) (fun k _ => l.length - (intOf k).toNat)
  case atStart => exact ⟨[], l, vt, rfl, rfl, ht, TStep.refl _ _ _ _⟩
  case round =>
    obtain ⟨pre, rest, vt1, hR, rfl, hto, hS⟩ := hrel
    cases rest with
    | nil =>
      have hR' : l = pre := by simpa using hR
      have hq : ¬ ((pre.length : Int) < (l.length : Int)) := by rw [hR']; omega
      rw [← hR'] at hto
      have HR : Hid _ := And.intro hto hS
      clear hR hR' hto hS
      go_wp2
      go_end0
      exact ⟨rfl, _, HR.out.1, HR.out.2⟩
    | cons v rest =>
      have hlR : pre.length < l.length := by rw [hR]; simp
      have hBr : Below w0.heap.size w0 wr := hB.trans (ht.below0 hS)
      obtain ⟨b0, off, rfl, c0, c1⟩ := (hv _ _ hS) pre.length v (by rw [hR]; simp)
      have HR : Hid _ := hR
      have e1 : (((pre ++ [v]).length : Nat) : Int) = pre.length + 1 := by simp
      clear hR
      have hto1 := hto.below (below1 wr (.cells #[.int .u8 v.k, .int .i64 v.n] 27))
      have hblk := (hto1.below (below1 _ (.cells #[.int .u8 0, .string ⟨#[]⟩, .slice none 0 0, .int .i64 0, .int .i64 0] 96))).blk
      obtain ⟨⟨t0, t1, t2⟩, -⟩ := cell_row3 hblk
      have hvb := heap_alloc_new wr (.cells #[.int .u8 v.k, .int .i64 v.n] 27)
      have hvc := Below.heap_alloc _ (.cells #[.int .u8 0, .string ⟨#[]⟩, .slice none 0 0, .int .i64 0, .int .i64 0] 96) _ (Array.getElem?_eq_some_iff.1 hvb).1 |>.trans hvb
      have hob := heap_two wr (.cells #[.int .u8 v.k, .int .i64 v.n] 27) (.cells #[.int .u8 0, .string ⟨#[]⟩, .slice none 0 0, .int .i64 0, .int .i64 0] 96)
      obtain ⟨v0, v1⟩ := cell_row2 hvc
      have hne1 : bt ≠ wr.heap.size + 1 := by have := hto.lt; omega
      have hne2 : wr.heap.size ≠ wr.heap.size + 1 := by omega
      obtain ⟨⟨a0, a1, a2⟩, -⟩ := cell_row3 hto1.blk
      obtain ⟨y0, y1⟩ := cell_row2 hvb
      cases hlead : leadO S v with
      | none =>
        have H := fun (w1 : World) (hB1 : Below wr.heap.size wr w1) => lead_none (c := c) (hs.below (hBr.trans (hB1.mono hBr.size))) hl hlead
        unfold noObj at H
        go_wp2
        go_region_held3 (fun W => W.cell? ⟨bt, 0, none⟩ = some (.slice p S.length c) ∧ W.cell? ⟨wr.heap.size, 0, none⟩ = some (.int .u8 v.k) ∧ W.cell? ⟨wr.heap.size, 1, none⟩ = some (.int .i64 v.n)) (first | with_reducible exact ⟨a0, y0, y1⟩ | with_reducible exact ⟨t0, v0, v1⟩ | with_reducible exact ⟨s0, x0, x1⟩ | with_reducible exact ⟨(cell_set5 hne1).trans s0, (cell_set5 hne2).trans x0, (cell_set5 hne2).trans x1⟩ | go_keep)
          ((first
            | (go_at_call 236; refine (H _ (below_drew (below2' _ _ _))).mono ?_; rintro e w1 ⟨hB1, rfl⟩; have hk1 := (hB1.block _ (Array.getElem?_eq_some_iff.1 hblk).1).trans hblk; have hk2 := (hB1.block _ (Array.getElem?_eq_some_iff.1 hvc).1).trans hvc; obtain ⟨⟨s0, s1, s2⟩, -⟩ := cell_row3 hk1; obtain ⟨x0, x1⟩ := cell_row2 hk2; have hQ := (below_drew (below1 (wr.alloc (.cells #[.int .u8 v.k, .int .i64 v.n] 27)) (.cells #[.int .u8 0, .string ⟨#[]⟩, .slice none 0 0, .int .i64 0, .int .i64 0] 96))).trans (hB1.mono (below_drew (below1 (wr.alloc (.cells #[.int .u8 v.k, .int .i64 v.n] 27)) (.cells #[.int .u8 0, .string ⟨#[]⟩, .slice none 0 0, .int .i64 0, .int .i64 0] 96))).size); obtain ⟨⟨g0, g1, g2, g3, g4⟩, f0, f1, f2, f3, f4⟩ := cell_row5 ((hB1.block _ (Array.getElem?_eq_some_iff.1 hob).1).trans hob))
            | (go_at_call 236; refine (H _ (below_drew (below1 _ _))).mono ?_; rintro e w1 ⟨hB1, rfl⟩; have hk1 := (hB1.block _ (Array.getElem?_eq_some_iff.1 hto1.blk).1).trans hto1.blk; have hk2 := (hB1.block _ (Array.getElem?_eq_some_iff.1 hvb).1).trans hvb; obtain ⟨⟨s0, s1, s2⟩, -⟩ := cell_row3 hk1; obtain ⟨x0, x1⟩ := cell_row2 hk2; have hQ := (below_drew (Below.refl _ (wr.alloc (.cells #[.int .u8 v.k, .int .i64 v.n] 27)))).trans hB1)))
        all_goals
          first
            | (generalize hWF : World.alloc w1 _ = WF; have hBF : Below (wr.alloc (.cells #[.int .u8 v.k, .int .i64 v.n] 27)).heap.size (wr.alloc (.cells #[.int .u8 v.k, .int .i64 v.n] 27)) WF := (by rw [← hWF]; exact hQ.alloc hQ.size _))
            | (generalize hWF : World.setCell _ ⟨wr.heap.size + 1, 4, none⟩ _ = WF; have hBF : Below (wr.alloc (.cells #[.int .u8 v.k, .int .i64 v.n] 27)).heap.size (wr.alloc (.cells #[.int .u8 v.k, .int .i64 v.n] 27)) WF := (by rw [← hWF]; exact below_set5 hQ (by simp) _ _ _ _ _))
          clear hWF
          go_wp2
          go_roundw
          case rel =>
            have hBG := (below1 wr (.cells #[.int .u8 v.k, .int .i64 v.n] 27)).trans (hBF.mono (below1 wr (.cells #[.int .u8 v.k, .int .i64 v.n] 27)).size)
            refine ⟨pre ++ [v], rest, vt1, by have := HR.out; simpa using this, by rw [e1], ?_, hS.trans (TStep.of_below hBG)⟩
            have e2 : meetL S t (pre ++ [v]) = meetL S t pre := by unfold meetL; rw [List.foldl_append]; simp [meet1, hlead]
            rw [e2]
            exact (hto.below hBG).more (by rw [List.length_append]; omega)
          case measure => simp [intOf]; omega
      | some o =>
        have H := fun (w1 : World) (hB1 : Below wr.heap.size wr w1) => lead_some (c := c) (hs.below (hBr.trans (hB1.mono hBr.size))) hl hlead
        unfold objV at H
        obtain ⟨-, -, -, i, hni, hiS, -⟩ := leadO_some hlead
        have hn64 : -9223372036854775808 ≤ v.n ∧ v.n ≤ 9223372036854775807 := by unfold maxLen at hl; omega
        clear hni hiS
        go_wp2
        go_region_held3 (fun W => W.cell? ⟨bt, 0, none⟩ = some (.slice p S.length c) ∧ W.cell? ⟨wr.heap.size, 0, none⟩ = some (.int .u8 v.k) ∧ W.cell? ⟨wr.heap.size, 1, none⟩ = some (.int .i64 v.n)) (first | with_reducible exact ⟨a0, y0, y1⟩ | with_reducible exact ⟨t0, v0, v1⟩ | with_reducible exact ⟨s0, x0, x1⟩ | with_reducible exact ⟨(cell_set5 hne1).trans s0, (cell_set5 hne2).trans x0, (cell_set5 hne2).trans x1⟩ | go_keep)
          ((first
            | (go_at_call 236; refine (H _ (below_drew (below2' _ _ _))).mono ?_; rintro e w1 ⟨hB1, qo, co, rfl, -⟩; have hk1 := (hB1.block _ (Array.getElem?_eq_some_iff.1 hblk).1).trans hblk; have hk2 := (hB1.block _ (Array.getElem?_eq_some_iff.1 hvc).1).trans hvc; obtain ⟨⟨s0, s1, s2⟩, -⟩ := cell_row3 hk1; obtain ⟨x0, x1⟩ := cell_row2 hk2; have hQ := (below_drew (below1 (wr.alloc (.cells #[.int .u8 v.k, .int .i64 v.n] 27)) (.cells #[.int .u8 0, .string ⟨#[]⟩, .slice none 0 0, .int .i64 0, .int .i64 0] 96))).trans (hB1.mono (below_drew (below1 (wr.alloc (.cells #[.int .u8 v.k, .int .i64 v.n] 27)) (.cells #[.int .u8 0, .string ⟨#[]⟩, .slice none 0 0, .int .i64 0, .int .i64 0] 96))).size); obtain ⟨⟨g0, g1, g2, g3, g4⟩, f0, f1, f2, f3, f4⟩ := cell_row5 ((hB1.block _ (Array.getElem?_eq_some_iff.1 hob).1).trans hob))
            | (go_at_call 236; refine (H _ (below_drew (below1 _ _))).mono ?_; rintro e w1 ⟨hB1, qo, co, rfl, -⟩; have hk1 := (hB1.block _ (Array.getElem?_eq_some_iff.1 hto1.blk).1).trans hto1.blk; have hk2 := (hB1.block _ (Array.getElem?_eq_some_iff.1 hvb).1).trans hvb; obtain ⟨⟨s0, s1, s2⟩, -⟩ := cell_row3 hk1; obtain ⟨x0, x1⟩ := cell_row2 hk2; have hQ := (below_drew (Below.refl _ (wr.alloc (.cells #[.int .u8 v.k, .int .i64 v.n] 27)))).trans hB1)))
        all_goals
          first
            | (generalize hWF : World.alloc w1 _ = WF; have hBF : Below (wr.alloc (.cells #[.int .u8 v.k, .int .i64 v.n] 27)).heap.size (wr.alloc (.cells #[.int .u8 v.k, .int .i64 v.n] 27)) WF := (by rw [← hWF]; exact hQ.alloc hQ.size _))
            | (generalize hWF : World.setCell _ ⟨wr.heap.size + 1, 4, none⟩ _ = WF; have hBF : Below (wr.alloc (.cells #[.int .u8 v.k, .int .i64 v.n] 27)).heap.size (wr.alloc (.cells #[.int .u8 v.k, .int .i64 v.n] 27)) WF := (by rw [← hWF]; exact below_set5 hQ (by simp) _ _ _ _ _))
          have hBG := (below1 wr (.cells #[.int .u8 v.k, .int .i64 v.n] 27)).trans (hBF.mono (below1 wr (.cells #[.int .u8 v.k, .int .i64 v.n] 27)).size)
          have hvF := (hBF.block _ (by simp)).trans hvb
          have htoF := hto1.below hBF
          clear hWF H hB1 hQ s0 s1 s2 x0 x1 hk1 hk2 hob hvb hvc hto1 hblk t0 t1 t2 v0 v1 a0 a1 a2 y0 y1 hne1 hne2 hBF
          obtain ⟨⟨a0, a1, a2⟩, f0, f1, f2⟩ := cell_row3 htoF.blk
          obtain ⟨y0, y1⟩ := cell_row2 hvF
          have htoD := htoF.kept (w' := WF.drew) (fun _ _ => rfl)
          have hrun := htoD.cnt.look v.n hn64
          have hkey : keyOf Tryz.prog 2 (.int .i64 v.n) = some (.int .i64 v.n) := keyOf_int_mk Tryz.underlying2 (wfI hn64)
          obtain ⟨w2, hupd, hto2, hbl2, hS2⟩ := htoD.count v.n hn64 (by unfold maxLen; omega) (by omega)
          have hb2 := (hbl2 _ htoF.lt htoF.ne).trans htoF.blk
          have hv2 := (hbl2 _ (Array.getElem?_eq_some_iff.1 hvF).1 (htoF.cnt.other hvF)).trans hvF
          obtain ⟨⟨b0', b1', b2'⟩, h0', h1', h2'⟩ := cell_row3 hb2
          obtain ⟨z0, z1⟩ := cell_row2 hv2
          have hwc : IntKind.i64.wrap (((meetL S t pre).cnt v.n : Nat) + 1) = ((meetL S t pre).cnt v.n : Nat) + 1 := by
            have := htoF.cnt_le v.n
            rw [IntKind.wrap_i64]; omega
          go_wp2
          go_region_held3 (fun W => W.cell? ⟨bt, 1, none⟩ = some (.map (some bM)) ∧ W.cell? ⟨wr.heap.size, 1, none⟩ = some (.int .i64 v.n)) (first | with_reducible exact ⟨a1, y1⟩ | with_reducible exact ⟨b1', z1⟩ | go_keep) (fail)
          have hS2' : TStep bt bM vt1 wr vt1 w2 := (TStep.of_below hBG).trans ⟨hS2.os, hS2.tape, hS2.output, hS2.size, hS2.block, hS2.fw⟩
          have hrun2 := (hto2.kept (w' := w2.drew) (fun _ _ => rfl)).cnt.look v.n hn64
          simp only [if_true] at hrun2
          clear hrun hupd hBG hvF htoF a0 a1 a2 y0 y1 f0 f1 f2 htoD hS2 hbl2 hb2
          by_cases hc0 : (meetL S t pre).cnt v.n = 0
          · rw [hc0] at hrun2
            have e2 : meetL S t (pre ++ [v]) = ⟨fun y => if y = v.n then (meetL S t pre).cnt y + 1 else (meetL S t pre).cnt y, (meetL S t pre).todo ++ [v.n]⟩ := by
              unfold meetL; rw [List.foldl_append]; simp only [List.foldl_cons, List.foldl_nil, meet1, hlead]; unfold meetL at hc0; rw [if_pos hc0]
            have E2 : Hid _ := e2
            clear e2 hc0
            go_wp2
            go_region_held3 (fun W => W.cell? ⟨bt, 1, none⟩ = some (.map (some bM)) ∧ W.cell? ⟨wr.heap.size, 1, none⟩ = some (.int .i64 v.n)) (first | with_reducible exact ⟨b1', z1⟩ | go_keep) (fail)
            go_wp2
            have hto3 := hto2.kept (w' := w2.drew) (fun _ _ => rfl)
            have hv3 : w2.drew.heap[wr.heap.size]? = _ := hv2
            have hS3 : TStep bt bM vt1 wr vt1 w2.drew := hS2'.trans (TStep.of_below (below_drew (Below.refl _ _)))
            generalize w2.drew = W3 at *
            clear hrun2 b0' b1' b2' h0' h1' h2' z0 z1 hto2 hv2 hS2'
            obtain ⟨⟨b0', b1', b2'⟩, h0', h1', h2'⟩ := cell_row3 hto3.blk
            obtain ⟨z0, z1⟩ := cell_row2 hv3
            have hbt := hto3.lt
            have hbv : some bt ≠ vt1.ownBlock := fun e => by
              obtain ⟨cur, hc⟩ := row_obj hto3.todo e.symm
              rw [hto3.blk] at hc
              cases hc
            have hvv : some wr.heap.size ≠ vt1.ownBlock := fun e => by
              obtain ⟨cur, hc⟩ := row_obj hto3.todo e.symm
              rw [hv3] at hc
              cases hc
            have hbl : (meetL S t pre).todo.length ≤ K + pre.length + 1 := hto3.len
            have hvl := (Array.getElem?_eq_some_iff.1 hv3).1
            have C2 : (W3.drew.alloc (.cells #[.int .i64 v.n] 2)).cell? ⟨bt, 2, none⟩ = some vt1 := (World.cell?_of_block (a := ⟨bt, 2, none⟩) (Below.heap_alloc _ _ bt hbt)).trans b2'
            have C1 : (W3.drew.alloc (.cells #[.int .i64 v.n] 2)).cell? ⟨wr.heap.size, 1, none⟩ = some (.int .i64 v.n) := (World.cell?_of_block (a := ⟨wr.heap.size, 1, none⟩) (Below.heap_alloc _ _ wr.heap.size hvl)).trans z1
            have F2 : (W3.drew.alloc (.cells #[.int .i64 v.n] 2)).frozen? ⟨bt, 2, none⟩ = false := (World.frozen?_of_block (a := ⟨bt, 2, none⟩) (Below.heap_alloc _ _ bt hbt)).trans h2'
            go_region_law
              ((refine step_append_lies _ (by rfl) _ _ _ (by rfl) w0.heap.size 2 i0 _ 1 8 Tryz.underlying177 hi hz0 hz1 hz2 rfl (by omega) vt1 (meetL S t pre).todo.length _ (by rfl) (hto3.todo.drew.alloc _)
                  ⟨W3.heap.size, 0, none⟩ 1 1 [.int .i64 v.n] (by rfl) (by rfl) (World.news_of_block (cs := #[.int .i64 v.n]) (t := 2) (fr := (0, 0)) (heap_alloc_new W3.drew _)) (by simp [Value.oneCell'])
                  (by omega) (by unfold maxLen; omega) (by omega) (by simp; have := hto3.base; omega) (W3.heap.size + 1) (by simp) ?_; intro gg cap w5 hown5 hgrow5 hat5 hlt5
                have q2 := (hgrow5.cell_far _ (by simp; omega) hbv).trans C2; have q1 := (hgrow5.cell_far _ (by simp; omega) hvv).trans C1; have q3 := (hgrow5.frozen_far _ (by simp; omega) hbv).trans F2))
            all_goals
              obtain ⟨p1, p2⟩ := hto3.pushed hown5 hgrow5 hat5 (by have := hto.len; show (meetL S t pre).todo.length + 1 ≤ K + pre.length + 1; omega)
              go_wp2
              go_roundw
              case rel =>
                refine ⟨pre ++ [v], rest, _, by have := HR.out; simpa using this, by rw [e1], ?_, hS.trans (hS3.trans p2)⟩
                rw [E2.out, List.length_append]
                exact p1
              case measure => simp [intOf]; omega
          · have hne0 : (((((meetL S t pre).cnt v.n + 1 : Nat) : Int)) == 1) = false := by simp; omega
            have e2 : meetL S t (pre ++ [v]) = ⟨fun y => if y = v.n then (meetL S t pre).cnt y + 1 else (meetL S t pre).cnt y, (meetL S t pre).todo⟩ := by
              unfold meetL; rw [List.foldl_append]; simp only [List.foldl_cons, List.foldl_nil, meet1, hlead]; unfold meetL at hc0; rw [if_neg hc0]
            have E2 : Hid _ := e2
            clear e2 hc0
            go_wp2
            go_region_held3 (fun W => W.cell? ⟨bt, 1, none⟩ = some (.map (some bM)) ∧ W.cell? ⟨wr.heap.size, 1, none⟩ = some (.int .i64 v.n)) (first | with_reducible exact ⟨b1', z1⟩ | go_keep) (fail)
            go_wp2
            go_roundw
            case rel =>
              refine ⟨pre ++ [v], rest, vt1, by have := HR.out; simpa using this, by rw [e1], ?_, hS.trans (hS2'.trans (TStep.of_below (below_drew (Below.refl _ _))))⟩
              rw [E2.out, List.length_append]
              exact hto2.kept (fun _ _ => rfl)
            case measure => simp [intOf]; omega

theorem meet_in {w0 : World} {bt bM K c cq : Nat} {vt : Value} {t : Tr} {p q : Option Addr} {S : List Om} {l : List Vl} (hs : IsSt w0 p S) (hl : S.length ≤ maxLen) (hv : Vals w0 q l) (hB : Below w0.heap.size w0 w) (ht : IsTo w0.heap.size bt bM (.slice p S.length c) vt K t w) (hK : K + l.length ≤ 1099511627776) :
    Calls Tryz.prog 148 #[.pointer (some ⟨bt, 0, none⟩), .slice q l.length cq] w fun e w' => e = .returned (.tuple #[]) ∧ ∃ vt', IsTo w0.heap.size bt bM (.slice p S.length c) vt' (K + l.length) (meetL S t l) w' ∧ TStep bt bM vt w vt' w' :=
  meet_any hs hl (fun _ _ h => hv.below (hB.trans (ht.below0 h))) hB ht hK

end Go.Proofs.YtgokofomoachaaaGreatDoor
