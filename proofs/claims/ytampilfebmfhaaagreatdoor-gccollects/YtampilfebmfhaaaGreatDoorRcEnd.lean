/- The document's Collect: its worlds. -/
import Derived.Test.YtampilfebmfhaaaGreatDoorRgReach
import Derived.Test.YtampilfebmfhaaaGreatDoorRcMath2
import Derived.Test.YtampilfebmfhaaaGreatDoorRcSame
import Derived.Test.YtampilfebmfhaaaGreatDoorGcVals
namespace Go.Proofs.YtampilfebmfhaaaGreatDoor
set_option linter.unusedVariables false
set_option linter.unusedSimpArgs false
open Go.RowKit

theorem makeInts (size : Nat) (hs : size ≤ 1048576) (W : World) :
    (Instr.makeSlice 29 (.int .i64 size) (.int .i64 size)).run Tryz.prog W = .ok (.slice (some ⟨W.heap.size, 0, none⟩) size size) (W.alloc (.cells (madeCells #[.int .i64 0] size) 2)) := by
  obtain ⟨i0, hi, hz0, hz1, hz2⟩ := info_parts info2
  have := run_make (P := Tryz.prog) W 29 2 i0 (.int .i64 0) Tryz.underlying29 hi hz0 .i64 .i64 size size (by omega) (Int.le_refl _) (by rw [hz2]; omega) (by omega)
  rw [hz1] at this
  simpa [Value.cells] using this

theorem infoOb : (Tryz.prog.info? 85).map (fun i => (i.zero, i.size, i.bytes)) = some (some (.agg #[.int .i64 0, .int .u8 0, .slice none 0 0]), 3, 40) := by kernel_rfl

/-- An object that is being made: the old one's box, the new one's, its words so far. -/
structure NewS (wr : World) (x : Ob × Value) (gw cw t : Nat) (W : World) (vN : Value) (cur : List Nat) : Prop where
  box : W.heap[wr.heap.size]? = some (.cells #[.int .i64 x.1.at_, .int .u8 x.1.kind, .slice (some ⟨gw, 0, none⟩) x.1.ws.length cw] 85 (0, 0))
  new : W.heap[wr.heap.size + 1]? = some (.cells #[.int .i64 t, .int .u8 x.1.kind, vN] 85 (0, 0))
  row : W.ownsRow (wr.heap.size + 2) 71 1 vN x.1.ws.length (cur.map wv)
  bel : Below wr.heap.size wr W

section
variable {wr W : World} {x : Ob × Value} {gw cw t : Nat} {vN : Value} {cur : List Nat}

theorem NewS.size (h : NewS wr x gw cw t W vN cur) : wr.heap.size + 1 < W.heap.size := (Array.getElem?_eq_some_iff.1 h.new).1

theorem NewS.below (h : NewS wr x gw cw t W vN cur) {W' : World} (hB : Below W.heap.size W W') : NewS wr x gw cw t W' vN cur := by
  have hs := h.size
  exact ⟨(hB.block _ (by omega)).trans h.box, (hB.block _ (by omega)).trans h.new, row_kept h.row (fun k e => hB.block k (h.row.lt k e).2), h.bel.trans (hB.mono (by omega))⟩

theorem NewS.b0 (h : NewS wr x gw cw t W vN cur) : W.cell? ⟨wr.heap.size, 0, none⟩ = some (.int .i64 x.1.at_) := by rw [cell_of_row W _ 0 _ _ _ h.box]; rfl

theorem NewS.b1 (h : NewS wr x gw cw t W vN cur) : W.cell? ⟨wr.heap.size, 1, none⟩ = some (.int .u8 x.1.kind) := by rw [cell_of_row W _ 1 _ _ _ h.box]; rfl

theorem NewS.b2 (h : NewS wr x gw cw t W vN cur) : W.cell? ⟨wr.heap.size, 2, none⟩ = some (.slice (some ⟨gw, 0, none⟩) x.1.ws.length cw) := by rw [cell_of_row W _ 2 _ _ _ h.box]; rfl

theorem NewS.n0 (h : NewS wr x gw cw t W vN cur) : W.cell? ⟨wr.heap.size + 1, 0, none⟩ = some (.int .i64 t) := by rw [cell_of_row W _ 0 _ _ _ h.new]; rfl

theorem NewS.n1 (h : NewS wr x gw cw t W vN cur) : W.cell? ⟨wr.heap.size + 1, 1, none⟩ = some (.int .u8 x.1.kind) := by rw [cell_of_row W _ 1 _ _ _ h.new]; rfl

theorem NewS.n2 (h : NewS wr x gw cw t W vN cur) : W.cell? ⟨wr.heap.size + 1, 2, none⟩ = some vN := by rw [cell_of_row W _ 2 _ _ _ h.new]; rfl

theorem NewS.len (h : NewS wr x gw cw t W vN cur) : cur.length = x.1.ws.length := by have := h.row.1; simpa using this

theorem NewS.drew (h : NewS wr x gw cw t W vN cur) : NewS wr x gw cw t W.drew vN cur := ⟨h.box, h.new, row_kept h.row (fun _ _ => rfl), below_drewV h.bel⟩

/-- A word is written. -/
theorem NewS.set {g c : Nat} (h : NewS wr x gw cw t W (.slice (some ⟨g, 0, none⟩) x.1.ws.length c) cur) (j v : Nat) : NewS wr x gw cw t (W.setCell ⟨g, j, none⟩ (.int .u64 v)) (.slice (some ⟨g, 0, none⟩) x.1.ws.length c) (cur.set j v) := by
  have hg := (h.row.lt g rfl).1
  have hst := h.row.stored j (.int .u64 v)
  refine ⟨(heap_setCell_other _ ⟨g, j, none⟩ _ _ (show wr.heap.size ≠ g by omega)).trans h.box, (heap_setCell_other _ ⟨g, j, none⟩ _ _ (show wr.heap.size + 1 ≠ g by omega)).trans h.new, ?_, h.bel.setCell (show wr.heap.size ≤ g by omega) _⟩
  have := hst.1
  rw [List.map_set]
  exact this

theorem NewS.start {w3 : World} {v4 : Value} (hb : W.heap[wr.heap.size]? = some (.cells #[.int .i64 x.1.at_, .int .u8 x.1.kind, .slice (some ⟨gw, 0, none⟩) x.1.ws.length cw] 85 (0, 0)))
    (hn : W.heap[wr.heap.size + 1]? = some (.cells #[.int .i64 t, .int .u8 x.1.kind, .slice none 0 0] 85 (0, 0))) (hB : Below wr.heap.size wr W)
    (hown : w3.ownsRow (wr.heap.size + 2) 71 1 v4 x.1.ws.length (x.1.ws.map wv)) (hg : W.grownBy w3 none) : NewS wr x gw cw t (w3.setCell ⟨wr.heap.size + 1, 2, none⟩ v4) v4 x.1.ws := by
  have hs : wr.heap.size + 1 < W.heap.size := (Array.getElem?_eq_some_iff.1 hn).1
  have hb3 : w3.heap[wr.heap.size]? = _ := (hg.block wr.heap.size (by omega) (by simp)).trans hb
  have hn3 : w3.heap[wr.heap.size + 1]? = _ := (hg.block (wr.heap.size + 1) (by omega) (by simp)).trans hn
  refine ⟨(heap_setCell_other _ ⟨wr.heap.size + 1, 2, none⟩ _ _ (show wr.heap.size ≠ wr.heap.size + 1 by omega)).trans hb3, ?_, ?_, ?_⟩
  · have := heap_setCell_same w3 (wr.heap.size + 1) 2 _ 85 v4 hn3
    simpa using this
  · refine row_kept hown (fun k e => heap_setCell_other _ ⟨wr.heap.size + 1, 2, none⟩ _ _ ?_)
    have := (hown.lt k e).1
    show k ≠ wr.heap.size + 1
    omega
  · have h3 : Below wr.heap.size wr w3 := hB.trans (rbelow_grown hg (fun q e => by simp at e) (by omega))
    exact h3.setCell (show wr.heap.size ≤ wr.heap.size + 1 by omega) _
end

/-- What is made so far. -/
structure ColS (w2 : World) (R : List (Ob × Value)) (f : Ob → Bool) (S : List Bool) (i : Nat) (l : Value) (Rn : List (Ob × Value)) (wr : World) : Prop where
  keys : Rn.map Prod.fst = (((R.map Prod.fst).take i).filter f).map (finOb (R.map Prod.fst) ((R.map Prod.fst).filter f))
  row : wr.ownsRow w2.heap.size 85 3 l Rn.length (rcells Rn)
  wrds : ∀ y ∈ Rn, wr.ownsRow w2.heap.size 71 1 y.2 y.1.ws.length (y.1.ws.map wv)
  tor : wr.ownsRow w2.heap.size 2 1 (.slice (some ⟨w2.heap.size, 0, none⟩) R.length R.length) R.length ((toRow (R.map Prod.fst) f S R.length R.length).map pv)
  bel : Below w2.heap.size w2 wr

section
variable {w2 wr W : World} {R Rn : List (Ob × Value)} {f : Ob → Bool} {S : List Bool} {i : Nat} {l : Value} {x : Ob × Value} {gw cw : Nat} {vN : Value} {vs : List Vl}

theorem ColS.lenR (h : ColS w2 R f S i l Rn wr) : Rn.length ≤ i := by
  have := congrArg List.length h.keys
  simp only [List.length_map] at this
  have h1 := List.length_filter_le f ((R.map Prod.fst).take i)
  simp at h1
  omega

theorem ColS.skip (h : ColS w2 R f S i l Rn wr) (hi : R[i]? = some x) (hf : f x.1 = false) : ColS w2 R f S (i + 1) l Rn wr := by
  refine ⟨?_, h.row, h.wrds, h.tor, h.bel⟩
  rw [take_filter (o := x.1) (by simp [hi]), hf]
  simpa using h.keys

theorem ColS.next (h : ColS w2 R f S i l Rn wr) (hK : Kp R vs f S) (hi : R[i]? = some x) (hf : f x.1 = true)
    (hN : NewS wr x gw cw (toN (R.map Prod.fst) f S i) W vN (relP (R.map Prod.fst) (dst 0 ((R.map Prod.fst).filter f)) x.1.ws (itW (R.map Prod.fst) (dst 0 ((R.map Prod.fst).filter f)) x.1) (pairsI x.1)))
    {w5 : World} {l' : Value} {o : Obj} (hown : w5.ownsRow w2.heap.size 85 3 l' (Rn.length + 1) (rcells Rn ++ [.int .i64 (toN (R.map Prod.fst) f S i), .int .u8 x.1.kind, vN])) (hg : (W.alloc o).grownBy w5 l.ownBlock) :
    ColS w2 R f S (i + 1) l' (Rn ++ [(finOb (R.map Prod.fst) ((R.map Prod.fst).filter f) x.1, vN)]) w5 := by
  have hs2 := h.bel.size
  have hs3 := hN.size
  have hkeep : ∀ k, k < W.heap.size → some k ≠ l.ownBlock → w5.heap[k]? = W.heap[k]? := fun k hk hne => (hg.block k (by simp; omega) hne).trans (Below.heap_alloc _ _ k hk)
  have hrowW := row_kept h.row (fun k e => hN.bel.block k (h.row.lt k e).2)
  have hother : ∀ {e s n : Nat} {v : Value} {xs : List Value} {base : Nat}, e ≠ 85 → W.ownsRow base e s v n xs → w5.ownsRow base e s v n xs := by
    intro e s n v xs base hne hr
    refine row_kept hr (fun k ek => hkeep k (hr.lt k ek).2 (fun el => ?_))
    obtain ⟨c1, hc1⟩ := row_obj hr ek
    obtain ⟨c2, hc2⟩ := row_obj hrowW el.symm
    rw [hc1] at hc2
    injection hc2 with hc2
    injection hc2 with _ hc2
    exact hne hc2
  have hfin : finOb (R.map Prod.fst) ((R.map Prod.fst).filter f) x.1 = ⟨toN (R.map Prod.fst) f S i, x.1.kind, relP (R.map Prod.fst) (dst 0 ((R.map Prod.fst).filter f)) x.1.ws (itW (R.map Prod.fst) (dst 0 ((R.map Prod.fst).filter f)) x.1) (pairsI x.1)⟩ := by
    unfold finOb
    rw [hK.at hi hf, words_links]
  refine ⟨?_, ?_, ?_, ?_, ?_⟩
  · rw [take_filter (o := x.1) (by simp [hi]), if_pos hf]
    simp [h.keys]
  · have e1 : (Rn ++ [(finOb (R.map Prod.fst) ((R.map Prod.fst).filter f) x.1, vN)]).length = Rn.length + 1 := by simp
    rw [e1, rcells_append, hfin]
    exact hown
  · intro y hy
    rcases List.mem_append.1 hy with hy | hy
    · have h1 := h.wrds y hy
      exact hother (by decide) (row_kept h1 (fun k e => hN.bel.block k (h1.lt k e).2))
    · simp at hy
      subst hy
      have h1 := row_mono2 (hother (by decide) hN.row) (show w2.heap.size ≤ wr.heap.size + 2 by omega)
      have h2 := hN.len
      rw [← h2] at h1
      simp only [hfin]
      exact h1
  · exact hother (by decide) (row_kept h.tor (fun k e => hN.bel.block k (h.tor.lt k e).2))
  · have h1 : Below w2.heap.size w2 W := h.bel.trans (hN.bel.mono hs2)
    exact (h1.alloc h1.size o).trans (rbelow_grown hg (fun q e => (h.row.lt q e).1) (by have := h1.size; simp; omega))
end

end Go.Proofs.YtampilfebmfhaaaGreatDoor

namespace Go.Proofs.YtampilfebmfhaaaGreatDoor
set_option linter.unusedVariables false
set_option linter.unusedSimpArgs false
open Go.RowKit

variable {n₀ br all en : Nat} {vo l out : Value} {w w2 wm W : World} {R Rn : List (Ob × Value)} {vs us : List Vl} {f : Ob → Bool} {S : List Bool}

theorem rc_end (h : IsRf n₀ br vo w all en R) (hK : Kp R vs f S) (hB : Below w.heap.size w w2) (hC : ColS w2 R f S R.length l Rn wm) (hBW : Below wm.heap.size wm W) (ho : OwnVals wm.heap.size out us W) {w' : World}
    (hw' : w' = (W.setCell ⟨br, 2, none⟩ l).setCell ⟨br, 1, none⟩ (.int .i64 (sumO ((R.map Prod.fst).filter f) : Nat))) :
    OwnVals w.heap.size out us w' ∧ Rn.map Prod.fst = fin (R.map Prod.fst) ((R.map Prod.fst).filter f) ∧ IsRq n₀ br l w' all (sumO ((R.map Prod.fst).filter f)) Rn ∧ KStep (fun k => k = br) w w' := by
  have hs1 := hB.size
  have hs2 := hC.bel.size
  have hs3 := hBW.size
  have hlt := h.lt
  have hn0 : n₀ ≤ w.heap.size := Nat.le_trans h.base (Nat.le_of_lt hlt)
  have hBall : Below w.heap.size w W := hB.trans ((hC.bel.trans (hBW.mono hs2)).mono hs1)
  have hbr : W.heap[br]? = some (.cells #[.int .i64 all, .int .i64 en, vo] 88 (0, 0)) := (hBall.block br hlt).trans h.blk
  have hoth : ∀ q, q ≠ br → w'.heap[q]? = W.heap[q]? := by
    intro q hq
    rw [hw', heap_setCell_other _ ⟨br, 1, none⟩ q _ hq, heap_setCell_other _ ⟨br, 2, none⟩ q _ hq]
  have keep : ∀ {base e s n : Nat} {v : Value} {xs : List Value}, w.heap.size ≤ base → W.ownsRow base e s v n xs → w'.ownsRow base e s v n xs := fun hb hr => row_kept hr (fun k e => hoth k (by have := (hr.lt k e).1; omega))
  have inW : ∀ {base e s n : Nat} {v : Value} {xs : List Value}, wm.ownsRow base e s v n xs → W.ownsRow base e s v n xs := fun hr => row_kept hr (fun k e => hBW.block k (hr.lt k e).2)
  have hkeys : Rn.map Prod.fst = fin (R.map Prod.fst) ((R.map Prod.fst).filter f) := by
    have := hC.keys
    rw [List.take_of_length_le (by simp)] at this
    exact this
  refine ⟨row_mono2 (keep (by omega) ho) (by omega), hkeys, ⟨h.base, ?_, ?_, ?_, ?_, ?_⟩, ⟨?_, ?_, ?_, ?_, ?_⟩⟩
  · have t1 := heap_setCell_same W br 2 _ 88 l hbr
    have t2 := heap_setCell_same _ br 1 _ 88 (.int .i64 (sumO ((R.map Prod.fst).filter f) : Nat)) t1
    rw [hw']
    simpa using t2
  · exact row_mono2 (keep (by omega) (inW hC.row)) (by omega)
  · intro x hx
    exact row_mono2 (keep (by omega) (inW (hC.wrds x hx))) (by omega)
  · have := hC.lenR
    have := h.le
    omega
  · intro x hx
    have hm : x.1 ∈ fin (R.map Prod.fst) ((R.map Prod.fst).filter f) := by rw [← hkeys]; exact List.mem_map.2 ⟨x, hx, rfl⟩
    obtain ⟨o, ho', e⟩ := List.mem_map.1 hm
    obtain ⟨y, hy, rfl⟩ := List.mem_map.1 (List.mem_filter.1 ho').1
    obtain ⟨b1, b2, b3⟩ := h.bnd y hy
    have hd := dst_le (e := 0) (L := (R.map Prod.fst).filter f) (p := y.1.at_) hK.srt.filter
    rw [← e]
    refine ⟨by simp only; omega, ?_, b3⟩
    simp only [relink_length]
    exact b2
  · rw [hw']; exact hBall.os
  · rw [hw']; exact hBall.tape
  · rw [hw']; exact hBall.output
  · rw [hw']; simp [World.setCell]; omega
  · intro k hk hne
    exact (hoth k hne).trans (hBall.block k hk)

end Go.Proofs.YtampilfebmfhaaaGreatDoor
