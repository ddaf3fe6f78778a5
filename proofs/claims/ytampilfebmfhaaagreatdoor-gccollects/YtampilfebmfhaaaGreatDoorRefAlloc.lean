/- The document's Alloc. -/
import Derived.Test.YtampilfebmfhaaaGreatDoorRefWithin
import Derived.Maps.AppendAt
import Derived.Deep.RegionHeld3
import Derived.Deep.AppendLies
import Derived.Deep.RegionLaw
import Derived.Deep.DrawnRows
namespace Go.Proofs.YtampilfebmfhaaaGreatDoor
open Go.RowKit

attribute [local go_sem ↓] Go.wp_at_zero Go.wp_at_succ

variable {n₀ br all en : Nat} {vo : Value} {w : World} {R : List (Ob × Value)}

theorem info94 : (Tryz.prog.info? 85).map (fun i => (i.zero, i.size, i.bytes)) = some (some (.agg #[.int .i64 0, .int .u8 0, .slice none 0 0]), 3, 40) := by kernel_rfl

set_option maxHeartbeats 1000000 in
theorem ralloc_bad (_h : IsRf n₀ br vo w all en R) (k : Nat) (size : Int) (hk : k < 256) (hs : k < 3 ∨ 8 < k ∨ size < 0) :
    Calls Tryz.prog 108 #[.pointer (some ⟨br, 0, none⟩), .int .u8 k, .int .i64 size] w fun e w' => e = .returned (.tuple #[.int .i64 0, .int .i64 1]) ∧ w' = w := by
  have h1 := of_in k w hk
  by_cases hq : 3 ≤ k ∧ k ≤ 8
  · have e : decide (3 ≤ k ∧ k ≤ 8) = true := by simpa using hq
    rw [e] at h1
    have hs' : size < 0 := by omega
    clear e hs hq
    go_enter Tryz.func108, Tryz.ntmps108
    go_wp2_with (go_at_call 182; refine h1.mono ?_; clear h1; rintro e w' ⟨rfl, rfl⟩)
    go_ret2
    exact ⟨rfl, rfl⟩
  · have e : decide (3 ≤ k ∧ k ≤ 8) = false := by simpa using hq
    rw [e] at h1
    clear e hs hq
    go_enter Tryz.func108, Tryz.ntmps108
    go_wp2_with (go_at_call 182; refine h1.mono ?_; clear h1; rintro e w' ⟨rfl, rfl⟩)
    go_ret2
    exact ⟨rfl, rfl⟩

set_option maxHeartbeats 1000000 in
theorem ralloc_full (h : IsRf n₀ br vo w all en R) (k : Nat) (size : Int) (hk : 3 ≤ k) (hk8 : k ≤ 8) (h0 : 0 ≤ size) (hs : (all : Int) - en ≤ size) :
    Calls Tryz.prog 108 #[.pointer (some ⟨br, 0, none⟩), .int .u8 k, .int .i64 size] w fun e w' => e = .returned (.tuple #[.int .i64 0, .int .i64 7]) ∧ ∃ q, w' = w.drewN q := by
  have h1 := of_in k w (by omega)
  have e : decide (3 ≤ k ∧ k ≤ 8) = true := by simpa using ⟨hk, hk8⟩
  rw [e] at h1
  have c0 := h.c0
  have c1 := h.c1
  have b1 := h.en20
  have b2 := h.all20
  clear e h
  go_enter Tryz.func108, Tryz.ntmps108
  go_wp2_with (go_at_call 182; refine h1.mono ?_; clear h1; rintro e w' ⟨rfl, rfl⟩)
  go_quiet (fail)
  go_wp2
  go_ret2
  exact ⟨rfl, _, rfl⟩

theorem makeWords (size : Nat) (hs : size ≤ 1048576) (W : World) :
    (Instr.makeSlice 83 (.int .i64 size) (.int .i64 size)).run Tryz.prog W = .ok (.slice (some ⟨W.heap.size, 0, none⟩) size size) (W.alloc (.cells (madeCells #[.int .u64 0] size) 71)) := by
  obtain ⟨i0, hi, hz0, hz1, hz2⟩ := info_parts info29
  have := run_make (P := Tryz.prog) W 83 71 i0 (.int .u64 0) Tryz.underlying83 hi hz0 .i64 .i64 size size (by omega) (Int.le_refl _) (by rw [hz2]; omega) (by omega)
  rw [hz1] at this
  simpa [Value.cells] using this

theorem below_drewN' {n : Nat} {w w1 : World} (h : Below n w w1) (q : Nat) : Below n w (w1.drewN q) := ⟨h.os, h.tape, h.output, h.size, h.block⟩

theorem RStep.pre {br : Nat} {vo vo' : Value} {R R' : List (Ob × Value)} {w W w' : World} (g : RStep br vo R W vo' R' w') (hB : Below w.heap.size w W) : RStep br vo R w vo' R' w' :=
  ⟨g.os.trans hB.os, g.tape.trans hB.tape, g.output.trans hB.output, Nat.le_trans hB.size g.size, fun k hk hm => (g.block k (Nat.lt_of_lt_of_le hk hB.size) hm).trans (hB.block k hk),
    fun k hm => by
      rcases g.mine k hm with h | h
      · exact .inl h
      · exact .inr (Nat.le_trans hB.size h), fun x hx => by
      rcases g.wrds x hx with h | ⟨k, e, h⟩
      · exact .inl h
      · exact .inr ⟨k, e, Nat.le_trans hB.size h⟩⟩

theorem IsRf.nvo (h : IsRf n₀ br vo w all en R) : vo.ownBlock ≠ some br := by
  intro e; obtain ⟨cur, hc⟩ := IsRf.row_type3 h.row e; rw [h.blk] at hc; simp at hc

theorem IsRf.nwo (h : IsRf n₀ br vo w all en R) {x : Ob × Value} (hx : x ∈ R) {k : Nat} (hk : x.2.ownBlock = some k) : k ≠ br ∧ vo.ownBlock ≠ some k := by
  obtain ⟨cur, hc⟩ := IsAr.row_type (h.wrds x hx).1 hk
  refine ⟨?_, ?_⟩
  · rintro rfl; rw [h.blk] at hc; simp at hc
  · intro e; obtain ⟨cur', hc'⟩ := IsRf.row_type3 h.row e; rw [hc] at hc'; simp at hc'

theorem madeCells_one (z : Value) (n : Nat) : (madeCells #[z] n).toList = List.replicate n z := by
  apply List.ext_getElem?
  intro j
  by_cases hj : j < n
  · simp [madeCells, hj, Nat.mod_one]
  · simp [madeCells, hj]

/-- An object more. -/
theorem IsRf.grown {W w1 w2 : World} (h : IsRf n₀ br vo W all en R) {g cap size k : Nat} (hk : k < 256) (hs : en + size + 1 ≤ all) (hR : R.length < 1048576)
    (hown : w1.ownsRow n₀ 85 3 (.slice (some ⟨g, 0, none⟩) (R.length + 1) cap) (R.length + 1) (rcells R ++ [.int .i64 en, .int .u8 k, .slice (some ⟨W.heap.size, 0, none⟩) size size]))
    (hg : ((W.alloc (.cells (madeCells #[.int .u64 0] size) 71)).alloc (.cells #[.int .i64 en, .int .u8 k, .slice (some ⟨W.heap.size, 0, none⟩) size size] 85)).drew.grownBy w1 vo.ownBlock)
    (hat : vo.ownBlock = some g ∨ g = W.heap.size + 2)
    (hh : w2.heap = ((w1.setCell ⟨br, 2, none⟩ (.slice (some ⟨g, 0, none⟩) (R.length + 1) cap)).setCell ⟨br, 1, none⟩ (.int .i64 (en + size + 1 : Nat))).heap)
    (e1 : w2.os = w1.os) (e2 : w2.tape = w1.tape) (e3 : w2.output = w1.output) :
    IsRf n₀ br (.slice (some ⟨g, 0, none⟩) (R.length + 1) cap) w2 all (en + size + 1) (R ++ [(⟨en, k, List.replicate size 0⟩, .slice (some ⟨W.heap.size, 0, none⟩) size size)]) ∧
    RStep br vo R W (.slice (some ⟨g, 0, none⟩) (R.length + 1) cap) (R ++ [(⟨en, k, List.replicate size 0⟩, .slice (some ⟨W.heap.size, 0, none⟩) size size)]) w2 := by
  have hsz : W.heap.size + 2 ≤ w1.heap.size := by have := hg.size; simpa using this
  have hlt := h.lt
  have hbase : n₀ ≤ W.heap.size := Nat.le_trans h.base (Nat.le_of_lt hlt)
  have hall := h.all20
  have old : ∀ q, q < W.heap.size → vo.ownBlock ≠ some q → w1.heap[q]? = W.heap[q]? := by
    intro q hq hv
    rw [hg.block q (by simp; omega) (fun e => hv e.symm)]
    show ((W.alloc _).alloc _).heap[q]? = _
    rw [Below.heap_alloc _ _ q (by simp; omega), Below.heap_alloc _ _ q hq]
  have hnw : w1.heap[W.heap.size]? = some (.cells (madeCells #[.int .u64 0] size) 71 (0, 0)) := by
    have hv : some W.heap.size ≠ vo.ownBlock := fun e => by have := (h.row.lt _ e.symm).2; omega
    rw [hg.block W.heap.size (by simp; omega) hv]
    show ((W.alloc _).alloc _).heap[W.heap.size]? = _
    rw [Below.heap_alloc _ _ W.heap.size (by simp)]
    exact heap_alloc_new W _
  have hb1 : w1.heap[br]? = some (.cells #[.int .i64 all, .int .i64 en, vo] 88 (0, 0)) := (old br hlt h.nvo).trans h.blk
  have hoth : ∀ q, q ≠ br → w2.heap[q]? = w1.heap[q]? := by
    intro q hq
    rw [hh, heap_setCell_other _ ⟨br, 1, none⟩ q _ hq, heap_setCell_other _ ⟨br, 2, none⟩ q _ hq]
  have hgb : g ≠ br := by
    rintro rfl
    obtain ⟨cur, hc⟩ := IsRf.row_type3 hown rfl; rw [hb1] at hc; simp at hc
  have hW2 : w2.heap.size = w1.heap.size := by rw [hh]; simp [World.setCell]
  refine ⟨⟨h.base, ?_, ?_, ?_, ?_, by simp; omega, ?_, hs, hall⟩, ⟨?_, ?_, ?_, by omega, ?_, ?_, ?_⟩⟩
  · rw [hh]
    have t1 := heap_setCell_same w1 br 2 _ 88 (.slice (some ⟨g, 0, none⟩) (R.length + 1) cap) hb1
    have t2 := heap_setCell_same _ br 1 _ 88 (.int .i64 (en + size + 1 : Nat)) t1
    simpa using t2
  · have := IsRf.row_kept hown (w' := w2) (fun q e => hoth q (by simp [Value.ownBlock] at e; omega))
    simpa [rcells_append, rcells] using this
  · intro x hx
    rcases List.mem_append.1 hx with hx | hx
    · refine ⟨IsRf.row_kept (h.wrds x hx).1 (fun q e => ?_), (h.wrds x hx).2⟩
      obtain ⟨n1, n2⟩ := h.nwo hx e
      exact (hoth q n1).trans (old q ((h.wrds x hx).1.lt q e).2 n2)
    · simp at hx; subst hx
      refine ⟨⟨by simp, .inr ⟨W.heap.size, size, madeCells #[.int .u64 0] size, by simp, hbase, (hoth _ (by omega)).trans hnw, by simp, by unfold maxLen; omega, by simp [madeCells], ?_⟩⟩, W.heap.size, rfl⟩
      rw [madeCells_one]
      simp [wv]
  · simp only [List.map_append, List.map_cons, List.map_nil]
    rw [List.nodup_append]
    refine ⟨h.nod, by simp, ?_⟩
    intro a ha b hb e
    simp [Value.ownBlock] at hb
    obtain ⟨x, hx, rfl⟩ := List.mem_map.1 ha
    have := ((h.wrds x hx).1.lt W.heap.size (e.trans hb)).2
    omega
  · intro x hx
    rcases List.mem_append.1 hx with hx | hx
    · exact h.bnd x hx
    · simp at hx; subst hx; simp; omega
  · rw [e1, hg.os]; rfl
  · rw [e2, hg.tape]; rfl
  · rw [e3, hg.output]; rfl
  · intro q hq hm
    exact (hoth q (fun e => hm (.inl e))).trans (old q hq (fun e => hm (.inr (.inl e))))
  · rintro q (rfl | e | ⟨x, hx, e⟩)
    · exact .inl (.inl rfl)
    · simp [Value.ownBlock] at e
      subst e
      rcases hat with hat | hat
      · exact .inl (.inr (.inl hat))
      · exact .inr (by omega)
    · rcases List.mem_append.1 hx with hx | hx
      · exact .inl (.inr (.inr ⟨x, hx, e⟩))
      · simp at hx; subst hx; simp [Value.ownBlock] at e; exact .inr (by omega)
  · intro x hx
    rcases List.mem_append.1 hx with hx | hx
    · exact .inl ⟨x, hx, rfl⟩
    · simp at hx; subst hx
      exact .inr ⟨W.heap.size, rfl, Nat.le_refl _⟩

set_option maxRecDepth 20000 in
set_option maxHeartbeats 1000000 in
theorem ralloc_ok (h : IsRf n₀ br vo w all en R) (hR : R.length < 1048576) (k size : Nat) (hk : 3 ≤ k) (hk8 : k ≤ 8) (hs : en + size + 1 ≤ all) :
    Calls Tryz.prog 108 #[.pointer (some ⟨br, 0, none⟩), .int .u8 k, .int .i64 size] w fun e w' => e = .returned (.tuple #[.int .i64 en, .int .i64 0]) ∧ ∃ vo' x, IsRf n₀ br vo' w' all (en + size + 1) (R ++ [(⟨en, k, List.replicate size 0⟩, x)]) ∧ RStep br vo R w vo' (R ++ [(⟨en, k, List.replicate size 0⟩, x)]) w' := by
  have h1 := of_in k w (by omega)
  have e : decide (3 ≤ k ∧ k ≤ 8) = true := by simpa using ⟨hk, hk8⟩
  rw [e] at h1
  have c0 := h.c0
  have c1 := h.c1
  have c2 := h.c2
  have b1 := h.en20
  have b2 := h.all20
  have hbr := h.lt
  have hmk := makeWords size (by omega)
  clear e
  go_enter Tryz.func108, Tryz.ntmps108
  go_wp2_with (first | (go_at_call 182; refine h1.mono ?_; clear h1; rintro e w' ⟨rfl, rfl⟩) | fail)
  go_quiet (fail)
  go_wp2_with fail
  obtain ⟨W, hW⟩ : ∃ W, w'.drewN nq = W := ⟨_, rfl⟩
  have hRW : IsRf n₀ br vo W all en R := hW ▸ h.drewN nq
  have hBW : Below w'.heap.size w' W := hW ▸ below_drewN' (Below.refl _ _) nq
  rw [hW]
  have C2 := hRW.c2
  have hbrW := hRW.lt
  clear hW h c0 c1 c2 hbr
  have F2 := hRW.f 2
  have F1 := hRW.f 1
  have C1 := hRW.c1
  obtain ⟨i0, hi, hz0, hz1, hz2⟩ := info_parts info94
  have hnv := hRW.nvo
  have hbase : n₀ ≤ W.heap.size := Nat.le_trans hRW.base (Nat.le_of_lt hRW.lt)
  have HF1 : (((W.alloc (.cells (madeCells #[.int .u64 0] size) 71)).alloc (.cells #[.int .i64 en, .int .u8 k, .slice (some ⟨W.heap.size, 0, none⟩) size size] 85)).drew).frozen? ⟨br, 1, none⟩ = false := by
    rw [← F1]; exact World.frozen?_of_block (a := ⟨br, 1, none⟩) ((Below.heap_alloc _ _ br (by simp; omega)).trans (Below.heap_alloc _ _ br hbrW))
  have HF2 : (((W.alloc (.cells (madeCells #[.int .u64 0] size) 71)).alloc (.cells #[.int .i64 en, .int .u8 k, .slice (some ⟨W.heap.size, 0, none⟩) size size] 85)).drew).frozen? ⟨br, 2, none⟩ = false := by
    rw [← F2]; exact World.frozen?_of_block (a := ⟨br, 2, none⟩) ((Below.heap_alloc _ _ br (by simp; omega)).trans (Below.heap_alloc _ _ br hbrW))
  have HN : (((W.alloc (.cells (madeCells #[.int .u64 0] size) 71)).alloc (.cells #[.int .i64 en, .int .u8 k, .slice (some ⟨W.heap.size, 0, none⟩) size size] 85)).drew).heap[W.heap.size + 1]? = some (.cells #[.int .i64 en, .int .u8 k, .slice (some ⟨W.heap.size, 0, none⟩) size size] 85 (0, 0)) := by
    have := heap_alloc_new (W.alloc (.cells (madeCells #[.int .u64 0] size) 71)) (.cells #[.int .i64 en, .int .u8 k, .slice (some ⟨W.heap.size, 0, none⟩) size size] 85 (0, 0))
    rw [World.size_alloc] at this; exact this
  have HC1 : (((W.alloc (.cells (madeCells #[.int .u64 0] size) 71)).alloc (.cells #[.int .i64 en, .int .u8 k, .slice (some ⟨W.heap.size, 0, none⟩) size size] 85)).drew).cell? ⟨br, 1, none⟩ = some (.int .i64 en) := by
    rw [← C1]; exact World.cell?_of_block (a := ⟨br, 1, none⟩) ((Below.heap_alloc _ _ br (by simp; omega)).trans (Below.heap_alloc _ _ br hbrW))
  have HC2 : (((W.alloc (.cells (madeCells #[.int .u64 0] size) 71)).alloc (.cells #[.int .i64 en, .int .u8 k, .slice (some ⟨W.heap.size, 0, none⟩) size size] 85)).drew).cell? ⟨br, 2, none⟩ = some vo := by
    rw [← C2]; exact World.cell?_of_block (a := ⟨br, 2, none⟩) ((Below.heap_alloc _ _ br (by simp; omega)).trans (Below.heap_alloc _ _ br hbrW))
  go_region_law
    ((refine step_append_lies _ (by rfl) _ _ _ (by rfl) n₀ 85 i0 _ 3 40 Tryz.underlying86 hi hz0 hz1 hz2 rfl (by omega) vo R.length (rcells R) (by rfl) ((hRW.row.alloc _).alloc _).drew
        ⟨W.heap.size + 1, 0, none⟩ 1 1 [.int .i64 en, .int .u8 k, .slice (some ⟨W.heap.size, 0, none⟩) size size] (by rfl) (by rfl) (World.news_of_block (cs := #[.int .i64 en, .int .u8 k, .slice (some ⟨W.heap.size, 0, none⟩) size size]) (t := 85) (fr := (0, 0)) HN) (by simp [Value.oneCell'])
        (by omega) (by unfold maxLen; omega) (by omega) (by simp; omega) (W.heap.size + 2) (by simp) ?_; intro gg cap w1 hown1 hgrow hat hlt; have G1 : w1.frozen? ⟨br, 1, none⟩ = false := (hgrow.frozen_far _ (by simp; omega) (Ne.symm hnv)).trans HF1; have G2 : w1.frozen? ⟨br, 2, none⟩ = false := (hgrow.frozen_far _ (by simp; omega) (Ne.symm hnv)).trans HF2; have G3 : w1.cell? ⟨br, 1, none⟩ = some (.int .i64 en) := (hgrow.cell_far _ (by simp; omega) (Ne.symm hnv)).trans HC1; have G4 : w1.cell? ⟨br, 2, none⟩ = some vo := (hgrow.cell_far _ (by simp; omega) (Ne.symm hnv)).trans HC2))
  all_goals
    go_wp2
    go_ret2
    have e : ((en : Int) + size + 1) = ((en + size + 1 : Nat) : Int) := by simp
    rw [e]
    obtain ⟨g1, g2⟩ := hRW.grown (by omega) hs hR hown1 hgrow hat (w2 := (w1.setCell ⟨br, 2, none⟩ (.slice (some ⟨gg, 0, none⟩) (R.length + 1) cap)).setCell ⟨br, 1, none⟩ (.int .i64 (en + size + 1 : Nat))) rfl rfl rfl rfl
    exact ⟨rfl, _, _, g1, g2.pre hBW⟩

end Go.Proofs.YtampilfebmfhaaaGreatDoor
