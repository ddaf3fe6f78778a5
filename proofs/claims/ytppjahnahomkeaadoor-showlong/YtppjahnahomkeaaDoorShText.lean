/- show's Text. -/
import Derived.Test.YtppjahnahomkeaaDoorShRow
namespace Go.Proofs.YtppjahnahomkeaaDoor
set_option linter.unusedVariables false
set_option linter.unusedSimpArgs false
open Go.RowKit

variable {w : World}

theorem byteCells_len (l : List UInt8) : (Lib.byteCells l).length = l.length := by simp [Lib.byteCells]

theorem freeze_other {W : World} {k g n : Nat} (h : k ≠ g) : (W.freeze ⟨g, 0, none⟩ n).heap[k]? = W.heap[k]? := by
  unfold World.freeze
  split
  · rfl
  · simp only [Array.getElem?_modify]
    rw [if_neg (by omega)]

theorem cellsByte : Tryd.prog.cellsOf 5 = 1 := by kernel_rfl

set_option maxRecDepth 20000 in
set_option maxHeartbeats 1000000 in
/-- The builder's text. -/
theorem pgString_in {n₀ bp : Nat} {vs : Value} {l : List UInt8} (h : IsPg n₀ bp vs l w) (hn : n₀ ≤ w.heap.size) (hl : l.length ≤ 4096) (h0 : l ≠ []) :
    Calls Tryd.prog 20 #[.pointer (some ⟨bp, 0, none⟩)] w fun e w' => e = .returned (.string ⟨l.toArray⟩) ∧ Below n₀ w w' := by
  obtain ⟨hb0, ad, vb, hb, ha, ho, hnil⟩ := h
  clear hnil
  have hl0 : l.length ≠ 0 := by simpa using h0
  obtain ⟨g, cap, cur, rfl, hbg, hg, hnc, hcm, hcs, htake⟩ : ∃ g cap cur, vb = .slice (some ⟨g, 0, none⟩) l.length cap ∧ n₀ ≤ g ∧ w.heap[g]? = some (.cells cur 5 (0, 0)) ∧ l.length ≤ cap ∧ cap ≤ maxLen ∧ cur.size = cap * 1 ∧ cur.toList.take (l.length * 1) = Lib.byteCells l := by
    rcases ho.2 with ⟨_, hz⟩ | ⟨g, cap, cur, hv, r⟩
    · exact absurd hz hl0
    · exact ⟨g, cap, cur, hv, r⟩
  obtain ⟨⟨c0, c1, c2⟩, -⟩ := cell_row3' (W := w.drew) hb
  have hSD : (Builtin.unsafeSliceData_ #[45] 79 #[.slice (some ⟨g, 0, none⟩) l.length cap]).run Tryd.prog w.drew = .ok (.pointer (some ⟨g, 0, none⟩)) w.drew :=
    Lib.run_unsafeSliceData_row _ _ _ _ _ _ (by omega)
  have hUS : (Builtin.unsafeString_ #[79, 3] 9 #[.pointer (some ⟨g, 0, none⟩), .int .i64 l.length]).run Tryd.prog w.drew = .ok (.string ⟨l.toArray⟩) (w.drew.freeze ⟨g, 0, none⟩ l.length) := by
    refine Lib.run_unsafeString_row w.drew 79 3 9 5 Tryd.underlying79 cellsByte g cur.size (by have hg' : w.drew.heap[g]? = some (.cells cur 5 (0, 0)) := hg; simp [World.shape?, hg']) l h0 (by omega) (by unfold maxLen at hcm; omega) ?_
    intro j x hx
    have := ho.cells (g := g) rfl j (.int .u8 x.toNat) (by simp [Lib.byteCells, hx])
    exact this
  have hbg2 : bp ≠ g := by rintro rfl; rw [hb] at hg; cases hg
  have c1' : (w.drew.freeze ⟨g, 0, none⟩ l.length).cell? ⟨bp, 1, none⟩ = some (.slice (some ⟨g, 0, none⟩) l.length cap) := by
    rw [← c1]
    exact World.cell?_of_block (a := ⟨bp, 1, none⟩) (freeze_other hbg2)
  go_enter Tryd.func20, Tryd.ntmps20
  go_wp2
  go_region_held3 (fun W => W.cell? ⟨bp, 1, none⟩ = some (.slice (some ⟨g, 0, none⟩) l.length cap)) (first | with_reducible exact c1 | with_reducible exact c1' | go_keep) (fail)
  all_goals (go_wp2; go_ret; exact ⟨rfl, Lib.below_freeze (below_drew (Below.refl n₀ w)) (p := ⟨g, 0, none⟩) hbg _⟩)

set_option maxRecDepth 20000 in
set_option maxHeartbeats 1000000 in
/-- The builder's text, if nothing was put. -/
theorem pgString_nil {n₀ bp : Nat} {vs : Value} (h : IsPg n₀ bp vs [] w) :
    Calls Tryd.prog 20 #[.pointer (some ⟨bp, 0, none⟩)] w fun e w' => e = .returned (.string ⟨#[]⟩) ∧ Below n₀ w w' := by
  obtain ⟨hb0, ad, vb, hb, ha, ho, hnil⟩ := h
  obtain rfl := hnil rfl
  obtain ⟨⟨c0, c1, c2⟩, -⟩ := cell_row3' (W := w.drew) hb
  have hSD : (Builtin.unsafeSliceData_ #[45] 79 #[.slice none 0 0]).run Tryd.prog w.drew = .ok (.pointer none) w.drew := Lib.run_unsafeSliceData_nil _ _ _ _ _
  have hUS : (Builtin.unsafeString_ #[79, 3] 9 #[.pointer none, .int .i64 0]).run Tryd.prog w.drew = .ok (.string .empty) w.drew := Lib.run_unsafeString_none _ _ _ _ _
  go_enter Tryd.func20, Tryd.ntmps20
  go_wp2
  go_region_held3 (fun W => W.cell? ⟨bp, 1, none⟩ = some (.slice none 0 0)) (first | with_reducible exact c1 | go_keep) (fail)
  all_goals (go_wp2; go_ret; exact ⟨rfl, below_drew (Below.refl n₀ w)⟩)

/-- A value's whole text. -/
def textB (S : List Om) (v : Vl) : List UInt8 := txtV S 9 v

set_option maxRecDepth 20000 in
set_option maxHeartbeats 1000000 in
/-- show's Text, where it fits. -/
theorem Text_fits {p : Option Addr} {S : List Om} (c : Nat) (G : Given w p S) (hll : ∀ o ∈ S, o.l.length ≤ 1048576) (v : Vl) (hf : v.fits) (hfit : (textB S v).length ≤ 4096) :
    Calls Tryd.prog 9 #[.slice p S.length c, .agg #[.int .u8 v.k, .int .i64 v.n]] w fun e w' => e = .returned (.tuple #[.string ⟨(textB S v).toArray⟩, .bool true]) ∧ Below w.heap.size w w' := by
  have hA := below2' w (.cells #[.int .u8 v.k, .int .i64 v.n] 26) (.cells #[.pointer none, .slice none 0 0, .slice p S.length c] 49)
  have hv0 := (Below.heap_alloc (w.alloc (.cells #[.int .u8 v.k, .int .i64 v.n] 26)) (.cells #[.pointer none, .slice none 0 0, .slice p S.length c] 49) w.heap.size (by simp)).trans (heap_alloc_new w (.cells #[.int .u8 v.k, .int .i64 v.n] 26))
  have hp0 := heap_two w (.cells #[.int .u8 v.k, .int .i64 v.n] 26) (.cells #[.pointer none, .slice none 0 0, .slice p S.length c] 49)
  have hpg : IsPg w.heap.size (w.heap.size + 1) (.slice p S.length c) [] ((w.alloc (.cells #[.int .u8 v.k, .int .i64 v.n] 26)).alloc (.cells #[.pointer none, .slice none 0 0, .slice p S.length c] 49)) :=
    ⟨by omega, _, _, hp0, .inl rfl, World.ownsRow_nil _ _ _ _, fun _ => rfl⟩
  obtain ⟨v0, v1⟩ := cell_rowV hv0
  have H1 := puts_fit (value_in (bp := w.heap.size + 1) (c := c) G hll _ [] v hf hA hpg (by simp)) (by simpa [textB] using hfit)
  have H2 := fun (W : World) (h : IsPg w.heap.size (w.heap.size + 1) (.slice p S.length c) ([] ++ txtV S 9 v) W) (hB : Below w.heap.size w W) => show Calls Tryd.prog 20 #[.pointer (some ⟨w.heap.size + 1, 0, none⟩)] W (fun e w' => e = .returned (.string ⟨(textB S v).toArray⟩) ∧ Below w.heap.size W w') from by
    have h' : IsPg w.heap.size (w.heap.size + 1) (.slice p S.length c) (textB S v) W := h
    by_cases he : textB S v = []
    · rw [he] at h' ⊢
      exact pgString_nil h'
    · exact pgString_in h' hB.size hfit he
  go_enter Tryd.func9, Tryd.ntmps9
  go_wp2_with (first
    | (go_at_call 19; refine H1.mono ?_; clear H1; rintro e w2 ⟨rfl, h3, h1⟩; have hB2 := hA.trans h1.bel)
    | (go_at_call 20; refine (H2 _ h3 hB2).mono ?_; clear H2; rintro e w3 ⟨rfl, h4⟩))
  go_ret2
  exact ⟨rfl, hB2.trans h4⟩

set_option maxRecDepth 20000 in
set_option maxHeartbeats 1000000 in
/-- show's Text, where it is too long. -/
theorem Text_long {p : Option Addr} {S : List Om} (c : Nat) (G : Given w p S) (hll : ∀ o ∈ S, o.l.length ≤ 1048576) (v : Vl) (hf : v.fits) (hlong : 4096 < (textB S v).length) :
    Calls Tryd.prog 9 #[.slice p S.length c, .agg #[.int .u8 v.k, .int .i64 v.n]] w fun e w' => e = .returned (.tuple #[.string ⟨#[]⟩, .bool false]) ∧ Below w.heap.size w w' := by
  have hA := below2' w (.cells #[.int .u8 v.k, .int .i64 v.n] 26) (.cells #[.pointer none, .slice none 0 0, .slice p S.length c] 49)
  have hv0 := (Below.heap_alloc (w.alloc (.cells #[.int .u8 v.k, .int .i64 v.n] 26)) (.cells #[.pointer none, .slice none 0 0, .slice p S.length c] 49) w.heap.size (by simp)).trans (heap_alloc_new w (.cells #[.int .u8 v.k, .int .i64 v.n] 26))
  have hp0 := heap_two w (.cells #[.int .u8 v.k, .int .i64 v.n] 26) (.cells #[.pointer none, .slice none 0 0, .slice p S.length c] 49)
  have hpg : IsPg w.heap.size (w.heap.size + 1) (.slice p S.length c) [] ((w.alloc (.cells #[.int .u8 v.k, .int .i64 v.n] 26)).alloc (.cells #[.pointer none, .slice none 0 0, .slice p S.length c] 49)) :=
    ⟨by omega, _, _, hp0, .inl rfl, World.ownsRow_nil _ _ _ _, fun _ => rfl⟩
  obtain ⟨v0, v1⟩ := cell_rowV hv0
  have H1 := puts_long (value_in (bp := w.heap.size + 1) (c := c) G hll _ [] v hf hA hpg (by simp)) (by simpa [textB] using hlong)
  go_enter Tryd.func9, Tryd.ntmps9
  go_wp2_with (first
    | (go_at_call 19; refine H1.mono ?_; clear H1; rintro e w2 ⟨rfl, h1⟩; have hB2 := hA.trans h1.bel))
  go_ret2
  exact ⟨rfl, hB2⟩

end Go.Proofs.YtppjahnahomkeaaDoor
