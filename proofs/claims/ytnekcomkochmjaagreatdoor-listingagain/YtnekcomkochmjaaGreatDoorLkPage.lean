/- Listing's page: what embeds a builder, and its calls. -/
import Derived.Test.YtnekcomkochmjaaGreatDoorLkMath
import Derived.Lib.AppendStr
import Derived.Lib.UnsafeStr
import Derived.Lib.Builder
import Derived.Deep.AppendLies
namespace Go.Proofs.YtnekcomkochmjaaGreatDoor
set_option linter.unusedVariables false
set_option linter.unusedSimpArgs false
open Go.RowKit

namespace Lk

variable {w : World}

/-- A page in memory: its builder's address, its bytes, its store. -/
structure IsPg (n₀ bp : Nat) (l : List UInt8) (w : World) : Prop where
  base : n₀ ≤ bp
  all : ∃ ad vb, w.heap[bp]? = some (.cells #[ad, vb] 52 (0, 0)) ∧ (ad = .pointer none ∨ ad = .pointer (some ⟨bp, 0, none⟩)) ∧ w.ownsRow n₀ 5 1 vb l.length (Lib.byteCells l) ∧ (l = [] → vb = .slice none 0 0)

/-- What a page's calls may turn. -/
structure PStep (n₀ bp : Nat) (w w' : World) : Prop where
  bel : Below n₀ w w'
  box : ∀ (k : Nat) (cur : Array Value) (T : TypeId) (fr : Nat × Nat), w.heap[k]? = some (.cells cur T fr) → T ≠ 5 → k ≠ bp → w'.heap[k]? = w.heap[k]?

theorem PStep.refl (n₀ bp : Nat) (w : World) : PStep n₀ bp w w := ⟨Below.refl _ _, fun _ _ _ _ _ _ _ => rfl⟩

theorem PStep.trans {n₀ bp : Nat} {w w' w'' : World} (h : PStep n₀ bp w w') (g : PStep n₀ bp w' w'') : PStep n₀ bp w w'' :=
  ⟨h.bel.trans g.bel, fun k cur T fr hk hT hb => (g.box k cur T fr ((h.box k cur T fr hk hT hb).trans hk) hT hb).trans (h.box k cur T fr hk hT hb)⟩

theorem PStep.of_below {n₀ bp : Nat} {w w' : World} (h : Below w.heap.size w w') (hn : n₀ ≤ w.heap.size) : PStep n₀ bp w w' :=
  ⟨h.mono hn, fun k cur T fr hk _ _ => h.block k (Array.getElem?_eq_some_iff.1 hk).1⟩

theorem IsPg.lt {n₀ bp : Nat} {l : List UInt8} (h : IsPg n₀ bp l w) : bp < w.heap.size := by
  obtain ⟨ad, vb, hb, _⟩ := h.all
  exact (Array.getElem?_eq_some_iff.1 hb).1

theorem IsPg.below {n₀ bp : Nat} {l : List UInt8} (h : IsPg n₀ bp l w) {w' : World} (hB : Below w.heap.size w w') : IsPg n₀ bp l w' := by
  have hl := h.lt
  obtain ⟨hb0, ad, vb, hb, ha, ho, hnil⟩ := h
  exact ⟨hb0, ad, vb, (hB.block _ hl).trans hb, ha, row_below ho hB, hnil⟩

theorem infoPage : (Tryz.prog.info? 52).map (·.size) = some 2 := by kernel_rfl

theorem infoBuilder : (Tryz.prog.info? 50).map (·.size) = some 2 := by kernel_rfl

theorem liesPage : liesAt Tryz.prog Tryz.prog.depth 52 (2 / Tryz.prog.cellsOf 52) 0 50 1 = true := by kernel_rfl

theorem infoU8 : (Tryz.prog.info? 5).map (fun i => (i.zero, i.size, i.bytes)) = some (some (.int .u8 0), 1, 1) := by kernel_rfl

set_option maxRecDepth 20000 in
set_option maxHeartbeats 1000000 in
theorem copyCheck_fresh {bp : Nat} {vb : Value} (w : World) (hb : w.heap[bp]? = some (.cells #[.pointer none, vb] 52 (0, 0))) :
    Calls Tryz.prog 82 #[.pointer (some ⟨bp, 0, none⟩)] w fun e w' => e = .returned (.tuple #[]) ∧ w' = w.setCell ⟨bp, 0, none⟩ (.pointer (some ⟨bp, 0, none⟩)) := by
  obtain ⟨j, hj, hjs⟩ := Option.map_eq_some_iff.1 infoBuilder
  obtain ⟨⟨c0, c1⟩, f0, f1⟩ := cell_row2 hb
  have hsh : w.shape? bp = some (52, 2) := by simp [World.shape?, hb]
  have h1 := Lib.run_to_unsafe (P := Tryz.prog) w ⟨bp, 0, none⟩ Tryz.underlying47 Tryz.underlying179 hj (by rw [hjs]; decide) hsh (by simp)
  have h2 := Lib.run_from_unsafe (P := Tryz.prog) w ⟨bp, 0, none⟩ Tryz.underlying179 Tryz.underlying47 hj hsh liesPage
  go_enter Tryz.func82, Tryz.ntmps82
  go_wp2
  rw [run_callFunc_extern Tryz.func105 (by kernel_rfl) (by kernel_rfl) (by kernel_rfl) (e := Extern.AbiNoEscape.same) (by kernel_rfl)]
  rw [Lib.run_noEscape]
  simp only [Result.andThen]
  rw [Oper.upon_value]
  have h3 := Lib.run_neq_ptr_same (P := Tryz.prog) (w.setCell ⟨bp, 0, none⟩ (.pointer (some ⟨bp, 0, none⟩))) ⟨bp, 0, none⟩ Tryz.underlying47 hj
  have hb2 := heap_setCell_same w bp 0 _ _ (.pointer (some ⟨bp, 0, none⟩)) hb
  obtain ⟨⟨d0, d1⟩, -⟩ := cell_row2 (W := w.setCell ⟨bp, 0, none⟩ (.pointer (some ⟨bp, 0, none⟩))) (by simpa using hb2)
  go_wp2
  go_end0
  exact ⟨rfl, rfl⟩

set_option maxRecDepth 20000 in
set_option maxHeartbeats 1000000 in
theorem copyCheck_used {bp : Nat} {vb : Value} (w : World) (hb : w.heap[bp]? = some (.cells #[.pointer (some ⟨bp, 0, none⟩), vb] 52 (0, 0))) :
    Calls Tryz.prog 82 #[.pointer (some ⟨bp, 0, none⟩)] w fun e w' => e = .returned (.tuple #[]) ∧ w' = w := by
  obtain ⟨j, hj, hjs⟩ := Option.map_eq_some_iff.1 infoBuilder
  obtain ⟨⟨c0, c1⟩, f0, f1⟩ := cell_row2 hb
  have h3 := Lib.run_neq_ptr_same (P := Tryz.prog) w ⟨bp, 0, none⟩ Tryz.underlying47 hj
  go_enter Tryz.func82, Tryz.ntmps82
  go_wp2
  go_end0
  exact ⟨rfl, rfl⟩

/-- Behind the check a page bears its own address. -/
theorem pg_check {n₀ bp : Nat} {l : List UInt8} {ad vb : Value} (hb0 : n₀ ≤ bp) (hb : w.heap[bp]? = some (.cells #[ad, vb] 52 (0, 0))) (ha : ad = .pointer none ∨ ad = .pointer (some ⟨bp, 0, none⟩)) (ho : w.ownsRow n₀ 5 1 vb l.length (Lib.byteCells l)) :
    Calls Tryz.prog 82 #[.pointer (some ⟨bp, 0, none⟩)] w fun e w' => e = .returned (.tuple #[]) ∧ w'.heap[bp]? = some (.cells #[.pointer (some ⟨bp, 0, none⟩), vb] 52 (0, 0)) ∧ w'.ownsRow n₀ 5 1 vb l.length (Lib.byteCells l) ∧ PStep n₀ bp w w' ∧ w.heap.size ≤ w'.heap.size := by
  have hbv : some bp ≠ vb.ownBlock := fun e => by
    obtain ⟨cur, hc⟩ := row_obj ho e.symm
    rw [hb] at hc
    cases hc
  rcases ha with rfl | rfl
  · refine (copyCheck_fresh w hb).mono ?_
    rintro e w' ⟨rfl, rfl⟩
    have hb2 := heap_setCell_same w bp 0 _ _ (.pointer (some ⟨bp, 0, none⟩)) hb
    refine ⟨rfl, by simpa using hb2, row_kept ho (fun k e => heap_setCell_other _ ⟨bp, 0, none⟩ k _ (fun e2 => hbv (by rw [e, e2]))), ⟨below_set (Below.refl _ _) hb0 _, fun k cur T fr hk hT hne => heap_setCell_other _ ⟨bp, 0, none⟩ k _ hne⟩, by simp [World.setCell]⟩
  · refine (copyCheck_used w hb).mono ?_
    rintro e w' ⟨rfl, rfl⟩
    exact ⟨rfl, hb, ho, PStep.refl _ _ _, Nat.le_refl _⟩

set_option maxRecDepth 20000 in
set_option maxHeartbeats 1000000 in
theorem pgWrite_in {n₀ bp : Nat} {l : List UInt8} (h : IsPg n₀ bp l w) (hn : n₀ ≤ w.heap.size) (x : List UInt8) (hl : l.length + x.length ≤ 67108864) :
    Calls Tryz.prog 83 #[.pointer (some ⟨bp, 0, none⟩), .string (bs x)] w fun e w' => e = .returned (.tuple #[.int .i64 x.length, .nilIface]) ∧ IsPg n₀ bp (l ++ x) w' ∧ PStep n₀ bp w w' := by
  obtain ⟨i0, hi, hz0, hz1, hz2⟩ := info_parts infoU8
  obtain ⟨hb0, ad, vb, hb, ha, ho, hnil⟩ := h
  have hbl := (Array.getElem?_eq_some_iff.1 hb).1
  have hbv : some bp ≠ vb.ownBlock := fun e => by
    obtain ⟨cur, hc⟩ := row_obj ho e.symm
    rw [hb] at hc
    cases hc
  have H1 := pg_check hb0 hb ha ho
  have hsx := bs_size x
  go_enter Tryz.func83, Tryz.ntmps83
  go_wp2_with (first
    | (go_at_call 82; refine H1.mono ?_; clear H1; rintro e w1 ⟨rfl, hb1, ho1, hP1, hz⟩; obtain ⟨⟨c0, c1⟩, f0, f1⟩ := cell_row2 hb1)
    | (at_builtin; refine Lib.wpList_append_own_string _ rfl _ _ 48 9 rfl n₀ 5 i0 Tryz.underlying48 Tryz.underlying9 hi hz0 hz1 hz2 _ _ _ rfl ho1 (bs x) rfl (by unfold maxLen; omega) (by omega) (by omega) ?_; intro v' w2 hown2 hgrow2 hiff2; have hb2 := (hgrow2.block bp (by omega) hbv).trans hb1; obtain ⟨⟨d0, d1⟩, g0, g1⟩ := cell_row2 hb2; obtain ⟨p2, c2', rfl, hcl2, hcm2, -⟩ := row_form hown2; have HIF : Hid _ := And.intro hiff2 hnil; clear hiff2 hnil))
  go_ret2
  refine ⟨rfl, ⟨hb0, .pointer (some ⟨bp, 0, none⟩), .slice p2 (l.length + (bs x).size) c2', ?_, .inr rfl, ?_, ?_⟩, hP1.trans ⟨?_, ?_⟩⟩
  · have := heap_setCell_same w2 bp 1 _ _ (.slice p2 (l.length + (bs x).size) c2') hb2
    rw [hsx] at this ⊢
    simpa using this
  · have hne : ∀ k, (Value.slice p2 (l.length + (bs x).size) c2').ownBlock = some k → k ≠ bp := fun k e e2 => by
      obtain ⟨cur, hc⟩ := row_obj hown2 e
      rw [e2, hb2] at hc
      cases hc
    have := row_kept hown2 (fun k e => heap_setCell_other _ ⟨bp, 1, none⟩ k (.slice p2 (l.length + (bs x).size) c2') (hne k e))
    rw [List.length_append, ← hsx]
    simpa [Lib.byteCells, Lib.strCells, bs_list, hsx] using this
  · intro he
    rw [List.append_eq_nil_iff] at he
    have hs0 : (bs x).size = 0 := by rw [hsx, he.2]; rfl
    exact HIF.out.1.2 ⟨HIF.out.2 he.1, hs0⟩
  · have := below_set (rbelow_grown hgrow2 (fun k e => (ho1.lt k e).1) (by omega)) hb0 (i := 1) (.slice p2 (l.length + (bs x).size) c2')
    rw [hsx] at this
    exact this
  · intro k cur T fr hk hT hne
    rw [heap_setCell_other _ ⟨bp, 1, none⟩ k _ hne]
    refine hgrow2.block k (Array.getElem?_eq_some_iff.1 hk).1 (fun e => ?_)
    obtain ⟨cur', hc⟩ := row_obj ho1 e.symm
    rw [hk] at hc
    cases hc
    exact hT rfl

set_option maxRecDepth 20000 in
set_option maxHeartbeats 1000000 in
theorem pgByte_in {n₀ bp : Nat} {l : List UInt8} (h : IsPg n₀ bp l w) (hn : n₀ ≤ w.heap.size) (c : UInt8) (hl : l.length + 1 ≤ 67108864) :
    Calls Tryz.prog 38 #[.pointer (some ⟨bp, 0, none⟩), .int .u8 c.toNat] w fun e w' => e = .returned .nilIface ∧ IsPg n₀ bp (l ++ [c]) w' ∧ PStep n₀ bp w w' := by
  obtain ⟨i0, hi, hz0, hz1, hz2⟩ := info_parts infoU8
  obtain ⟨hb0, ad, vb, hb, ha, ho, hnil⟩ := h
  have hbl := (Array.getElem?_eq_some_iff.1 hb).1
  have hbv : some bp ≠ vb.ownBlock := fun e => by
    obtain ⟨cur, hc⟩ := row_obj ho e.symm
    rw [hb] at hc
    cases hc
  have H1 := pg_check hb0 hb ha ho
  go_enter Tryz.func38, Tryz.ntmps38
  go_wp2_with (first
    | (go_at_call 82; refine H1.mono ?_; clear H1; rintro e w1 ⟨rfl, hb1, ho1, hP1, hz⟩; obtain ⟨⟨c0, c1⟩, f0, f1⟩ := cell_row2 hb1; have hb1' := (Below.heap_alloc w1 (.cells #[.int .u8 c.toNat] 5) bp (by omega)).trans hb1; obtain ⟨⟨c0', c1'⟩, f0', f1'⟩ := cell_row2 hb1')
    | (at_builtin; (refine wpList_append_own _ rfl _ _ 48 rfl n₀ 5 i0 (.int .u8 0) 1 1 Tryz.underlying48 hi hz0 hz1 hz2 rfl (by decide) _ _ _ rfl (ho1.alloc _) ⟨w1.heap.size, 0, none⟩ 1 1 [.int .u8 c.toNat] rfl rfl (World.news_of_block (cs := #[.int .u8 c.toNat]) (t := 5) (fr := (0, 0)) (heap_alloc_new w1 _)) (by simp [Value.oneCell']) (by unfold maxLen; omega) (by omega) (by simp; omega) ?_; intro v' w2 hown2 hgrow2 _; have hb2 := (hgrow2.block bp (by simp; omega) hbv).trans hb1'; obtain ⟨⟨d0, d1⟩, g0, g1⟩ := cell_row2 hb2; obtain ⟨p2, c2', rfl, hcl2, hcm2, -⟩ := row_form hown2)))
  go_ret
  refine ⟨rfl, ⟨hb0, .pointer (some ⟨bp, 0, none⟩), .slice p2 (l.length + 1) c2', ?_, .inr rfl, ?_, by simp⟩, hP1.trans ⟨?_, ?_⟩⟩
  · have := heap_setCell_same w2 bp 1 _ _ (.slice p2 (l.length + 1) c2') hb2
    simpa using this
  · have hne : ∀ k, (Value.slice p2 (l.length + 1) c2').ownBlock = some k → k ≠ bp := fun k e e2 => by
      obtain ⟨cur, hc⟩ := row_obj hown2 e
      rw [e2, hb2] at hc
      cases hc
    have := row_kept hown2 (fun k e => heap_setCell_other _ ⟨bp, 1, none⟩ k (.slice p2 (l.length + 1) c2') (hne k e))
    rw [List.length_append]
    simpa [Lib.byteCells] using this
  · have h3 := rbelow_grown (m₀ := n₀) hgrow2 (fun k e => (ho1.lt k e).1) (by simp; omega)
    exact below_set (((Below.refl n₀ w1).alloc (by omega) _).trans h3) hb0 _
  · intro k cur T fr hk hT hne
    rw [heap_setCell_other _ ⟨bp, 1, none⟩ k _ hne]
    have hkl := (Array.getElem?_eq_some_iff.1 hk).1
    refine (hgrow2.block k (by simp; omega) (fun e => ?_)).trans (Below.heap_alloc w1 _ k hkl)
    obtain ⟨cur', hc⟩ := row_obj ho1 e.symm
    rw [hk] at hc
    cases hc
    exact hT rfl

theorem byteCells_lenP (l : List UInt8) : (Lib.byteCells l).length = l.length := by simp [Lib.byteCells]

theorem freeze_otherP {W : World} {k g n : Nat} (h : k ≠ g) : (W.freeze ⟨g, 0, none⟩ n).heap[k]? = W.heap[k]? := by
  unfold World.freeze
  split
  · rfl
  · simp only [Array.getElem?_modify]
    rw [if_neg (by omega)]

theorem cellsByteP : Tryz.prog.cellsOf 5 = 1 := by kernel_rfl

set_option maxRecDepth 20000 in
set_option maxHeartbeats 1000000 in
/-- The builder's text. -/
theorem pgString_some {n₀ bp : Nat} {l : List UInt8} (h : IsPg n₀ bp l w) (hn : n₀ ≤ w.heap.size) (hl : l.length ≤ 67108864) (h0 : l ≠ []) :
    Calls Tryz.prog 16 #[.pointer (some ⟨bp, 0, none⟩)] w fun e w' => e = .returned (.string ⟨l.toArray⟩) ∧ Below n₀ w w' := by
  obtain ⟨hb0, ad, vb, hb, ha, ho, hnil⟩ := h
  clear hnil
  have hl0 : l.length ≠ 0 := by simpa using h0
  obtain ⟨g, cap, cur, rfl, hbg, hg, hnc, hcm, hcs, htake⟩ : ∃ g cap cur, vb = .slice (some ⟨g, 0, none⟩) l.length cap ∧ n₀ ≤ g ∧ w.heap[g]? = some (.cells cur 5 (0, 0)) ∧ l.length ≤ cap ∧ cap ≤ maxLen ∧ cur.size = cap * 1 ∧ cur.toList.take (l.length * 1) = Lib.byteCells l := by
    rcases ho.2 with ⟨_, hz⟩ | ⟨g, cap, cur, hv, r⟩
    · exact absurd hz hl0
    · exact ⟨g, cap, cur, hv, r⟩
  obtain ⟨⟨c0, c1⟩, -⟩ := cell_row2 (W := w.drew) hb
  have hSD : (Builtin.unsafeSliceData_ #[48] 79 #[.slice (some ⟨g, 0, none⟩) l.length cap]).run Tryz.prog w.drew = .ok (.pointer (some ⟨g, 0, none⟩)) w.drew :=
    Lib.run_unsafeSliceData_row _ _ _ _ _ _ (by omega)
  have hUS : (Builtin.unsafeString_ #[79, 3] 9 #[.pointer (some ⟨g, 0, none⟩), .int .i64 l.length]).run Tryz.prog w.drew = .ok (.string ⟨l.toArray⟩) (w.drew.freeze ⟨g, 0, none⟩ l.length) := by
    refine Lib.run_unsafeString_row w.drew 79 3 9 5 Tryz.underlying79 cellsByteP g cur.size (by have hg' : w.drew.heap[g]? = some (.cells cur 5 (0, 0)) := hg; simp [World.shape?, hg']) l h0 (by omega) (by unfold maxLen at hcm; omega) ?_
    intro j x hx
    have := ho.cells (g := g) rfl j (.int .u8 x.toNat) (by simp [Lib.byteCells, hx])
    exact this
  have hbg2 : bp ≠ g := by rintro rfl; rw [hb] at hg; cases hg
  have c1' : (w.drew.freeze ⟨g, 0, none⟩ l.length).cell? ⟨bp, 1, none⟩ = some (.slice (some ⟨g, 0, none⟩) l.length cap) := by
    rw [← c1]
    exact World.cell?_of_block (a := ⟨bp, 1, none⟩) (freeze_otherP hbg2)
  go_enter Tryz.func16, Tryz.ntmps16
  go_wp2
  go_region_held3 (fun W => W.cell? ⟨bp, 1, none⟩ = some (.slice (some ⟨g, 0, none⟩) l.length cap)) (first | with_reducible exact c1 | with_reducible exact c1' | go_keep) (fail)
  all_goals (go_wp2; go_ret; exact ⟨rfl, Lib.below_freeze (below_drew (Below.refl n₀ w)) (p := ⟨g, 0, none⟩) hbg _⟩)

set_option maxRecDepth 20000 in
set_option maxHeartbeats 1000000 in
/-- The builder's text, if nothing was put. -/
theorem pgString_nil {n₀ bp : Nat} (h : IsPg n₀ bp [] w) :
    Calls Tryz.prog 16 #[.pointer (some ⟨bp, 0, none⟩)] w fun e w' => e = .returned (.string ⟨#[]⟩) ∧ Below n₀ w w' := by
  obtain ⟨hb0, ad, vb, hb, ha, ho, hnil⟩ := h
  obtain rfl := hnil rfl
  obtain ⟨⟨c0, c1⟩, -⟩ := cell_row2 (W := w.drew) hb
  have hSD : (Builtin.unsafeSliceData_ #[48] 79 #[.slice none 0 0]).run Tryz.prog w.drew = .ok (.pointer none) w.drew := Lib.run_unsafeSliceData_nil _ _ _ _ _
  have hUS : (Builtin.unsafeString_ #[79, 3] 9 #[.pointer none, .int .i64 0]).run Tryz.prog w.drew = .ok (.string .empty) w.drew := Lib.run_unsafeString_none _ _ _ _ _
  go_enter Tryz.func16, Tryz.ntmps16
  go_wp2
  go_region_held3 (fun W => W.cell? ⟨bp, 1, none⟩ = some (.slice none 0 0)) (first | with_reducible exact c1 | go_keep) (fail)
  all_goals (go_wp2; go_ret; exact ⟨rfl, below_drew (Below.refl n₀ w)⟩)

theorem pgString_in {n₀ bp : Nat} {l : List UInt8} (h : IsPg n₀ bp l w) (hn : n₀ ≤ w.heap.size) (hl : l.length ≤ 67108864) :
    Calls Tryz.prog 16 #[.pointer (some ⟨bp, 0, none⟩)] w fun e w' => e = .returned (.string (bs l)) ∧ Below n₀ w w' := by
  cases l with
  | nil => exact pgString_nil h
  | cons c r => exact pgString_some h hn hl (by simp)

end Lk

end Go.Proofs.YtnekcomkochmjaaGreatDoor
