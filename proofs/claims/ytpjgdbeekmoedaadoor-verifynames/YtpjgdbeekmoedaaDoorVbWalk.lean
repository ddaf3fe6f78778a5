/- The program's walk: it is made; a place is told. -/
import Derived.Test.YtpjgdbeekmoedaaDoorVbMem
import Derived.Test.YtpjgdbeekmoedaaDoorVfPRep
namespace Go.Proofs.YtpjgdbeekmoedaaDoor
set_option linter.unusedVariables false
set_option linter.unusedSimpArgs false
open Go.RowKit

variable {w : World}

theorem infoU64 : (Tryd.prog.info? 128).map (fun i => (i.zero, i.size, i.bytes)) = some (some (.int .u64 0), 1, 8) := by kernel_rfl

theorem infoPl : (Tryd.prog.info? 92).map (·.size) = some 2 := by kernel_rfl

theorem madeB (n : Nat) : (madeCells #[.int .u64 0] (n * 1)).toList = (List.replicate n 0).map uv := by
  apply List.ext_getElem?
  intro j
  by_cases hj : j < n
  · simp [madeCells, hj, uv, Nat.mod_one]
  · simp [madeCells, hj]

theorem setRow2 {W : World} {g : Nat} {a b c d : Value} {t : TypeId} (h : W.heap[g]? = some (.cells #[a, b] t (0, 0))) : ((W.setCell ⟨g, 0, none⟩ c).setCell ⟨g, 1, none⟩ d).heap[g]? = some (.cells #[c, d] t (0, 0)) := by
  have h1 := heap_setCell_same W g 0 _ _ c h
  have h2 := heap_setCell_same _ g 1 _ _ d h1
  simpa using h2

set_option maxRecDepth 20000 in
set_option maxHeartbeats 2000000 in
theorem newPlaces_in {n : Nat} (hn : n ≤ 16384) :
    Calls Tryd.prog 67 #[.int .i64 n] w fun e w' => ∃ g, e = .returned (.agg #[.slice (some ⟨g, 0, none⟩) (n / 64 + 1) (n / 64 + 1), .int .i64 0]) ∧ BitRow w.heap.size g (n / 64 + 1) (List.replicate (n / 64 + 1) 0) w' ∧ Below w.heap.size w w' := by
  obtain ⟨i1, hj0, hy0, hy1, hy2⟩ := info_parts infoU64
  obtain ⟨m, hm⟩ : ∃ m, n / 64 + 1 = m := ⟨_, rfl⟩
  have h64 : (n : Int) / 64 + 1 = (m : Int) := by omega
  have hm2 : m ≤ 300 := by omega
  have hz := heap_alloc_new w (.cells #[.slice none 0 0, .int .i64 0] 92)
  rw [hm]
  clear hm
  go_enter Tryd.func67, Tryd.ntmps67
  go_wp2_with (first
    | (at_make; refine wpList_make_full _ rfl _ _ 90 rfl w.heap.size 128 i1 (.int .u64 0) 1 Tryd.underlying90 hj0 hy0 hy1 .i64 .i64 _ _ m rfl rfl rfl rfl (by rw [hy2]; omega) (by unfold maxLen; omega) (by simp; try omega) ?_; intro w1 hown1 hgrow1; have hBg := rbelow_grown hgrow1 (fun q e => by cases e) (Nat.le_refl _); have hz1 := (hBg.block w.heap.size (by simp)).trans hz; obtain ⟨⟨a0, a1⟩, ⟨f0, f1⟩⟩ := cell_row2 hz1))
  refine bodyPost_ret (results_cell_row (by rfl) _ _ w.heap.size 92 _ _ _ (by rfl) (setRow2 hz1) Tryd.underlying92 (by rfl) infoPl) (by rfl) ?_
  have hsz := hBg.size
  simp only [World.size_alloc] at hsz hown1
  refine ⟨_, rfl, ?_, ?_⟩
  · have h1 : BitRow w.heap.size (w.heap.size + 1) m (List.replicate m 0) w1 := by
      have h2 := hown1
      rw [show (Value.int IntKind.u64 0).cells = #[.int .u64 0] from rfl, madeB] at h2
      show World.ownsRow _ _ _ _ (.slice _ (List.replicate m 0).length m) (List.replicate m 0).length _
      rw [List.length_replicate]
      exact h2
    exact h1.kept ((heap_setCell_other _ ⟨w.heap.size, 1, none⟩ _ _ (by simp)).trans (heap_setCell_other _ ⟨w.heap.size, 0, none⟩ _ _ (by simp)))
  · refine ⟨hBg.os, hBg.tape, hBg.output, by simp [World.setCell]; omega, fun k hk => ?_⟩
    rw [heap_setCell_other _ ⟨w.heap.size, 1, none⟩ k _ (by simp; omega), heap_setCell_other _ ⟨w.heap.size, 0, none⟩ k _ (by simp; omega)]
    exact (hBg.block k (by simp; omega)).trans (Below.heap_alloc _ _ _ hk)

theorem rep_lo {n : Nat} : ∀ k, -1 ≤ (List.replicate n (-1 : Int)).getD k (-1) := by
  intro k
  rw [List.getD_eq_getElem?_getD, List.getElem?_replicate]
  split <;> simp

set_option maxRecDepth 20000 in
set_option maxHeartbeats 2000000 in
theorem newWalk_in {n : Nat} (h1 : 1 ≤ n) (hn : n ≤ 16384) :
    Calls Tryd.prog 37 #[.int .i64 n] w fun e w' => ∃ bw gt ct gb cb, e = .returned (.pointer (some ⟨bw, 0, none⟩)) ∧ Wk w' w.heap.size bw gt ct gb cb (List.replicate n (-1)) (List.replicate (n / 64 + 1) 0) 0 ∧ Below w.heap.size w w' := by
  have HR := repeat_in (w := w.alloc (.cells #[.int .i64 (-1)] 3)) (bx := w.heap.size) (n := n) (by simp) (by rw [cell_of_row _ _ 0 _ _ _ (heap_alloc_new w (.cells #[.int .i64 (-1)] 3))]; rfl) h1 hn
  have HP := fun (W : World) => newPlaces_in (w := W) hn
  have hBa := below1 w (.cells #[.int .i64 (-1)] 3)
  have HH : Hid (n ≤ 16384) := hn
  go_enter Tryd.func37, Tryd.ntmps37
  go_wp2_with (first
    | (go_at_call 66; (with_reducible refine HR.mono ?_); clear HR; rintro e w1 ⟨gt, ct, rfl, hnr, hB1⟩)
    | (go_at_call 67; (with_reducible refine (HP _).mono ?_); clear HP; rintro e w2 ⟨gb, rfl, hbr, hB2⟩))
  go_ret
  have s1 := hB1.size
  have s2 := hB2.size
  simp only [World.size_alloc] at s1
  have g1 := hnr.lt
  have g2 := hbr.lt
  simp only [World.size_alloc] at g1
  have hb2 : Below w.heap.size w w2 := (hBa.trans (hB1.mono (by simp))).trans (hB2.mono (by omega))
  have hb3 := below1 w2 (.cells #[.slice (some ⟨gt, 0, none⟩) n ct, .slice (some ⟨gb, 0, none⟩) (n / 64 + 1) (n / 64 + 1), .int .i64 0] 94)
  refine ⟨_, gt, ct, gb, n / 64 + 1, rfl, ⟨?_, ?_, ?_, by omega, by omega⟩, hb2.trans (hb3.mono (by omega))⟩
  · rw [List.length_replicate, List.length_replicate]
    exact heap_alloc_new w2 _
  · exact ownsRow_mono ((hnr.kept (hB2.block gt (by omega))).kept (hb3.block gt (by omega))) (by simp)
  · exact ownsRow_mono (hbr.kept (hb3.block gb (by omega))) (by omega)

end Go.Proofs.YtpjgdbeekmoedaaDoor
