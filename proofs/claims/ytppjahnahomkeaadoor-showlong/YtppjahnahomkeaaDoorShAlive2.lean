/- alive, walked. -/
import Derived.Test.YtppjahnahomkeaaDoorShAlive
namespace Go.Proofs.YtppjahnahomkeaaDoor
set_option linter.unusedVariables false
set_option linter.unusedSimpArgs false
open Go.RowKit

theorem at_alloc {W : World} {k : Nat} {o o' : Obj} (h : W.heap[k]? = some o) : (W.alloc o').heap[k]? = some o := (Below.heap_alloc _ _ _ (Array.getElem?_eq_some_iff.1 h).1).trans h

theorem string_eq0 (a : List UInt8) : (⟨a.toArray⟩ : ByteArray) = ⟨a.toArray⟩ := rfl

theorem laid0 (w : World) : IsSt (((((((w.alloc (.cells #[.int .u8 2, .int .i64 1] 26)).alloc (.cells #[.int .u8 2, .int .i64 1, .int .u8 3, .int .i64 1] 26)).alloc (.cells #[.int .u8 3, .int .i64 1, .int .u8 4, .int .i64 2] 26)).alloc (.cells #[.int .u8 4, .int .i64 2] 26)).alloc (.cells #[.int .u8 7, .int .i64 4] 26)).alloc (.cells #[.int .u8 4, .int .i64 6] 26)).alloc (.cells #[.int .u8 3, .string ⟨#[104, 105]⟩, .slice none 0 0, .int .i64 0, .int .i64 0, .int .u8 4, .string ⟨#[]⟩, .slice (some ⟨w.heap.size + 1, 0, none⟩) 2 2, .int .i64 4, .int .i64 0, .int .u8 5, .string ⟨#[]⟩, .slice (some ⟨w.heap.size + 1 + 1, 0, none⟩) 2 2, .int .i64 8, .int .i64 0, .int .u8 7, .string ⟨#[]⟩, .slice (some ⟨w.heap.size + 1 + 1 + 1, 0, none⟩) 1 1, .int .i64 0, .int .i64 0, .int .u8 6, .string ⟨#[]⟩, .slice (some ⟨w.heap.size + 1 + 1 + 1 + 1, 0, none⟩) 1 1, .int .i64 0, .int .i64 7, .int .u8 4, .string ⟨#[]⟩, .slice (some ⟨w.heap.size + 1 + 1 + 1 + 1 + 1, 0, none⟩) 1 1, .int .i64 1, .int .i64 0] 39)) (some ⟨w.heap.size + 1 + 1 + 1 + 1 + 1 + 1, 0, none⟩) S0 ∧ Below w.heap.size w (((((((w.alloc (.cells #[.int .u8 2, .int .i64 1] 26)).alloc (.cells #[.int .u8 2, .int .i64 1, .int .u8 3, .int .i64 1] 26)).alloc (.cells #[.int .u8 3, .int .i64 1, .int .u8 4, .int .i64 2] 26)).alloc (.cells #[.int .u8 4, .int .i64 2] 26)).alloc (.cells #[.int .u8 7, .int .i64 4] 26)).alloc (.cells #[.int .u8 4, .int .i64 6] 26)).alloc (.cells #[.int .u8 3, .string ⟨#[104, 105]⟩, .slice none 0 0, .int .i64 0, .int .i64 0, .int .u8 4, .string ⟨#[]⟩, .slice (some ⟨w.heap.size + 1, 0, none⟩) 2 2, .int .i64 4, .int .i64 0, .int .u8 5, .string ⟨#[]⟩, .slice (some ⟨w.heap.size + 1 + 1, 0, none⟩) 2 2, .int .i64 8, .int .i64 0, .int .u8 7, .string ⟨#[]⟩, .slice (some ⟨w.heap.size + 1 + 1 + 1, 0, none⟩) 1 1, .int .i64 0, .int .i64 0, .int .u8 6, .string ⟨#[]⟩, .slice (some ⟨w.heap.size + 1 + 1 + 1 + 1, 0, none⟩) 1 1, .int .i64 0, .int .i64 7, .int .u8 4, .string ⟨#[]⟩, .slice (some ⟨w.heap.size + 1 + 1 + 1 + 1 + 1, 0, none⟩) 1 1, .int .i64 1, .int .i64 0] 39)) := by
  have h1 := heap_alloc_new (w.alloc (.cells #[.int .u8 2, .int .i64 1] 26)) (.cells #[.int .u8 2, .int .i64 1, .int .u8 3, .int .i64 1] 26)
  rw [World.size_alloc] at h1
  have h2 := heap_alloc_new ((w.alloc (.cells #[.int .u8 2, .int .i64 1] 26)).alloc (.cells #[.int .u8 2, .int .i64 1, .int .u8 3, .int .i64 1] 26)) (.cells #[.int .u8 3, .int .i64 1, .int .u8 4, .int .i64 2] 26)
  rw [World.size_alloc, World.size_alloc] at h2
  have h3 := heap_alloc_new (((w.alloc (.cells #[.int .u8 2, .int .i64 1] 26)).alloc (.cells #[.int .u8 2, .int .i64 1, .int .u8 3, .int .i64 1] 26)).alloc (.cells #[.int .u8 3, .int .i64 1, .int .u8 4, .int .i64 2] 26)) (.cells #[.int .u8 4, .int .i64 2] 26)
  rw [World.size_alloc, World.size_alloc, World.size_alloc] at h3
  have h4 := heap_alloc_new ((((w.alloc (.cells #[.int .u8 2, .int .i64 1] 26)).alloc (.cells #[.int .u8 2, .int .i64 1, .int .u8 3, .int .i64 1] 26)).alloc (.cells #[.int .u8 3, .int .i64 1, .int .u8 4, .int .i64 2] 26)).alloc (.cells #[.int .u8 4, .int .i64 2] 26)) (.cells #[.int .u8 7, .int .i64 4] 26)
  rw [World.size_alloc, World.size_alloc, World.size_alloc, World.size_alloc] at h4
  have h5 := heap_alloc_new (((((w.alloc (.cells #[.int .u8 2, .int .i64 1] 26)).alloc (.cells #[.int .u8 2, .int .i64 1, .int .u8 3, .int .i64 1] 26)).alloc (.cells #[.int .u8 3, .int .i64 1, .int .u8 4, .int .i64 2] 26)).alloc (.cells #[.int .u8 4, .int .i64 2] 26)).alloc (.cells #[.int .u8 7, .int .i64 4] 26)) (.cells #[.int .u8 4, .int .i64 6] 26)
  rw [World.size_alloc, World.size_alloc, World.size_alloc, World.size_alloc, World.size_alloc] at h5
  have h6 := heap_alloc_new ((((((w.alloc (.cells #[.int .u8 2, .int .i64 1] 26)).alloc (.cells #[.int .u8 2, .int .i64 1, .int .u8 3, .int .i64 1] 26)).alloc (.cells #[.int .u8 3, .int .i64 1, .int .u8 4, .int .i64 2] 26)).alloc (.cells #[.int .u8 4, .int .i64 2] 26)).alloc (.cells #[.int .u8 7, .int .i64 4] 26)).alloc (.cells #[.int .u8 4, .int .i64 6] 26)) (.cells #[.int .u8 3, .string ⟨#[104, 105]⟩, .slice none 0 0, .int .i64 0, .int .i64 0, .int .u8 4, .string ⟨#[]⟩, .slice (some ⟨w.heap.size + 1, 0, none⟩) 2 2, .int .i64 4, .int .i64 0, .int .u8 5, .string ⟨#[]⟩, .slice (some ⟨w.heap.size + 1 + 1, 0, none⟩) 2 2, .int .i64 8, .int .i64 0, .int .u8 7, .string ⟨#[]⟩, .slice (some ⟨w.heap.size + 1 + 1 + 1, 0, none⟩) 1 1, .int .i64 0, .int .i64 0, .int .u8 6, .string ⟨#[]⟩, .slice (some ⟨w.heap.size + 1 + 1 + 1 + 1, 0, none⟩) 1 1, .int .i64 0, .int .i64 7, .int .u8 4, .string ⟨#[]⟩, .slice (some ⟨w.heap.size + 1 + 1 + 1 + 1 + 1, 0, none⟩) 1 1, .int .i64 1, .int .i64 0] 39)
  rw [World.size_alloc, World.size_alloc, World.size_alloc, World.size_alloc, World.size_alloc, World.size_alloc] at h6
  refine ⟨store0 (b := w.heap.size) (at_alloc (at_alloc (at_alloc (at_alloc (at_alloc (h1)))))) (at_alloc (at_alloc (at_alloc (at_alloc (h2))))) (at_alloc (at_alloc (at_alloc (h3)))) (at_alloc (at_alloc (h4))) (at_alloc (h5)) h6, ?_⟩
  refine ⟨rfl, rfl, rfl, by simp [World.size_alloc]; omega, fun k hk => ?_⟩
  have hw : w.heap[k]? = some w.heap[k] := by simp [hk]
  exact (at_alloc (at_alloc (at_alloc (at_alloc (at_alloc (at_alloc (at_alloc hw))))))).trans hw.symm

set_option maxRecDepth 100000 in
set_option maxHeartbeats 4000000 in
theorem alive_in (w : World) (htab : Tab w) : Calls Tryd.prog 12 #[] w fun e w' => e = .returned (.bool true) ∧ Below w.heap.size w w' := by
  obtain ⟨hs, hB⟩ := laid0 w
  have HN := number_in 1 w
  have hll : ∀ o ∈ S0, o.l.length ≤ 1048576 := fun o ho => by have := small0.vals o ho; omega
  generalize hW7 : (((((((w.alloc (.cells #[.int .u8 2, .int .i64 1] 26)).alloc (.cells #[.int .u8 2, .int .i64 1, .int .u8 3, .int .i64 1] 26)).alloc (.cells #[.int .u8 3, .int .i64 1, .int .u8 4, .int .i64 2] 26)).alloc (.cells #[.int .u8 4, .int .i64 2] 26)).alloc (.cells #[.int .u8 7, .int .i64 4] 26)).alloc (.cells #[.int .u8 4, .int .i64 6] 26)).alloc (.cells #[.int .u8 3, .string ⟨#[104, 105]⟩, .slice none 0 0, .int .i64 0, .int .i64 0, .int .u8 4, .string ⟨#[]⟩, .slice (some ⟨w.heap.size + 1, 0, none⟩) 2 2, .int .i64 4, .int .i64 0, .int .u8 5, .string ⟨#[]⟩, .slice (some ⟨w.heap.size + 1 + 1, 0, none⟩) 2 2, .int .i64 8, .int .i64 0, .int .u8 7, .string ⟨#[]⟩, .slice (some ⟨w.heap.size + 1 + 1 + 1, 0, none⟩) 1 1, .int .i64 0, .int .i64 0, .int .u8 6, .string ⟨#[]⟩, .slice (some ⟨w.heap.size + 1 + 1 + 1 + 1, 0, none⟩) 1 1, .int .i64 0, .int .i64 7, .int .u8 4, .string ⟨#[]⟩, .slice (some ⟨w.heap.size + 1 + 1 + 1 + 1 + 1, 0, none⟩) 1 1, .int .i64 1, .int .i64 0] 39)) = W7 at hs hB
  have G := fun (W : World) (h : Below W7.heap.size W7 W) => (⟨hs.below h, by decide, small0.str, fits0, htab.below (hB.trans (h.mono hB.size))⟩ : Given W _ S0)
  have HT1 : ∀ W, Below W7.heap.size W7 W → Calls Tryd.prog 9 #[.slice (some ⟨w.heap.size + 1 + 1 + 1 + 1 + 1 + 1, 0, none⟩) 6 6, .agg #[.int .u8 5, .int .i64 3]] W fun e w' => e = .returned (.tuple #[.string ⟨#[123, 104, 105, 58, 32, 91, 49, 44, 32, 104, 105, 93, 125]⟩, .bool true]) ∧ Below W.heap.size W w' := fun W h => by
    have := Text_fits 6 (G W h) hll ⟨5, 3⟩ ⟨by decide, by decide, by decide⟩ (by rw [text0_map]; decide)
    rw [text0_map] at this
    exact this
  have HT2 : ∀ W, Below W7.heap.size W7 W → Calls Tryd.prog 9 #[.slice (some ⟨w.heap.size + 1 + 1 + 1 + 1 + 1 + 1, 0, none⟩) 6 6, .agg #[.int .u8 4, .int .i64 6]] W fun e w' => e = .returned (.tuple #[.string ⟨#[91, 91, 91, 91, 91, 91, 91, 91, 91, 46, 46, 93, 93, 93, 93, 93, 93, 93, 93, 93]⟩, .bool true]) ∧ Below W.heap.size W w' := fun W h => by
    have := Text_fits 6 (G W h) hll ⟨4, 6⟩ ⟨by decide, by decide, by decide⟩ (by rw [text0_list]; decide)
    rw [text0_list] at this
    exact this
  have HC1 : ∀ W, Below W7.heap.size W7 W → Calls Tryd.prog 14 #[.slice (some ⟨w.heap.size + 1 + 1 + 1 + 1 + 1 + 1, 0, none⟩) 6 6, .agg #[.int .u8 6, .int .i64 5]] W fun e w' => e = .returned (.bool true) ∧ Below W.heap.size W w' := fun W h =>
    Check_in 6 (hs.below h) small0 (fun o ho => (fits0 o ho).2.1) ⟨6, 5⟩ true (by simp [check0])
  have HC2 : ∀ W, Below W7.heap.size W7 W → Calls Tryd.prog 14 #[.slice (some ⟨w.heap.size + 1 + 1 + 1 + 1 + 1 + 1, 0, none⟩) 6 6, .agg #[.int .u8 3, .int .i64 9]] W fun e w' => e = .returned (.bool false) ∧ Below W.heap.size W w' := fun W h =>
    Check_in 6 (hs.below h) small0 (fun o ho => (fits0 o ho).2.1) ⟨3, 9⟩ false (by simp [check0_not])
  have HW : ∀ W, Below W7.heap.size W7 W → Calls Tryd.prog 15 #[.slice (some ⟨w.heap.size + 1 + 1 + 1 + 1 + 1 + 1, 0, none⟩) 6 6, .slice (some ⟨W.heap.size, 0, none⟩) 2 2] (W.alloc (.cells #[.int .u8 6, .int .i64 5, .int .u8 3, .int .i64 1] 26)) fun e w' => e = .returned (.int .i64 22) ∧ Below (W.alloc (.cells #[.int .u8 6, .int .i64 5, .int .u8 3, .int .i64 1] 26)).heap.size (W.alloc (.cells #[.int .u8 6, .int .i64 5, .int .u8 3, .int .i64 1] 26)) w' := fun W h => by
    have := Words_in (roots := [⟨6, 5⟩, ⟨3, 1⟩]) 6 2 (hs.below (h.trans ((below1 W (.cells #[.int .u8 6, .int .i64 5, .int .u8 3, .int .i64 1] 26)).mono h.size))) fair0 (vals_block (heap_alloc_new W (.cells #[.int .u8 6, .int .i64 5, .int .u8 3, .int .i64 1] 26)) (by
      intro j v hj
      match j, hj with
      | 0, hj => simp at hj; subst hj; simp
      | 1, hj => simp at hj; subst hj; simp)) (by decide)
    rw [words0] at this
    exact this
  clear hs G hll
  have HB : Hid _ := hB
  have HH : Hid _ := hW7
  clear hW7 hB
  go_enter Tryd.func12, Tryd.ntmps12
  go_wp2_with (first
    | (go_at_call 23; refine HN.mono ?_; clear HN; rintro e w1 ⟨rfl, rfl⟩)
    | (go_at_call 9; refine halt_here ?_))
  unfold Halted
  rw [HH.out]
  go_wp2_with (first
    | (go_at_call 9; (with_reducible refine (HT1 _ (Below.refl _ _)).mono ?_); clear HT1; rintro e w1 ⟨rfl, hB1⟩)
    | (go_at_call 9; (with_reducible refine (HT2 _ hB1).mono ?_); clear HT2; rintro e w2 ⟨rfl, hB2⟩; have hB2' := hB1.trans (hB2.mono hB1.size); have hb := heap_alloc_new w2 (.cells #[.int .u8 6, .int .i64 5] 26); obtain ⟨x0, x1⟩ := cell_rowV hb; have hB2a := hB2'.alloc hB2'.size (.cells #[.int .u8 6, .int .i64 5] 26))
    | (go_at_call 14; (with_reducible refine (HC1 _ hB2a).mono ?_); clear HC1; rintro e w3 ⟨rfl, hB3⟩; have hB3' := hB2a.trans (hB3.mono hB2a.size); have hb3 := (hB3.block w2.heap.size (by simp)).trans hb; obtain ⟨y0, y1⟩ := cell_rowV hb3)
    | (go_at_call 14; (with_reducible refine (HC2 _ hB3').mono ?_); clear HC2; rintro e w4 ⟨rfl, hB4⟩; have hB4' := hB3'.trans (hB4.mono hB3'.size); obtain ⟨z0, z1⟩ := cell_rowV ((hB4.block w2.heap.size (Array.getElem?_eq_some_iff.1 hb3).1).trans hb3))
    | (go_at_call 15; (with_reducible refine (HW _ hB4').mono ?_); clear HW; rintro e w5 ⟨rfl, hB5⟩))
  go_ret
  refine ⟨rfl, ?_⟩
  exact HB.out.trans ((hB4'.trans ((below1 w4 _).trans (hB5.mono (by simp)) |>.mono hB4'.size)).mono HB.out.size)

end Go.Proofs.YtppjahnahomkeaaDoor
