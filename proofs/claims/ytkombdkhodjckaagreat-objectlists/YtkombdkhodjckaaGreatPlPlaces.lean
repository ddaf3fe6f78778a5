/- Plain's places, where one object was met. -/
import Derived.Test.YtkombdkhodjckaaGreatPlNum
import Derived.Test.YtkombdkhodjckaaGreatSortK
namespace Go.Proofs.YtkombdkhodjckaaGreat
set_option linter.unusedVariables false
set_option linter.unusedSimpArgs false
open Go.RowKit Go.Maps Go.Sort Go.Shelf

variable {n₀ bh b lim used : Nat} {vw vb : Value} {w : World} {M : List Ob}

theorem sorts_one (m : Nat) : AnyZI.SortsIn Tryz.prog Tryz.sortedA_ren Fence.wide m :=
  ⟨fun blk off cap ss W hH hblk hsz => callsIn_wide.2 (AnyM.slices_Sort_int Tryz.sortA blk off cap ss W hH hblk hsz),
   fun p cap W => callsIn_wide.2 (AnyM.slices_Sort_int_none Tryz.sortA p cap W)⟩

set_option maxRecDepth 20000 in
set_option maxHeartbeats 2000000 in
theorem places_one {g mb p : Nat} {x : Bd} {todo : Value} (ht : Tour w g bh mb todo) (hm : Met1 w mb p x) :
    Calls Tryz.prog 29 #[.pointer (some ⟨g, 0, none⟩)] w fun e w' => ∃ gq c, e = .returned (.slice (some ⟨gq, 0, none⟩) 1 c) ∧ w'.ownsRow w.heap.size 2 1 (.slice (some ⟨gq, 0, none⟩) 1 c) 1 [.int .i64 (p : Int)] ∧ Below w.heap.size w w' := by
  refine (callsIn_wide (n := 8)).1 ?_
  have hbl := hm.lt
  obtain ⟨⟨c0, c1, c2⟩, _⟩ := ht.cells
  obtain ⟨D0, hD0⟩ : ∃ D0 : DataW Unit, D0 = .map [(.int .i64 (p : Int), .lit (litB x))] := ⟨_, rfl⟩
  have hown : w.ownsMap Tryz.prog 2 (RBk (keyOf Tryz.prog 58)) mb 1 D0 := by rw [hD0]; exact hm
  have hks : intKeys D0 = [(p : Int)] := by rw [hD0]; exact keys_one p _
  have hsz : Maps.size D0 = 1 := by rw [hD0]; exact size_one p _
  have hseq : SeqGives Fence.wide 2 Tryz.prog 105 #[.pointer (some ⟨w.heap.size, 0, none⟩)] encZ (fun ss => ss.Perm (intKeys D0)) (Maps.size D0) (w.alloc (.cells #[.map (some mb)] 64)) :=
    AnyZI.keys_gives (ρ := Tryz.keysA_ren) { Tryz.keysA with } Fence.wide _ trivial rfl (by omega) w.heap.size mb 1 D0 _ (by simp) (by simp) (by
      obtain ⟨es, clock, hb, Ft, hs, hD⟩ := hown
      exact ⟨es, clock, (Below.heap_alloc _ _ mb hbl).trans hb, Ft, hs, hD⟩)
  have cK : ∀ mb W, CallsIn Fence.wide 7 Tryz.prog 68 #[.map mb] W fun e w' => e = .returned (.func (.func 105) #[] #[.pointer (some ⟨W.heap.size, 0, none⟩)]) ∧ w' = W.alloc (.cells #[.map mb] 64) := fun mb W => AnyZI.keys_in Tryz.keysA Fence.wide 7 trivial rfl mb W
  have cS := AnyZI.sorted_in Tryz.sortedA Fence.wide 5 trivial trivial trivial trivial rfl (by omega) (sorts_one _) (enters_of Tryz.func104 (by kernel_rfl) rfl) 105 #[.pointer (some ⟨w.heap.size, 0, none⟩)] trivial (enters_of Tryz.func105 (by kernel_rfl) rfl) _ _ (by rw [hsz]; unfold maxLen; omega) (by rw [hsz]; omega) _ hseq
  change CallsIn _ _ Tryz.prog 67 _ _ _ at cS
  have cS := (callsIn_wide (n := 7)).2 ((callsIn_wide (n := 5)).1 cS)
  have hfK : Fence.wide.fn 68 := trivial
  have hfS : Fence.wide.fn 67 := trivial
  clear hown hD0 hseq
  refine callsIn_of_wp Tryz.func29 rfl trivial ?_ rfl
  simp only [Tryz.ntmps29, List.size_toArray, List.length_cons, List.length_nil, Nat.reduceAdd, Nat.reduceSub, Array.replicate_succ, Array.replicate_zero, List.push_toArray, List.append_toArray, List.nil_append, List.cons_append]
  gi_wp2_with (first
    | (gi_at_call 68; refine (cK _ _).mono ?_; rintro e w' ⟨rfl, rfl⟩)
    | (gi_at_call 67; refine cS.mono ?_; rintro e w' ⟨v, ss, rfl, hS, hrow, hnil, hb⟩))
  go_ret
  rw [hks] at hS
  obtain rfl : ss = [(p : Int)] := List.perm_singleton.1 hS
  have hv : v ≠ .slice none 0 0 := fun e => by have := hnil.1 e; simp at this
  have hrow' : w'.ownsRow w.heap.size 2 1 v 1 [.int .i64 (p : Int)] := by
    have := row_mono2 (base' := w.heap.size) hrow (by simp)
    simp only [List.mergeSort_singleton, List.map_cons, List.map_nil, List.length_cons, List.length_nil] at this
    exact this
  obtain ⟨gq, c, e, _⟩ := IsAr.row_some hrow' (by omega)
  subst e
  exact ⟨gq, c, rfl, hrow', ((Below.refl _ w).alloc (Nat.le_refl _) _).trans (hb.mono (by simp))⟩

end Go.Proofs.YtkombdkhodjckaaGreat
