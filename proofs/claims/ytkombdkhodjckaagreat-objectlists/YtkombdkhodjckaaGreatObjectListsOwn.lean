/-
  For every two lists of numbers, the law gearboxlaw03.ObjectLists returns true and its arguments read behind the call as they read before.
  Conditions: none besides the given row's own (each slice that is read takes at most 2^47 - 4096 bytes).
-/
import Derived.Test.YtkombdkhodjckaaGreatLsLong
import Derived.Test.YtkombdkhodjckaaGreatRows
namespace Go.Proofs.YtkombdkhodjckaaGreat
open Go.ChangeShapes Go.WideShapes Go.ChangeAt Go.RowKit
set_option linter.unusedVariables false
set_option linter.unusedSimpArgs false

theorem objectLists_own : ownKnob Tryz.prog.godebug = none := by kernel_rfl

theorem objectLists_laidOut : laidOutB Tryz.prog = true := by kernel_rfl

theorem objectLists_walk (a0 : Option Addr) (xs : List Int) (cap0 : Nat) (a1 : Option Addr) (ys : List Int) (cap1 : Nat) (w : World) (h0 : IntsT w a0 xs) (h1 : IntsT w a1 ys) :
    Calls Tryz.prog 3 #[.slice a0 xs.length cap0, .slice a1 ys.length cap1] w fun e w' => e = .returned (.bool true) ∧ Below w.heap.size w w' := by
  by_cases h : xs.length ≤ 300 ∧ ys.length ≤ 300
  · exact objectLists_short cap0 cap1 h0 h1 h.1 h.2
  · exact objectLists_long cap0 cap1 w (by omega)

set_option maxRecDepth 100000 in
theorem objectLists_lifted (os : Os) (started : os.Started) (H : Type) (enc : TypeId × Value → H) :
    ReturnsInHanded {} Tryz.checked os 3 .any (Rows.objectListsSpec.pre6 enc Tryz.prog Tryz.f3 Rows.objectListsRow.domain false) (Rows.objectListsSpec.post enc Tryz.prog Tryz.f3 false true false false) := by
  refine returnsInHanded_of_change (C := Tryz.checked) objectLists_own started (by kernel_rfl) Tryz.func3
    (ChangeSpec.witness6 (enc := enc) (C := Tryz.checked) false ⟨#[], #[.slice none 0 0, .slice none 0 0], []⟩ 8 (by kernel_rfl) (by kernel_rfl) (by kernel_rfl) (by kernel_rfl)) ?_
  intro W base args ds gs before hval0 hW hcnd _
  have hval : ∀ (j : Nat) t v, Tryz.f3.params[j]? = some t → args[j]? = some v → Value.okWide Tryz.prog W .any base t v := hval0
  have hW' := hW
  obtain ⟨p, q, hA0, hV, rfl, hfz, hnd⟩ := hW
  have hA : DataW.TrodAll enc Tryz.prog W 0 (fun _ => true) true Tryz.f3.params.toList args.toList ds p := hA0
  rw [Tryz.params3] at hA hval
  obtain ⟨v0, vs0, d0, ds0, p0, q0, hargs, rfl, rfl, h0, r0⟩ := trodAll_cons hA
  obtain ⟨v1, vs1, d1, ds1, p1, q1, rfl, rfl, rfl, h1, r1⟩ := trodAll_cons r0
  obtain ⟨rfl, rfl, rfl⟩ := trodAll_nil r1
  obtain rfl : args = #[v0, v1] := by cases args; simp_all
  obtain ⟨rfl, rfl⟩ := trodVars_none hV
  obtain ⟨a0, len0, cap0, rfl⟩ := okWide_slice Tryz.underlying22 (hval 0 22 v0 rfl rfl)
  obtain ⟨a1, len1, cap1, rfl⟩ := okWide_slice Tryz.underlying22 (hval 1 22 v1 rfl rfl)
  have k0 := h0
  have k1 := h1
  have lt0 : ∀ x ∈ p0, x.block < W.heap.size := by obtain ⟨m, hm⟩ := k0; exact DataW.trod_lt m _ _ _ hm
  have lt1 : ∀ x ∈ p1, x.block < W.heap.size := by obtain ⟨m, hm⟩ := k1; exact DataW.trod_lt m _ _ _ hm
  obtain ⟨xs, hx, w0⟩ : ∃ xs : List Int, xs.length = len0 ∧ IntsT W a0 xs := by
    obtain ⟨fuel, hf⟩ := h0
    exact ints_told (by simpa [Value.cells] using hf)
  obtain ⟨ys, hy, w1⟩ : ∃ ys : List Int, ys.length = len1 ∧ IntsT W a1 ys := by
    obtain ⟨fuel, hf⟩ := h1
    exact ints_told (by simpa [Value.cells] using hf)
  subst hx hy
  clear hA0 hval0
  refine (objectLists_walk a0 xs cap0 a1 ys cap1 W w0 w1).mono fun e W' ⟨he, bel⟩ => ?_
  subst he
  exact ⟨_, rfl, _, _, _, [], _, [], hW', trodAll_mk1 (shut_bool Tryz.underlying4 _), (trodAll_cons_mk (Below.trod objectLists_laidOut (by kernel_rfl) (of_decide_eq_true (by kernel_rfl)) k0 bel lt0) (trodAll_cons_mk (Below.trod objectLists_laidOut (by kernel_rfl) (of_decide_eq_true (by kernel_rfl)) k1 bel lt1) trodAll_mk0)), rfl, bel.frame _, fun h => by cases h⟩

theorem objectLists_over : Rows.objectListsRow.holds Tryz.pinned (OpenSpec.ofChange Rows.objectListsSpec) :=
  OpenClaim.holds_of_wide 3 Tryz.f3 rfl rfl rfl rfl rfl rfl rfl ⟨rfl, rfl, rfl, rfl, rfl⟩ rfl rfl rfl rfl rfl (by kernel_rfl) Tryz.func3 (by kernel_rfl)
    (of_decide_eq_true (by kernel_rfl)) (by unfold Func.isWrapper; first | (rw [if_pos (by decide +kernel)]; kernel_rfl) | (rw [if_neg (by decide +kernel)]; exact ⟨rfl, rfl⟩))
    (fun os started H enc _ => objectLists_lifted os started H enc)

/-- The statement. -/
theorem objectLists_proved : Rows.ObjectListsSaid := objectLists_over

end Go.Proofs.YtkombdkhodjckaaGreat
