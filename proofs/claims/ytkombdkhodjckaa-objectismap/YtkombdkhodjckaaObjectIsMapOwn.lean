/-
  For every two lists of pairs of numbers and either word on texts, the law gearboxlaw03.ObjectIsMap returns true and its arguments read behind the call as they read before.
  Conditions: none besides the given row's own (each slice that is read takes at most 2^47 - 4096 bytes).
-/
import Derived.Test.YtkombdkhodjckaaIsMapLong
import Derived.Test.YtkombdkhodjckaaRows
namespace Go.Proofs.Ytkombdkhodjckaa
open Go.ChangeShapes Go.WideShapes Go.ChangeAt Go.RowKit
set_option linter.unusedVariables false
set_option linter.unusedSimpArgs false

theorem objectIsMap_own : ownKnob Try.prog.godebug = none := by kernel_rfl

theorem objectIsMap_laidOut : laidOutB Try.prog = true := by kernel_rfl

theorem objectIsMap_walk (a0 : Option Addr) (xs : List (Int × Int)) (cap0 : Nat) (a1 : Option Addr) (ys : List (Int × Int)) (cap1 : Nat) (tb : Bool) (w : World) (h0 : PairsT w a0 xs) (h1 : PairsT w a1 ys) :
    Calls Try.prog 4 #[.slice a0 xs.length cap0, .slice a1 ys.length cap1, .bool tb] w fun e w' => e = .returned (.bool true) ∧ Below w.heap.size w w' := by
  by_cases h : xs.length ≤ 60 ∧ ys.length ≤ 100
  · exact objectIsMap_short cap0 cap1 h0 h1 h.1 h.2 tb
  · exact objectIsMap_long cap0 cap1 w (by omega) tb

set_option maxRecDepth 100000 in
theorem objectIsMap_lifted (os : Os) (started : os.Started) (H : Type) (enc : TypeId × Value → H) :
    ReturnsInHanded {} Try.checked os 4 .any (Rows.objectIsMapSpec.pre6 enc Try.prog Try.f4 Rows.objectIsMapRow.domain false) (Rows.objectIsMapSpec.post enc Try.prog Try.f4 false true false false) := by
  refine returnsInHanded_of_change (C := Try.checked) objectIsMap_own started (by kernel_rfl) Try.func4
    (ChangeSpec.witness6 (enc := enc) (C := Try.checked) false ⟨#[], #[.slice none 0 0, .slice none 0 0, .bool false], []⟩ 8 (by kernel_rfl) (by kernel_rfl) (by kernel_rfl) (by kernel_rfl)) ?_
  intro W base args ds gs before hval0 hW hcnd _
  have hval : ∀ (j : Nat) t v, Try.f4.params[j]? = some t → args[j]? = some v → Value.okWide Try.prog W .any base t v := hval0
  have hW' := hW
  obtain ⟨p, q, hA0, hV, rfl, hfz, hnd⟩ := hW
  have hA : DataW.TrodAll enc Try.prog W 0 (fun _ => true) true Try.f4.params.toList args.toList ds p := hA0
  rw [Try.params4] at hA hval
  obtain ⟨v0, vs0, d0, ds0, p0, q0, hargs, rfl, rfl, h0, r0⟩ := trodAll_cons hA
  obtain ⟨v1, vs1, d1, ds1, p1, q1, rfl, rfl, rfl, h1, r1⟩ := trodAll_cons r0
  obtain ⟨v2, vs2, d2, ds2, p2, q2, rfl, rfl, rfl, h2, r2⟩ := trodAll_cons r1
  obtain ⟨rfl, rfl, rfl⟩ := trodAll_nil r2
  obtain rfl : args = #[v0, v1, v2] := by cases args; simp_all
  obtain ⟨rfl, rfl⟩ := trodVars_none hV
  obtain ⟨a0, len0, cap0, rfl⟩ := okWide_slice Try.underlying40 (hval 0 40 v0 rfl rfl)
  obtain ⟨a1, len1, cap1, rfl⟩ := okWide_slice Try.underlying40 (hval 1 40 v1 rfl rfl)
  obtain ⟨tb, rfl, rfl, rfl⟩ := open_bool Try.underlying4 (hval 2 4 v2 rfl rfl) h2
  have k0 := h0
  have k1 := h1
  have lt0 : ∀ x ∈ p0, x.block < W.heap.size := by obtain ⟨m, hm⟩ := k0; exact DataW.trod_lt m _ _ _ hm
  have lt1 : ∀ x ∈ p1, x.block < W.heap.size := by obtain ⟨m, hm⟩ := k1; exact DataW.trod_lt m _ _ _ hm
  obtain ⟨xs, hx, w0⟩ : ∃ xs : List (Int × Int), xs.length = len0 ∧ PairsT W a0 xs := by
    obtain ⟨fuel, hf⟩ := h0
    exact pairs_told (by simpa [Value.cells] using hf)
  obtain ⟨ys, hy, w1⟩ : ∃ ys : List (Int × Int), ys.length = len1 ∧ PairsT W a1 ys := by
    obtain ⟨fuel, hf⟩ := h1
    exact pairs_told (by simpa [Value.cells] using hf)
  subst hx hy
  clear hA0 hval0
  refine (objectIsMap_walk a0 xs cap0 a1 ys cap1 tb W w0 w1).mono fun e W' ⟨he, bel⟩ => ?_
  subst he
  exact ⟨_, rfl, _, _, _, [], _, [], hW', trodAll_mk1 (shut_bool Try.underlying4 _), (trodAll_cons_mk (Below.trod objectIsMap_laidOut (by kernel_rfl) (of_decide_eq_true (by kernel_rfl)) k0 bel lt0) (trodAll_cons_mk (Below.trod objectIsMap_laidOut (by kernel_rfl) (of_decide_eq_true (by kernel_rfl)) k1 bel lt1) (trodAll_cons_mk (shut_bool Try.underlying4 tb) trodAll_mk0))), rfl, bel.frame _, fun h => by cases h⟩

theorem objectIsMap_over : Rows.objectIsMapRow.holds Try.pinned (OpenSpec.ofChange Rows.objectIsMapSpec) :=
  OpenClaim.holds_of_wide 4 Try.f4 rfl rfl rfl rfl rfl rfl rfl ⟨rfl, rfl, rfl, rfl, rfl⟩ rfl rfl rfl rfl rfl (by kernel_rfl) Try.func4 (by kernel_rfl)
    (of_decide_eq_true (by kernel_rfl)) (by unfold Func.isWrapper; first | (rw [if_pos (by decide +kernel)]; kernel_rfl) | (rw [if_neg (by decide +kernel)]; exact ⟨rfl, rfl⟩))
    (fun os started H enc _ => objectIsMap_lifted os started H enc)

/-- The statement. -/
theorem objectIsMap_proved : Rows.ObjectIsMapSaid := objectIsMap_over

end Go.Proofs.Ytkombdkhodjckaa
