/-
  For every store and every slice of values, the law gearboxlaw04.ShowWords returns true and its arguments read behind the call as they read before.
  Conditions: none besides the given row's own (each string and each slice that is read takes at most 2^47 - 4096 bytes).
-/
import Derived.Test.YtppjahnahomkeaaShWordsLaw
namespace Go.Proofs.Ytppjahnahomkeaa
open Go.ChangeShapes Go.WideShapes Go.ChangeAt Go.RowKit
set_option linter.unusedVariables false
set_option linter.unusedSimpArgs false

theorem showWords_own : ownKnob Try.prog.godebug = none := by kernel_rfl

theorem showWords_laidOut : laidOutB Try.prog = true := by kernel_rfl

set_option maxRecDepth 100000 in
theorem showWords_lifted (os : Os) (started : os.Started) (H : Type) (enc : TypeId × Value → H) :
    ReturnsInHanded {} Try.checked os 4 .any (Rows.showWordsSpec.pre6 enc Try.prog Try.f4 Rows.showWordsRow.domain false) (Rows.showWordsSpec.post enc Try.prog Try.f4 false true false false) := by
  refine returnsInHanded_of_change_sized (C := Try.checked) showWords_own started (by kernel_rfl) Try.func4
    (ChangeSpec.witness6 (enc := enc) (C := Try.checked) false ⟨#[], #[.slice none 0 0, .slice none 0 0], []⟩ 8 (by kernel_rfl) (by kernel_rfl) (by kernel_rfl) (by kernel_rfl)) ?_
  intro W base args ds gs before hval0 hW hcnd hsz0 _
  have hval : ∀ (j : Nat) t v, Try.f4.params[j]? = some t → args[j]? = some v → Value.okWide Try.prog W .any base t v := hval0
  have hsz : (DataW.weightsEach Try.prog (Try.f4.params.toList ++ Rows.showWordsSpec.plain.varTypes Try.prog) (ds ++ gs)).all (· ≤ reachBytes) = true := hsz0
  have hW' := hW
  obtain ⟨p, q, hA0, hV, rfl, hfz, hnd⟩ := hW
  have hA : DataW.TrodAll enc Try.prog W 0 (fun _ => true) true Try.f4.params.toList args.toList ds p := hA0
  rw [Try.params4] at hA hval hsz
  obtain ⟨v0, vs0, d0, ds0, p0, q0, hargs, rfl, rfl, h0, r0⟩ := trodAll_cons hA
  obtain ⟨v1, vs1, d1, ds1, p1, q1, rfl, rfl, rfl, h1, r1⟩ := trodAll_cons r0
  obtain ⟨rfl, rfl, rfl⟩ := trodAll_nil r1
  obtain rfl : args = #[v0, v1] := by cases args; simp_all
  obtain ⟨rfl, rfl⟩ := trodVars_none hV
  obtain ⟨a0, len0, cap0, rfl⟩ := okWide_slice Try.underlying23 (hval 0 23 v0 rfl rfl)
  obtain ⟨a1, len1, cap1, rfl⟩ := okWide_slice Try.underlying31 (hval 1 31 v1 rfl rfl)
  have k0 := h0
  have k1 := h1
  have lt0 : ∀ x ∈ p0, x.block < W.heap.size := by obtain ⟨m, hm⟩ := k0; exact DataW.trod_lt m _ _ _ hm
  have lt1 : ∀ x ∈ p1, x.block < W.heap.size := by obtain ⟨m, hm⟩ := k1; exact DataW.trod_lt m _ _ _ hm
  have hwt : ∀ n ∈ d0.weights Try.prog 23, n ≤ reachBytes := fun n hn => by
    have := List.all_eq_true.1 hsz n (DataW.weights_mem_each (j := 0) (t := 23) (d := d0) rfl rfl n hn)
    simpa using this
  obtain ⟨S, hSl, hS, hfit, hn0, hS64⟩ : ∃ S : List Om, S.length = len0 ∧ IsSt W a0 S ∧ (∀ o ∈ S, o.fits ∧ o.s.size ≤ reachBytes ∧ o.l.length * 16 ≤ reachBytes) ∧ (a0 = none → cap0 = 0) ∧ len0 * 64 ≤ reachBytes := by
    obtain ⟨fuel, hf⟩ := h0
    exact objs_told (x := (d0, p0)) (by simpa [Value.cells] using hf) hwt
  obtain ⟨vs, hvl, w2, w3, w4, -⟩ : ∃ vs : List Vl, vs.length = len1 ∧ Vals W a1 vs ∧ (∀ v ∈ vs, v.fits) ∧ (a1 = none → cap1 = 0) ∧ ((∀ n ∈ d1.weights Try.prog 31, n ≤ reachBytes) → len1 * 16 ≤ reachBytes) := by
    obtain ⟨fuel, hf⟩ := h1
    exact vals_told (x := (d1, p1)) (by simpa [Value.cells] using hf)
  subst hvl hSl
  have hb : Came S := by
    have hr : reachBytes ≤ 140737488355328 := by decide
    exact ⟨by omega, fun o ho => by have := (hfit o ho).2.2; omega, fun o ho => by have := (hfit o ho).2.1; omega⟩
  clear hA0 hval0 hsz0
  refine (showWords_walk a0 S cap0 a1 vs cap1 W hS hb w2 w4).mono fun e W' ⟨he, bel⟩ => ?_
  subst he
  exact ⟨_, rfl, _, _, _, [], _, [], hW', trodAll_mk1 (shut_bool Try.underlying4 _), (trodAll_cons_mk (Below.trod showWords_laidOut (by kernel_rfl) (of_decide_eq_true (by kernel_rfl)) k0 bel lt0) (trodAll_cons_mk (Below.trod showWords_laidOut (by kernel_rfl) (of_decide_eq_true (by kernel_rfl)) k1 bel lt1) trodAll_mk0)), rfl, bel.frame _, fun h => by cases h⟩

theorem showWords_over : Rows.showWordsRow.holds Try.pinned (OpenSpec.ofChange Rows.showWordsSpec) :=
  OpenClaim.holds_of_wide 4 Try.f4 rfl rfl rfl rfl rfl rfl rfl ⟨rfl, rfl, rfl, rfl, rfl⟩ rfl rfl rfl rfl rfl (by kernel_rfl) Try.func4 (by kernel_rfl)
    (of_decide_eq_true (by kernel_rfl)) (by unfold Func.isWrapper; first | (rw [if_pos (by decide +kernel)]; kernel_rfl) | (rw [if_neg (by decide +kernel)]; exact ⟨rfl, rfl⟩))
    (fun os started H enc _ => showWords_lifted os started H enc)

/-- The statement. -/
theorem showWords_proved : Rows.ShowWordsSaid := showWords_over

end Go.Proofs.Ytppjahnahomkeaa
