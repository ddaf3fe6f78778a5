/-
  For every store and every value, the law gearboxlaw04.ShowChecks returns true and its arguments read behind the call as they read before.
  Conditions: none besides the given row's own (each string and each slice that is read takes at most 2^47 - 4096 bytes).
-/
import Derived.Test.YtppjahnahomkeaaShChecksLaw
namespace Go.Proofs.Ytppjahnahomkeaa
open Go.ChangeShapes Go.WideShapes Go.ChangeAt Go.RowKit
set_option linter.unusedVariables false
set_option linter.unusedSimpArgs false

theorem showChecks_own : ownKnob Try.prog.godebug = none := by kernel_rfl

theorem showChecks_laidOut : laidOutB Try.prog = true := by kernel_rfl

set_option maxRecDepth 20000 in
theorem val_told {H : Type} {enc : TypeId × Value → H} {W : World} {fuel : Nat} {cs : Array Value} {x : DataW H × List MemPlace}
    (h : DataW.trod enc Try.prog W 0 (fun _ => true) true fuel 26 cs.toList = some x) : ∃ (k : Nat) (n : Int), cs = #[.int .u8 k, .int .i64 n] := by
  obtain ⟨xs, n', _, _, hl6, hx6, hf⟩ := DataW.trod_struct Try.underlying26 h
  rw [cellsVal] at hl6
  obtain ⟨l⟩ := cs
  simp only at hf hl6
  match l, hl6, xs, hx6 with
  | [c0, c1], _, [y0, y1], _ =>
    obtain ⟨x0, h0, _, w0⟩ := DataW.trod_int Try.underlying24 (hf 0 _ rfl)
    obtain ⟨x1, h1, _, w1⟩ := DataW.trod_int Try.underlying2 (hf 1 _ rfl)
    have k0 : Try.prog.cellsOf 24 = 1 := by kernel_rfl
    have k1 : Try.prog.cellsOf 2 = 1 := by kernel_rfl
    simp [k0, k1] at h0 h1
    subst h0 h1
    obtain ⟨m0, rfl, b0'⟩ := nat_u8 w0
    exact ⟨m0, x1, rfl⟩

set_option maxRecDepth 100000 in
theorem showChecks_lifted (os : Os) (started : os.Started) (H : Type) (enc : TypeId × Value → H) :
    ReturnsInHanded {} Try.checked os 3 .any (Rows.showChecksSpec.pre6 enc Try.prog Try.f3 Rows.showChecksRow.domain false) (Rows.showChecksSpec.post enc Try.prog Try.f3 false true false false) := by
  refine returnsInHanded_of_change_sized (C := Try.checked) showChecks_own started (by kernel_rfl) Try.func3
    (ChangeSpec.witness6 (enc := enc) (C := Try.checked) false ⟨#[], #[.slice none 0 0, .agg #[.int .u8 0, .int .i64 0]], []⟩ 8 (by kernel_rfl) (by kernel_rfl) (by kernel_rfl) (by kernel_rfl)) ?_
  intro W base args ds gs before hval0 hW hcnd hsz0 _
  have hval : ∀ (j : Nat) t v, Try.f3.params[j]? = some t → args[j]? = some v → Value.okWide Try.prog W .any base t v := hval0
  have hsz : (DataW.weightsEach Try.prog (Try.f3.params.toList ++ Rows.showChecksSpec.plain.varTypes Try.prog) (ds ++ gs)).all (· ≤ reachBytes) = true := hsz0
  have hW' := hW
  obtain ⟨p, q, hA0, hV, rfl, hfz, hnd⟩ := hW
  have hA : DataW.TrodAll enc Try.prog W 0 (fun _ => true) true Try.f3.params.toList args.toList ds p := hA0
  rw [Try.params3] at hA hval hsz
  obtain ⟨v0, vs0, d0, ds0, p0, q0, hargs, rfl, rfl, h0, r0⟩ := trodAll_cons hA
  obtain ⟨v1, vs1, d1, ds1, p1, q1, rfl, rfl, rfl, h1, r1⟩ := trodAll_cons r0
  obtain ⟨rfl, rfl, rfl⟩ := trodAll_nil r1
  obtain rfl : args = #[v0, v1] := by cases args; simp_all
  obtain ⟨rfl, rfl⟩ := trodVars_none hV
  obtain ⟨a0, len0, cap0, rfl⟩ := okWide_slice Try.underlying23 (hval 0 23 v0 rfl rfl)
  obtain ⟨x1, rfl, -⟩ := okWide_struct Try.underlying26 (hval 1 26 v1 rfl rfl)
  have k0 := h0
  have k1 := h1
  have lt0 : ∀ x ∈ p0, x.block < W.heap.size := by obtain ⟨m, hm⟩ := k0; exact DataW.trod_lt m _ _ _ hm
  have lt1 : ∀ x ∈ p1, x.block < W.heap.size := by obtain ⟨m, hm⟩ := k1; exact DataW.trod_lt m _ _ _ hm
  have hwt : ∀ n ∈ d0.weights Try.prog 23, n ≤ reachBytes := fun n hn => by
    have := List.all_eq_true.1 hsz n (DataW.weights_mem_each (j := 0) (t := 23) (d := d0) rfl rfl n hn)
    simpa using this
  obtain ⟨S, hSl, hS, hfit, hn0, hS64⟩ : ∃ S : List Om, S.length = len0 ∧ IsSt W a0 S ∧ (∀ o ∈ S, o.fits ∧ o.s.size ≤ reachBytes ∧ o.l.length * 16 ≤ reachBytes) ∧ (a0 = none → cap0 = 0) ∧ len0 * 64 ≤ reachBytes := by
    obtain ⟨fuel, hf⟩ := h0
    exact objs_told (x := (d0, p0)) (by simpa [Value.cells] using hf) hwt
  obtain ⟨k, n, rfl⟩ : ∃ (k : Nat) (n : Int), x1 = #[.int .u8 k, .int .i64 n] := by
    obtain ⟨fuel, hf⟩ := h1
    exact val_told (by simpa [Value.cells] using hf)
  subst hSl
  have hb : Came S := by
    have hr : reachBytes ≤ 140737488355328 := by decide
    exact ⟨by omega, fun o ho => by have := (hfit o ho).2.2; omega, fun o ho => by have := (hfit o ho).2.1; omega⟩
  clear hA0 hval0 hsz0
  refine (showChecks_walk a0 S cap0 ⟨k, n⟩ W hS hb (fun o ho => (hfit o ho).1.2.1)).mono fun e W' ⟨he, bel⟩ => ?_
  subst he
  exact ⟨_, rfl, _, _, _, [], _, [], hW', trodAll_mk1 (shut_bool Try.underlying4 _), (trodAll_cons_mk (Below.trod showChecks_laidOut (by kernel_rfl) (of_decide_eq_true (by kernel_rfl)) k0 bel lt0) (trodAll_cons_mk (Below.trod showChecks_laidOut (by kernel_rfl) (of_decide_eq_true (by kernel_rfl)) k1 bel lt1) trodAll_mk0)), rfl, bel.frame _, fun h => by cases h⟩

theorem showChecks_over : Rows.showChecksRow.holds Try.pinned (OpenSpec.ofChange Rows.showChecksSpec) :=
  OpenClaim.holds_of_wide 3 Try.f3 rfl rfl rfl rfl rfl rfl rfl ⟨rfl, rfl, rfl, rfl, rfl⟩ rfl rfl rfl rfl rfl (by kernel_rfl) Try.func3 (by kernel_rfl)
    (of_decide_eq_true (by kernel_rfl)) (by unfold Func.isWrapper; first | (rw [if_pos (by decide +kernel)]; kernel_rfl) | (rw [if_neg (by decide +kernel)]; exact ⟨rfl, rfl⟩))
    (fun os started H enc _ => showChecks_lifted os started H enc)

/-- The statement. -/
theorem showChecks_proved : Rows.ShowChecksSaid := showChecks_over

end Go.Proofs.Ytppjahnahomkeaa
