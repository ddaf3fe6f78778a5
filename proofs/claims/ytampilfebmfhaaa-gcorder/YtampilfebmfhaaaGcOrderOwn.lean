/-
  For every int, every slice of ops and every slice of values, the law gearboxlaw02.GcOrder returns true and its arguments read behind the call as they read before.
  Conditions: none besides the given row's own (each slice that is read takes at most 2^47 - 4096 bytes).
-/
import Derived.Test.YtampilfebmfhaaaGcOrder
import Derived.Test.YtampilfebmfhaaaGcTold
namespace Go.Proofs.Ytampilfebmfhaaa
open Go.ChangeShapes Go.WideShapes Go.ChangeAt Go.RowKit
open Go.ChangeMaps (open_string shut_string)
set_option linter.unusedVariables false
set_option linter.unusedSimpArgs false

theorem gcOrder_own : ownKnob Try.prog.godebug = none := by kernel_rfl

theorem gcOrder_laidOut : laidOutB Try.prog = true := by kernel_rfl

theorem gcOrder_walk (a0 : Int) (a1 : Option Addr) (len1 cap1 : Nat) (a2 : Option Addr) (vs : List Vl) (cap2 : Nat) (w : World) (hm : len1 ≤ maxLen) (w1 : ToldOps w a1 len1) (w2 : Vals w a2 vs) (w3 : ∀ v ∈ vs, v.k < 256) (w4 : a2 = none → vs = [] ∧ cap2 = 0) :
    Calls Try.prog 4 #[.int .i64 a0, .slice a1 len1 cap1, .slice a2 vs.length cap2] w fun e w' => e = .returned (.bool true) ∧ Below w.heap.size w w' := by
  by_cases h1 : 500 < vs.length
  · exact order_long a0 _ a2 _ cap2 w h1
  · obtain ⟨L, rfl, hL⟩ := w1.list
    exact order_ok a0 a1 L cap1 a2 vs cap2 w hm hL w2 (by omega) w3 w4

set_option maxRecDepth 100000 in
theorem gcOrder_lifted (os : Os) (started : os.Started) (H : Type) (enc : TypeId × Value → H) :
    ReturnsInHanded {} Try.checked os 4 .any (Rows.gcOrderSpec.pre6 enc Try.prog Try.f4 Rows.gcOrderRow.domain false) (Rows.gcOrderSpec.post enc Try.prog Try.f4 false true false false) := by
  refine returnsInHanded_of_change (C := Try.checked) gcOrder_own started (by kernel_rfl) Try.func4
    (ChangeSpec.witness6 (enc := enc) (C := Try.checked) false ⟨#[], #[.int .i64 0, .slice none 0 0, .slice none 0 0], []⟩ 8 (by kernel_rfl) (by kernel_rfl) (by kernel_rfl) (by kernel_rfl)) ?_
  intro W base args ds gs before hval0 hW hcnd _
  have hval : ∀ (j : Nat) t v, Try.f4.params[j]? = some t → args[j]? = some v → Value.okWide Try.prog W .any base t v := hval0
  have hW' := hW
  obtain ⟨p, q, hA0, hV, rfl, hfz, hnd⟩ := hW
  have hA : DataW.TrodAll enc Try.prog W 0 (fun _ => true) true Try.f4.params.toList args.toList ds p := hA0
  rw [Try.params4] at hA hval
  obtain ⟨v0, vs0, d0, ds0, p0, q0, hargs, rfl, rfl, h0, r0⟩ := trodAll_cons hA
  obtain ⟨v1, vs1, d1, ds1, p1, q1, rfl, rfl, rfl, h1, r1⟩ := trodAll_cons r0
  obtain ⟨v2, vs2, d2, ds2, p2, q2, rfl, rfl, rfl, h2, r2⟩ := trodAll_cons r1
  obtain ⟨rfl, rfl, rfl⟩ := trodAll_nil r2
  obtain rfl : args = #[v0, v1, v2] := by cases args; simp_all
  obtain ⟨rfl, rfl⟩ := trodVars_none hV
  obtain ⟨a0, rfl, rfl, rfl, w0⟩ := open_int Try.underlying3 (hval 0 3 v0 rfl rfl) h0
  obtain ⟨a1, len1, cap1, rfl⟩ := okWide_slice Try.underlying22 (hval 1 22 v1 rfl rfl)
  obtain ⟨a2, len2, cap2, rfl⟩ := okWide_slice Try.underlying23 (hval 2 23 v2 rfl rfl)
  have k1 := h1
  have k2 := h2
  have lt1 : ∀ x ∈ p1, x.block < W.heap.size := by obtain ⟨m, hm⟩ := k1; exact DataW.trod_lt m _ _ _ hm
  have lt2 : ∀ x ∈ p2, x.block < W.heap.size := by obtain ⟨m, hm⟩ := k2; exact DataW.trod_lt m _ _ _ hm
  obtain ⟨m1, w1⟩ : len1 ≤ maxLen ∧ ToldOps W a1 len1 := by
    obtain ⟨fuel, hf⟩ := h1
    exact ops_told (by simpa [Value.cells] using hf)
  obtain ⟨vs, hvl, w2, w3, w4⟩ : ∃ vs : List Vl, vs.length = len2 ∧ Vals W a2 vs ∧ (∀ v ∈ vs, v.k < 256) ∧ (a2 = none → vs = [] ∧ cap2 = 0) := by
    obtain ⟨fuel, hf⟩ := h2
    exact vals_told (by simpa [Value.cells] using hf)
  subst hvl
  clear hA0 hval0
  refine (gcOrder_walk a0 a1 len1 cap1 a2 vs cap2 W m1 w1 w2 w3 w4).mono fun e W' ⟨he, bel⟩ => ?_
  subst he
  exact ⟨_, rfl, _, _, _, [], _, [], hW', trodAll_mk1 (shut_bool Try.underlying4 _), (trodAll_cons_mk (shut_int Try.underlying3 w0) (trodAll_cons_mk (Below.trod gcOrder_laidOut (by kernel_rfl) (of_decide_eq_true (by kernel_rfl)) k1 bel lt1) (trodAll_cons_mk (Below.trod gcOrder_laidOut (by kernel_rfl) (of_decide_eq_true (by kernel_rfl)) k2 bel lt2) trodAll_mk0))), rfl, bel.frame _, fun h => by cases h⟩

theorem gcOrder_over : Rows.gcOrderRow.holds Try.pinned (OpenSpec.ofChange Rows.gcOrderSpec) :=
  OpenClaim.holds_of_wide 4 Try.f4 rfl rfl rfl rfl rfl rfl rfl ⟨rfl, rfl, rfl, rfl, rfl⟩ rfl rfl rfl rfl rfl (by kernel_rfl) Try.func4 (by kernel_rfl)
    (of_decide_eq_true (by kernel_rfl)) (by unfold Func.isWrapper; first | (rw [if_pos (by decide +kernel)]; kernel_rfl) | (rw [if_neg (by decide +kernel)]; exact ⟨rfl, rfl⟩))
    (fun os started H enc _ => gcOrder_lifted os started H enc)

/-- The statement. -/
theorem gcOrder_proved : Rows.GcOrderSaid := gcOrder_over

end Go.Proofs.Ytampilfebmfhaaa
