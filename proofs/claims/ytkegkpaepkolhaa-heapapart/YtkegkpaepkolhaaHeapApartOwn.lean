/-
  For every int and every slice of ops, the law gearboxlaw01.HeapApart returns true and its arguments read behind the call as they read before.
  Conditions: none besides the given row's own (each slice that is read takes at most 2^47 - 4096 bytes).
-/
import Derived.Test.YtkegkpaepkolhaaApart
import Derived.WalkKit
import Derived.ProofKit
import Derived.OpenShut
import Derived.ShutString
import Derived.ChangeOld
import Derived.Below
import Derived.Deep.Slices
namespace Go.Proofs.Ytkegkpaepkolhaa
open Go.ChangeShapes Go.WideShapes Go.ChangeAt Go.RowKit
open Go.ChangeMaps (open_string shut_string)
set_option linter.unusedVariables false

theorem heapApart_own : ownKnob Try.prog.godebug = none := by kernel_rfl
theorem heapApart_laidOut : laidOutB Try.prog = true := by kernel_rfl
theorem cells31 : Try.prog.cellsOf 31 = 6 := by kernel_rfl

theorem nat_u8 {n : Int} (h : (Lit.int .u8 n).wf = true) : ∃ m : Nat, n = m ∧ m < 256 := by
  simp only [Lit.wf, IntKind.min, IntKind.max, IntKind.signed, IntKind.bits, Bool.and_eq_true] at h
  simp at h
  exact ⟨n.toNat, by omega, by omega⟩

theorem ops_told {H : Type} {enc : TypeId × Value → H} {W : World} {fuel : Nat} {p : Option Addr} {len cap : Nat} {x : DataW H × List MemPlace}
    (h : DataW.trod enc Try.prog W 0 (fun _ => true) true fuel 22 [.slice p len cap] = some x) : len ≤ maxLen ∧ ToldOps W p len := by
  rcases Go.Deep.open_slice Try.underlying22 h with ⟨hcs, _⟩ | ⟨a, l, c, m, n, D, Pl, hcs, _, hl, hm, hmm, _, hall⟩
  · simp at hcs
    obtain ⟨rfl, rfl, rfl⟩ := hcs
    exact ⟨by unfold maxLen; omega, fun j hj => by omega⟩
  · simp at hcs
    obtain ⟨rfl, rfl, rfl⟩ := hcs
    simp at hmm
    subst hmm
    refine ⟨Nat.le_trans hl hm, fun j hj => ?_⟩
    obtain ⟨cs, hc, ht⟩ := hall j (by omega)
    rw [cells31] at hc
    obtain ⟨xs, n', _, _, hl6, hx6, hf⟩ := DataW.trod_struct Try.underlying31 ht
    rw [cells31] at hl6
    obtain ⟨_, hcl, hcc⟩ := World.cells?_some hc
    obtain ⟨b0, off, spot⟩ := a
    have hspot : spot = none := by
      obtain ⟨cs0, hc0, _⟩ := hall 0 (by omega)
      rw [cells31] at hc0
      obtain ⟨_, hcl0, hcc0⟩ := World.cells?_some hc0
      have h0 := hcc0 0 (by omega)
      rw [List.getElem?_eq_getElem (by omega)] at h0
      simpa [Addr.add] using World.cell?_spot h0
    subst hspot
    match cs, hl6, xs, hx6 with
    | [c0, c1, c2, c3, c4, c5], _, [y0, y1, y2, y3, y4, y5], _ =>
      obtain ⟨x0, h0, _, w0⟩ := DataW.trod_int Try.underlying5 (hf 0 _ rfl)
      obtain ⟨x1, h1, _, w1⟩ := DataW.trod_int Try.underlying28 (hf 1 _ rfl)
      obtain ⟨x2, h2, _, w2⟩ := DataW.trod_int Try.underlying3 (hf 2 _ rfl)
      obtain ⟨x3, h3, _, w3⟩ := DataW.trod_int Try.underlying2 (hf 3 _ rfl)
      obtain ⟨x4, h4, _, w4⟩ := DataW.trod_int Try.underlying2 (hf 4 _ rfl)
      obtain ⟨x5, h5, _, w5⟩ := DataW.trod_int Try.underlying29 (hf 5 _ rfl)
      have k5 : Try.prog.cellsOf 5 = 1 := by kernel_rfl
      have k28 : Try.prog.cellsOf 28 = 1 := by kernel_rfl
      have k3 : Try.prog.cellsOf 3 = 1 := by kernel_rfl
      have k2 : Try.prog.cellsOf 2 = 1 := by kernel_rfl
      have k29 : Try.prog.cellsOf 29 = 1 := by kernel_rfl
      simp [k5, k28, k3, k2, k29] at h0 h1 h2 h3 h4 h5
      subst h0 h1 h2 h3 h4 h5
      obtain ⟨m0, rfl, b0'⟩ := nat_u8 w0
      obtain ⟨m1, rfl, b1'⟩ := nat_u8 w1
      refine ⟨b0, off, rfl, ⟨m0, m1, x2, x3, x4, x5⟩, b0', b1', fun w' hb => ?_⟩
      have key : ∀ i (hi : i < 6) v, [Value.int .u8 m0, .int .u8 m1, .int .i64 x2, .int .i64 x3, .int .i64 x4, .int .u64 x5][i]? = some v → w'.cell? ⟨b0, off + j * 6 + i, none⟩ = some v := by
        intro i hi v hv
        have h1 := hcc i hi
        rw [Addr.add_lit, Addr.add_lit] at h1
        rw [hv] at h1
        rw [hb.cell (p := ⟨b0, off + j * 6 + i, none⟩) (World.block_lt_of_cell? W ⟨b0, off + j * 6 + i, none⟩ h1)]
        exact h1
      exact ⟨key 0 (by omega) _ rfl, key 1 (by omega) _ rfl, key 2 (by omega) _ rfl, key 3 (by omega) _ rfl, key 4 (by omega) _ rfl, key 5 (by omega) _ rfl⟩

theorem heapApart_walk (a0 : Int) (a1 : Option Addr) (len1 cap1 : Nat) (w : World) (hl : len1 ≤ maxLen) (w1 : ToldOps w a1 len1) :
    Calls Try.prog 3 #[.int .i64 a0, .slice a1 len1 cap1] w fun e w' => e = .returned (.bool true) ∧ Below w.heap.size w w' := by
  by_cases h1 : 300 < len1
  · exact apart_long a0 a1 len1 cap1 w h1 hl
  · by_cases h2 : a0 < 1 ∨ 1048576 < a0
    · exact apart_bad a0 a1 len1 cap1 w (by omega) h2
    · obtain ⟨n, rfl⟩ : ∃ n : Nat, a0 = n := ⟨a0.toNat, by omega⟩
      exact apart_ok n a1 len1 cap1 w (by omega) (by omega) (by omega) w1

set_option maxRecDepth 100000 in
theorem heapApart_lifted (os : Os) (started : os.Started) (H : Type) (enc : TypeId × Value → H) :
    ReturnsInHanded {} Try.checked os 3 .any (Rows.heapApartSpec.pre6 enc Try.prog Try.f3 Rows.heapApartRow.domain false) (Rows.heapApartSpec.post enc Try.prog Try.f3 false true false false) := by
  refine returnsInHanded_of_change (C := Try.checked) heapApart_own started (by kernel_rfl) Try.func3
    (ChangeSpec.witness6 (enc := enc) (C := Try.checked) false ⟨#[], #[.int .i64 0, .slice none 0 0], []⟩ 8 (by kernel_rfl) (by kernel_rfl) (by kernel_rfl) (by kernel_rfl)) ?_
  intro W base args ds gs before hval0 hW hcnd _
  have hval : ∀ (j : Nat) t v, Try.f3.params[j]? = some t → args[j]? = some v → Value.okWide Try.prog W .any base t v := hval0
  have hW' := hW
  obtain ⟨p, q, hA0, hV, rfl, hfz, hnd⟩ := hW
  have hA : DataW.TrodAll enc Try.prog W 0 (fun _ => true) true Try.f3.params.toList args.toList ds p := hA0
  rw [Try.params3] at hA hval
  obtain ⟨v0, vs0, d0, ds0, p0, q0, hargs, rfl, rfl, h0, r0⟩ := trodAll_cons hA
  obtain ⟨v1, vs1, d1, ds1, p1, q1, rfl, rfl, rfl, h1, r1⟩ := trodAll_cons r0
  obtain ⟨rfl, rfl, rfl⟩ := trodAll_nil r1
  obtain rfl : args = #[v0, v1] := by cases args; simp_all
  obtain ⟨rfl, rfl⟩ := trodVars_none hV
  obtain ⟨a0, rfl, rfl, rfl, w0⟩ := open_int Try.underlying3 (hval 0 3 v0 rfl rfl) h0
  obtain ⟨a1, len1, cap1, rfl⟩ := okWide_slice Try.underlying22 (hval 1 22 v1 rfl rfl)
  have k1 := h1
  have lt1 : ∀ x ∈ p1, x.block < W.heap.size := by obtain ⟨m, hm⟩ := k1; exact DataW.trod_lt m _ _ _ hm
  obtain ⟨hl1, w1⟩ : len1 ≤ maxLen ∧ ToldOps W a1 len1 := by
    obtain ⟨fuel, hf⟩ := h1
    exact ops_told (by simpa [Value.cells] using hf)
  clear hA0 hval0
  refine (heapApart_walk a0 a1 len1 cap1 W hl1 w1).mono fun e W' ⟨he, bel⟩ => ?_
  subst he
  exact ⟨_, rfl, _, _, _, [], _, [], hW', trodAll_mk1 (shut_bool Try.underlying4 _), (trodAll_cons_mk (shut_int Try.underlying3 w0) (trodAll_cons_mk (Below.trod heapApart_laidOut (by kernel_rfl) (of_decide_eq_true (by kernel_rfl)) k1 bel lt1) trodAll_mk0)), rfl, bel.frame _, fun h => by cases h⟩

theorem heapApart_over : Rows.heapApartRow.holds Try.pinned (OpenSpec.ofChange Rows.heapApartSpec) :=
  OpenClaim.holds_of_wide 3 Try.f3 rfl rfl rfl rfl rfl rfl rfl ⟨rfl, rfl, rfl, rfl, rfl⟩ rfl rfl rfl rfl rfl (by kernel_rfl) Try.func3 (by kernel_rfl)
    (of_decide_eq_true (by kernel_rfl)) (by unfold Func.isWrapper; first | (rw [if_pos (by decide +kernel)]; kernel_rfl) | (rw [if_neg (by decide +kernel)]; exact ⟨rfl, rfl⟩))
    (fun os started H enc _ => heapApart_lifted os started H enc)

/-- The statement. -/
theorem heapApart_proved : Rows.HeapApartSaid := heapApart_over

end Go.Proofs.Ytkegkpaepkolhaa
