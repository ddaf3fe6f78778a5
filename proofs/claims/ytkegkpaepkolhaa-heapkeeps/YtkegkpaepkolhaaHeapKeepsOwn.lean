/-
  For every slice of bytes, every slice of bools and every uint64, the law gearboxlaw01.HeapKeeps returns true and its arguments read behind the call as they read before.
  Conditions: none besides the given row's own (each slice that is read takes at most 2^47 - 4096 bytes).
-/
import Derived.Test.YtkegkpaepkolhaaKeeps
import Derived.WalkKit
import Derived.ProofKit
import Derived.OpenShut
import Derived.ShutString
import Derived.ChangeOld
import Derived.Below
import Derived.Deep.Slices
namespace Go.Proofs.Ytkegkpaepkolhaa
open Go.ChangeShapes Go.WideShapes Go.ChangeAt Go.RowKit
open Go.ChangeMaps (open_string shut_string)
set_option linter.unusedVariables false

theorem heapKeeps_own : ownKnob Try.prog.godebug = none := by kernel_rfl
theorem heapKeeps_laidOut : laidOutB Try.prog = true := by kernel_rfl

theorem heapKeeps_u8 (n : Int) (h : (Lit.int .u8 n).wf = true) : 0 ≤ n ∧ n < 256 := by
  simp only [Lit.wf, IntKind.min, IntKind.max, IntKind.signed, IntKind.bits, Bool.and_eq_true] at h
  simp at h
  omega
theorem heapKeeps_u64 (n : Int) (h : (Lit.int .u64 n).wf = true) : 0 ≤ n ∧ n < 18446744073709551616 := by
  simp only [Lit.wf, IntKind.min, IntKind.max, IntKind.signed, IntKind.bits, Bool.and_eq_true] at h
  simp at h
  omega

theorem bytes_told {H : Type} {enc : TypeId × Value → H} {W : World} {fuel : Nat} {p : Option Addr} {len cap : Nat} {x : DataW H × List MemPlace}
    (h : DataW.trod enc Try.prog W 0 (fun _ => true) true fuel 42 [.slice p len cap] = some x) : len ≤ maxLen ∧ ∃ s, ToldS .u8 256 W p len s := by
  rcases open_ints Try.underlying42 Try.underlying5 (by kernel_rfl) h with ⟨hcs, _⟩ | ⟨a, l, c, zs, hcs, _, hl, hm, hz, _, hcell, hwz⟩
  · simp at hcs
    obtain ⟨rfl, rfl, rfl⟩ := hcs
    exact ⟨by unfold maxLen; omega, fun _ => 0, fun j hj => by omega⟩
  · simp at hcs
    obtain ⟨rfl, rfl, rfl⟩ := hcs
    simp at hz
    refine ⟨Nat.le_trans hl hm, fun j => (zs.getD j 0).toNat, fun j hj => ?_⟩
    obtain ⟨b0, off, spot⟩ := a
    have hspot : spot = none := by simpa [Addr.add] using World.cell?_spot (hcell 0 (by omega))
    subst hspot
    have hjc := hcell j (by omega)
    rw [Addr.add_lit] at hjc
    have hj2 : j < zs.length := by omega
    have hw := heapKeeps_u8 _ (hwz _ (List.getElem_mem hj2))
    have e : zs.getD j 0 = zs[j] := by rw [List.getD_eq_getElem?_getD, List.getElem?_eq_getElem hj2]; rfl
    refine ⟨by show (zs.getD j 0).toNat < 256; rw [e]; omega, b0, off, rfl, fun w' hb => ?_⟩
    have e2 : (((zs.getD j 0).toNat : Nat) : Int) = zs.getD j 0 := by rw [e]; omega
    show w'.cell? ⟨b0, off + j, none⟩ = some (.int .u8 (((zs.getD j 0).toNat : Nat) : Int))
    rw [hb.cell (p := ⟨b0, off + j, none⟩) (World.block_lt_of_cell? W ⟨b0, off + j, none⟩ hjc), hjc, e2]

theorem bools_told {H : Type} {enc : TypeId × Value → H} {W : World} {fuel : Nat} {p : Option Addr} {len cap : Nat} {x : DataW H × List MemPlace}
    (h : DataW.trod enc Try.prog W 0 (fun _ => true) true fuel 43 [.slice p len cap] = some x) : len ≤ maxLen ∧ ∃ g, ToldB W p len g := by
  have cells4 : Try.prog.cellsOf 4 = 1 := by kernel_rfl
  rcases Go.Deep.open_slice Try.underlying43 h with ⟨hcs, _⟩ | ⟨a, l, c, m, n, D, Pl, hcs, _, hl, hm, hmm, _, hall⟩
  · simp at hcs
    obtain ⟨rfl, rfl, rfl⟩ := hcs
    exact ⟨by unfold maxLen; omega, fun _ => false, fun j hj => by omega⟩
  · simp at hcs
    obtain ⟨rfl, rfl, rfl⟩ := hcs
    simp at hmm
    subst hmm
    have key : ∀ j, j < len → ∃ y : Bool, W.cell? (a.add j) = some (.bool y) := by
      intro j hj
      obtain ⟨cs, hc, ht⟩ := hall j (by omega)
      rw [cells4] at hc
      obtain ⟨_, hcl, hcc⟩ := World.cells?_some hc
      obtain ⟨y, hy, _⟩ := DataW.trod_bool Try.underlying4 ht
      have h0 := hcc 0 (by omega)
      rw [hy] at h0
      refine ⟨y, ?_⟩
      simpa [Addr.add] using h0
    refine ⟨Nat.le_trans hl hm, fun j => match W.cell? (a.add j) with | some (.bool y) => y | _ => false, fun j hj => ?_⟩
    obtain ⟨y, hy⟩ := key j hj
    obtain ⟨y0, hy0⟩ := key 0 (by omega)
    obtain ⟨b0, off, spot⟩ := a
    have hspot : spot = none := by simpa [Addr.add] using World.cell?_spot hy0
    subst hspot
    refine ⟨b0, off, rfl, fun w' hb => ?_⟩
    dsimp only
    rw [hy]
    rw [Addr.add_lit] at hy
    rw [hb.cell (p := ⟨b0, off + j, none⟩) (World.block_lt_of_cell? W ⟨b0, off + j, none⟩ hy), hy]

theorem heapKeeps_walk (a0 : Option Addr) (len0 cap0 : Nat) (a1 : Option Addr) (len1 cap1 : Nat) (a2 : Int) (w : World) (s : Nat → Nat) (g : Nat → Bool) (hl0 : len0 ≤ maxLen) (hl1 : len1 ≤ maxLen) (h0 : ToldS .u8 256 w a0 len0 s) (h1 : ToldB w a1 len1 g) (h2 : (Lit.int .u64 a2).wf = true) :
    Calls Try.prog 4 #[.slice a0 len0 cap0, .slice a1 len1 cap1, .int .u64 a2] w fun e w' => e = .returned (.bool true) ∧ Below w.heap.size w w' := by
  have hb := heapKeeps_u64 a2 h2
  obtain ⟨n, rfl⟩ : ∃ n : Nat, a2 = n := ⟨a2.toNat, by omega⟩
  by_cases h3 : 200 < len0
  · exact keeps_long a0 len0 cap0 a1 len1 cap1 n w h3 hl0
  · exact keeps_ok a0 len0 cap0 a1 len1 cap1 n s g w (by omega) (by omega) h0 h1 hl1

set_option maxRecDepth 100000 in
theorem heapKeeps_lifted (os : Os) (started : os.Started) (H : Type) (enc : TypeId × Value → H) :
    ReturnsInHanded {} Try.checked os 4 .any (Rows.heapKeepsSpec.pre6 enc Try.prog Try.f4 Rows.heapKeepsRow.domain false) (Rows.heapKeepsSpec.post enc Try.prog Try.f4 false true false false) := by
  refine returnsInHanded_of_change (C := Try.checked) heapKeeps_own started (by kernel_rfl) Try.func4
    (ChangeSpec.witness6 (enc := enc) (C := Try.checked) false ⟨#[], #[.slice none 0 0, .slice none 0 0, .int .u64 0], []⟩ 8 (by kernel_rfl) (by kernel_rfl) (by kernel_rfl) (by kernel_rfl)) ?_
  intro W base args ds gs before hval0 hW hcnd _
  have hval : ∀ (j : Nat) t v, Try.f4.params[j]? = some t → args[j]? = some v → Value.okWide Try.prog W .any base t v := hval0
  have hW' := hW
  obtain ⟨p, q, hA0, hV, rfl, hfz, hnd⟩ := hW
  have hA : DataW.TrodAll enc Try.prog W 0 (fun _ => true) true Try.f4.params.toList args.toList ds p := hA0
  rw [Try.params4] at hA hval
  obtain ⟨v0, vs0, d0, ds0, p0, q0, hargs, rfl, rfl, h0, r0⟩ := trodAll_cons hA
  obtain ⟨v1, vs1, d1, ds1, p1, q1, rfl, rfl, rfl, h1, r1⟩ := trodAll_cons r0
  obtain ⟨v2, vs2, d2, ds2, p2, q2, rfl, rfl, rfl, h2, r2⟩ := trodAll_cons r1
  obtain ⟨rfl, rfl, rfl⟩ := trodAll_nil r2
  obtain rfl : args = #[v0, v1, v2] := by cases args; simp_all
  obtain ⟨rfl, rfl⟩ := trodVars_none hV
  obtain ⟨a0, len0, cap0, rfl⟩ := okWide_slice Try.underlying42 (hval 0 42 v0 rfl rfl)
  obtain ⟨a1, len1, cap1, rfl⟩ := okWide_slice Try.underlying43 (hval 1 43 v1 rfl rfl)
  obtain ⟨a2, rfl, rfl, rfl, w2⟩ := open_int Try.underlying29 (hval 2 29 v2 rfl rfl) h2
  have k0 := h0
  have lt0 : ∀ x ∈ p0, x.block < W.heap.size := by obtain ⟨m, hm⟩ := k0; exact DataW.trod_lt m _ _ _ hm
  have k1 := h1
  have lt1 : ∀ x ∈ p1, x.block < W.heap.size := by obtain ⟨m, hm⟩ := k1; exact DataW.trod_lt m _ _ _ hm
  obtain ⟨hl0, s, w0⟩ : len0 ≤ maxLen ∧ ∃ s, ToldS .u8 256 W a0 len0 s := by
    obtain ⟨fuel, hf⟩ := h0
    exact bytes_told (by simpa [Value.cells] using hf)
  obtain ⟨hl1, g, w1⟩ : len1 ≤ maxLen ∧ ∃ g, ToldB W a1 len1 g := by
    obtain ⟨fuel, hf⟩ := h1
    exact bools_told (by simpa [Value.cells] using hf)
  clear hA0 hval0
  refine (heapKeeps_walk a0 len0 cap0 a1 len1 cap1 a2 W s g hl0 hl1 w0 w1 w2).mono fun e W' ⟨he, bel⟩ => ?_
  subst he
  exact ⟨_, rfl, _, _, _, [], _, [], hW', trodAll_mk1 (shut_bool Try.underlying4 _), (trodAll_cons_mk (Below.trod heapKeeps_laidOut (by kernel_rfl) (of_decide_eq_true (by kernel_rfl)) k0 bel lt0) (trodAll_cons_mk (Below.trod heapKeeps_laidOut (by kernel_rfl) (of_decide_eq_true (by kernel_rfl)) k1 bel lt1) (trodAll_cons_mk (shut_int Try.underlying29 w2) trodAll_mk0))), rfl, bel.frame _, fun h => by cases h⟩

theorem heapKeeps_over : Rows.heapKeepsRow.holds Try.pinned (OpenSpec.ofChange Rows.heapKeepsSpec) :=
  OpenClaim.holds_of_wide 4 Try.f4 rfl rfl rfl rfl rfl rfl rfl ⟨rfl, rfl, rfl, rfl, rfl⟩ rfl rfl rfl rfl rfl (by kernel_rfl) Try.func4 (by kernel_rfl)
    (of_decide_eq_true (by kernel_rfl)) (by unfold Func.isWrapper; first | (rw [if_pos (by decide +kernel)]; kernel_rfl) | (rw [if_neg (by decide +kernel)]; exact ⟨rfl, rfl⟩))
    (fun os started H enc _ => heapKeeps_lifted os started H enc)

/-- The statement. -/
theorem heapKeeps_proved : Rows.HeapKeepsSaid := heapKeeps_over

end Go.Proofs.Ytkegkpaepkolhaa
