/-
  For every int and every slice of ops, the law gearboxlaw01.HeapPlays returns true and its arguments read behind the call as they read before; the card ties the three library tables that its row lists to the text of the program.
  Conditions: none besides the given row's own (each slice that is read takes at most 2^47 - 4096 bytes; the three listed tables start as they are laid).
-/
import Derived.Test.YtkegkpaepkolhaaGreatDoorPlay
import Derived.Test.YtkegkpaepkolhaaGreatDoorCards
import Derived.Test.YtkegkpaepkolhaaGreatDoorTie
import Derived.WalkKit
import Derived.ProofKit
import Derived.OpenShut
import Derived.ShutString
import Derived.ChangeOld
import Derived.Below
import Derived.Deep.Slices
import Derived.Deep.DeepHandedRow
import Derived.Lib.LaidTab
namespace Go.Proofs.YtkegkpaepkolhaaGreatDoor
open Go.ChangeShapes Go.WideShapes Go.ChangeAt Go.RowKit
set_option linter.unusedVariables false

theorem heapPlays_own : ownKnob Tryz.prog.godebug = none := by kernel_rfl
theorem heapPlays_laidOut : laidOutB Tryz.prog = true := by kernel_rfl
theorem cells58 : Tryz.prog.cellsOf 58 = 6 := by kernel_rfl

theorem nat_u8 {n : Int} (h : (Lit.int .u8 n).wf = true) : ∃ m : Nat, n = m ∧ m < 256 := by
  simp only [Lit.wf, IntKind.min, IntKind.max, IntKind.signed, IntKind.bits, Bool.and_eq_true] at h
  simp at h
  exact ⟨n.toNat, by omega, by omega⟩

theorem nat_u64 {n : Int} (h : (Lit.int .u64 n).wf = true) : ∃ m : Nat, n = m ∧ m < 18446744073709551616 := by
  simp only [Lit.wf, IntKind.min, IntKind.max, IntKind.signed, IntKind.bits, Bool.and_eq_true] at h
  simp at h
  exact ⟨n.toNat, by omega, by omega⟩
theorem i64_wf {n : Int} (h : (Lit.int .i64 n).wf = true) : -9223372036854775808 ≤ n ∧ n ≤ 9223372036854775807 := by
  simp only [Lit.wf, IntKind.min, IntKind.max, IntKind.signed, IntKind.bits, Bool.and_eq_true] at h
  simp at h
  exact ⟨by omega, by omega⟩

set_option maxRecDepth 20000 in
theorem ops_told {H : Type} {enc : TypeId × Value → H} {W : World} {fuel : Nat} {p : Option Addr} {len cap : Nat} {x : DataW H × List MemPlace}
    (h : DataW.trod enc Tryz.prog W 0 (fun _ => true) true fuel 22 [.slice p len cap] = some x) : len ≤ maxLen ∧ ToldOps W p len := by
  rcases Go.Deep.open_slice Tryz.underlying22 h with ⟨hcs, _⟩ | ⟨a, l, c, m, n, D, Pl, hcs, _, hl, hm, hmm, _, hall⟩
  · simp at hcs
    obtain ⟨rfl, rfl, rfl⟩ := hcs
    exact ⟨by unfold maxLen; omega, fun j hj => by omega⟩
  · simp at hcs
    obtain ⟨rfl, rfl, rfl⟩ := hcs
    simp at hmm
    subst hmm
    refine ⟨Nat.le_trans hl hm, fun j hj => ?_⟩
    obtain ⟨cs, hc, ht⟩ := hall j (by omega)
    rw [cells58] at hc
    obtain ⟨xs, n', _, _, hl6, hx6, hf⟩ := DataW.trod_struct Tryz.underlying58 ht
    rw [cells58] at hl6
    obtain ⟨_, hcl, hcc⟩ := World.cells?_some hc
    obtain ⟨b0, off, spot⟩ := a
    have hspot : spot = none := by
      obtain ⟨cs0, hc0, _⟩ := hall 0 (by omega)
      rw [cells58] at hc0
      obtain ⟨_, hcl0, hcc0⟩ := World.cells?_some hc0
      have h0 := hcc0 0 (by omega)
      rw [List.getElem?_eq_getElem (by omega)] at h0
      simpa [Addr.add] using World.cell?_spot h0
    subst hspot
    match cs, hl6, xs, hx6 with
    | [c0, c1, c2, c3, c4, c5], _, [y0, y1, y2, y3, y4, y5], _ =>
      obtain ⟨x0, h0, _, w0⟩ := DataW.trod_int Tryz.underlying5 (hf 0 _ rfl)
      obtain ⟨x1, h1, _, w1⟩ := DataW.trod_int Tryz.underlying55 (hf 1 _ rfl)
      obtain ⟨x2, h2, _, w2⟩ := DataW.trod_int Tryz.underlying3 (hf 2 _ rfl)
      obtain ⟨x3, h3, _, w3⟩ := DataW.trod_int Tryz.underlying2 (hf 3 _ rfl)
      obtain ⟨x4, h4, _, w4⟩ := DataW.trod_int Tryz.underlying2 (hf 4 _ rfl)
      obtain ⟨x5, h5, _, w5⟩ := DataW.trod_int Tryz.underlying56 (hf 5 _ rfl)
      have k5 : Tryz.prog.cellsOf 5 = 1 := by kernel_rfl
      have k55 : Tryz.prog.cellsOf 55 = 1 := by kernel_rfl
      have k3 : Tryz.prog.cellsOf 3 = 1 := by kernel_rfl
      have k2 : Tryz.prog.cellsOf 2 = 1 := by kernel_rfl
      have k56 : Tryz.prog.cellsOf 56 = 1 := by kernel_rfl
      simp [k5, k55, k3, k2, k56] at h0 h1 h2 h3 h4 h5
      subst h0 h1 h2 h3 h4 h5
      obtain ⟨m0, rfl, b0'⟩ := nat_u8 w0
      obtain ⟨m1, rfl, b1'⟩ := nat_u8 w1
      obtain ⟨m5, rfl, b5'⟩ := nat_u64 w5
      refine ⟨b0, off, rfl, ⟨m0, m1, x2, x3, x4, m5⟩, b0', b1', b5', i64_wf w2, fun w' hb => ?_⟩
      have key : ∀ i (hi : i < 6) v, [Value.int .u8 m0, .int .u8 m1, .int .i64 x2, .int .i64 x3, .int .i64 x4, .int .u64 m5][i]? = some v → w'.cell? ⟨b0, off + j * 6 + i, none⟩ = some v := by
        intro i hi v hv
        have h1 := hcc i hi
        rw [Addr.add_lit, Addr.add_lit] at h1
        rw [hv] at h1
        rw [hb.cell (p := ⟨b0, off + j * 6 + i, none⟩) (World.block_lt_of_cell? W ⟨b0, off + j * 6 + i, none⟩ h1)]
        exact h1
      exact ⟨key 0 (by omega) _ rfl, key 1 (by omega) _ rfl, key 2 (by omega) _ rfl, key 3 (by omega) _ rfl, key 4 (by omega) _ rfl, key 5 (by omega) _ rfl⟩

set_option maxRecDepth 20000 in
set_option maxHeartbeats 1000000 in
theorem play_long (words : Int) (p : Option Addr) (len cap : Nat) (w : World) (hl : 500 < len) :
    Calls Tryz.prog 3 #[.int .i64 words, .slice p len cap] w fun e w' => e = .returned (.bool true) ∧ Below w.heap.size w w' := by
  have hl' : (500 : Int) < (len : Int) := by omega
  go_enter Tryz.func3, Tryz.ntmps3
  go_wp2
  go_ret
  exact ⟨rfl, Below.refl _ _⟩

theorem heapPlays_walk (a0 : Int) (a1 : Option Addr) (len1 cap1 : Nat) (w : World) (w1 : ToldOps w a1 len1) :
    Calls Tryz.prog 3 #[.int .i64 a0, .slice a1 len1 cap1] w fun e w' => e = .returned (.bool true) ∧ Below w.heap.size w w' := by
  by_cases h1 : 500 < len1
  · exact play_long a0 a1 len1 cap1 w h1
  · exact play_ok a0 a1 len1 cap1 w (by omega) w1

/-- The cells of a table that is laid. -/
def litCells (d : DataW Unit) : Array Value :=
  match d with
  | .agg ps => (ps.map fun p => match p with
    | .lit (.int k n) => Value.int k n
    | _ => .bool false).toArray
  | _ => #[]
def layRow (cs : Array Value) (o : Obj) : Obj :=
  match o with
  | .cells _ t frozen => .cells cs t frozen
  | o => o
/-- A world, its three tables laid. -/
def laidOn (w : World) : World :=
  { w with heap := ((w.heap.modify 0 (layRow (litCells Rows.laid_internal_strconv_uint64pow10))).modify 1 (layRow (litCells Rows.laid_math_bits_deBruijn32tab))).modify 2 (layRow (litCells Rows.laid_math_bits_deBruijn64tab)) }

theorem laid_met (os : Os) : laidMet Tryz.prog Rows.heapPlaysRow.laid ((laidOn (World.holding Tryz.prog os ⟨#[], #[], []⟩)).forCall (fun _ _ => 0) ⟨#[], #[.int .i64 0, .slice none 0 0], []⟩).memory :=
  laidMet_of_run' 8 (by kernel_rfl) (by kernel_rfl)
theorem laid_reads (os : Os) {H : Type} (enc : TypeId × Value → H) : ∃ places, DataW.whole enc Tryz.prog ((laidOn (World.holding Tryz.prog os ⟨#[], #[], []⟩)).forCall (fun _ _ => 0) ⟨#[], #[.int .i64 0, .slice none 0 0], []⟩).memory Tryz.f3.params.toList Rows.heapPlaysSpec.vars false #[Value.int .i64 0, .slice none 0 0].toList 8 = some ([.lit (.int .i64 0), .nil], [], places) :=
  ⟨[], by kernel_rfl⟩

set_option maxRecDepth 100000 in
theorem heapPlays_contract (H : Type) (enc : TypeId × Value → H) (W : World) (base : Nat) (args : Array Value) (ds gs : List (DataW H)) (before : List MemPlace)
    (hval0 : ∀ (j : Nat) t v, Tryz.f3.params[j]? = some t → args[j]? = some v → Value.okWide Tryz.prog W .any base t v)
    (hW : DataW.Whole enc Tryz.prog Tryz.f3.params.toList Rows.heapPlaysSpec.vars false W args.toList ds gs before) :
    Calls Tryz.prog 3 args W fun e W' => ∃ v, e = .returned v ∧ Rows.heapPlaysSpec.post enc Tryz.prog Tryz.f3 false true false false W args v W' := by
  have hval : ∀ (j : Nat) t v, Tryz.f3.params[j]? = some t → args[j]? = some v → Value.okWide Tryz.prog W .any base t v := hval0
  have hW' := hW
  obtain ⟨p, q, hA0, hV, rfl, hfz, hnd⟩ := hW
  have hA : DataW.TrodAll enc Tryz.prog W 0 (fun _ => true) true Tryz.f3.params.toList args.toList ds p := hA0
  rw [Tryz.params3] at hA hval
  obtain ⟨v0, vs0, d0, ds0, p0, q0, hargs, rfl, rfl, h0, r0⟩ := trodAll_cons hA
  obtain ⟨v1, vs1, d1, ds1, p1, q1, rfl, rfl, rfl, h1, r1⟩ := trodAll_cons r0
  obtain ⟨rfl, rfl, rfl⟩ := trodAll_nil r1
  obtain rfl : args = #[v0, v1] := by cases args; simp_all
  obtain ⟨rfl, rfl⟩ := trodVars_none hV
  obtain ⟨a0, rfl, rfl, rfl, w0⟩ := open_int Tryz.underlying3 (hval 0 3 v0 rfl rfl) h0
  obtain ⟨a1, len1, cap1, rfl⟩ := okWide_slice Tryz.underlying22 (hval 1 22 v1 rfl rfl)
  have k1 := h1
  have lt1 : ∀ x ∈ p1, x.block < W.heap.size := by obtain ⟨m, hm⟩ := k1; exact DataW.trod_lt m _ _ _ hm
  obtain ⟨_, w1⟩ : len1 ≤ maxLen ∧ ToldOps W a1 len1 := by
    obtain ⟨fuel, hf⟩ := h1
    exact ops_told (by simpa [Value.cells] using hf)
  clear hA0 hval0
  refine (heapPlays_walk a0 a1 len1 cap1 W w1).mono fun e W' ⟨he, bel⟩ => ?_
  subst he
  exact ⟨_, rfl, _, _, _, [], _, [], hW', trodAll_mk1 (shut_bool Tryz.underlying4 _), (trodAll_cons_mk (shut_int Tryz.underlying3 w0) (trodAll_cons_mk (Below.trod heapPlays_laidOut (by kernel_rfl) (of_decide_eq_true (by kernel_rfl)) k1 bel lt1) trodAll_mk0)), rfl, bel.frame _, fun h => by cases h⟩

set_option maxRecDepth 100000 in
theorem heapPlays_lifted (os : Os) (started : os.Started) (H : Type) (enc : TypeId × Value → H) (F : Stop.Interp) :
    ReturnsInHanded {} Tryz.checked os 3 .any ((OpenSpec.ofChange Rows.heapPlaysSpec).preRow enc Tryz.prog Tryz.f3 Rows.heapPlaysRow.domain false Rows.heapPlaysRow.laid) (((OpenSpec.ofChange Rows.heapPlaysSpec).at F).post enc Tryz.prog Tryz.f3 false true false false) := by
  obtain ⟨places, hx⟩ := laid_reads os enc
  refine returnsInHanded_of_row (C := Tryz.checked) (s := OpenSpec.ofChange Rows.heapPlaysSpec) heapPlays_own started (by kernel_rfl) Tryz.func3
    (witness_row_at (enc := enc) (C := Tryz.checked) false (laidOn (World.holding Tryz.prog os ⟨#[], #[], []⟩)) #[.int .i64 0, .slice none 0 0] rfl (by kernel_rfl) (by kernel_rfl) (by kernel_rfl)
      (OpenSpec.preRow_of_cond 8 hx (by kernel_rfl) (fun k hk => by cases hk) (by kernel_rfl) (laid_met os))) ?_
  intro W base args ds gs before hval hW _ _ _ _ _ _
  exact heapPlays_contract H enc W base args ds gs before hval hW

theorem heapPlays_said : Rows.HeapPlaysSaid :=
  OpenClaim.holds_of_cond 3 Tryz.f3 rfl rfl rfl rfl rfl rfl rfl ⟨rfl, rfl, rfl, rfl, rfl⟩ rfl rfl rfl rfl rfl (by kernel_rfl) Tryz.func3 (by kernel_rfl)
    (of_decide_eq_true (by kernel_rfl)) (by unfold Func.isWrapper; first | (rw [if_pos (by decide +kernel)]; kernel_rfl) | (rw [if_neg (by decide +kernel)]; exact ⟨rfl, rfl⟩))
    (fun os started H enc _ F => by rw [OpenClaim.pre_eq_preRow]; exact heapPlays_lifted os started H enc F)

/-- No parameter wants a stand-in. -/
theorem heapPlays_plain (f : FuncId) (fn : Func) (hf : Tryz.pinned.checked.prog.funcNamed "gearbox/gearboxlaw01.HeapPlays" = some f) (hfn : Tryz.pinned.checked.prog.funcs[f]? = some fn) :
    false = Tryz.pinned.checked.prog.looks [] ∧ ∀ (j : Nat) t, fn.params[j]? = some t → Tryz.pinned.checked.prog.wantsStandIn t = false := by
  obtain rfl : f = 3 := Option.some.inj ((show Tryz.prog.funcNamed "gearbox/gearboxlaw01.HeapPlays" = some 3 by kernel_rfl).symm.trans hf) |>.symm
  obtain rfl : fn = Tryz.f3 := (Option.some.inj (Tryz.func3.symm.trans hfn)).symm
  refine ⟨by kernel_rfl, fun j t ht => ?_⟩
  rw [Tryz.params3] at ht
  have ht' : t = 3 ∨ t = 22 := by simpa using Array.mem_of_getElem? ht
  rcases ht' with rfl | rfl
  · exact (show Tryz.prog.wantsStandIn 3 = false by kernel_rfl)
  · exact (show Tryz.prog.wantsStandIn 22 = false by kernel_rfl)

/-- The statement. -/
theorem heapPlays_proved : Rows.HeapPlaysCardSaid :=
  Claim7.holds_tied_plain_at .later [] _ _ _ _ heapPlays_said (fun _ h => by cases h) (by kernel_rfl) (fun _ h => by cases h) heapPlays_row_tie rfl ⟨rfl, rfl⟩ (by kernel_rfl) rfl heapPlays_plain (by kernel_rfl)

end Go.Proofs.YtkegkpaepkolhaaGreatDoor
