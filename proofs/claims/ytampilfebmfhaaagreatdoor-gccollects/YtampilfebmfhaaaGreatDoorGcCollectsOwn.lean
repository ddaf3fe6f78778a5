/-
  For every int, every slice of ops and every slice of values, the law gearboxlaw02.GcCollects returns true and its arguments read behind the call as they read before; the card ties the three library tables that its row lists to the text of the program.
  Conditions: none besides the given row's own (each slice that is read takes at most 2^47 - 4096 bytes; the three listed tables start as they are laid).
-/
import Derived.Test.YtampilfebmfhaaaGreatDoorRcLaw
import Derived.Test.YtampilfebmfhaaaGreatDoorCards
import Derived.Test.YtampilfebmfhaaaGreatDoorTie
import Derived.WalkKit
import Derived.ProofKit
import Derived.OpenShut
import Derived.ShutString
import Derived.ChangeOld
import Derived.Below
import Derived.Deep.Slices
import Derived.Deep.DeepHandedRow
import Derived.Lib.LaidTab
namespace Go.Proofs.YtampilfebmfhaaaGreatDoor
set_option linter.unusedVariables false
set_option linter.unusedSimpArgs false
open Go.ChangeShapes Go.WideShapes Go.ChangeAt Go.RowKit
set_option linter.unusedVariables false

theorem gcCollects_own : ownKnob Tryz.prog.godebug = none := by kernel_rfl

theorem gcCollects_laidOut : laidOutB Tryz.prog = true := by kernel_rfl

theorem cells58 : Tryz.prog.cellsOf 73 = 6 := by kernel_rfl

theorem nat_u8 {n : Int} (h : (Lit.int .u8 n).wf = true) : ∃ m : Nat, n = m ∧ m < 256 := by
  simp only [Lit.wf, IntKind.min, IntKind.max, IntKind.signed, IntKind.bits, Bool.and_eq_true] at h
  simp at h
  exact ⟨n.toNat, by omega, by omega⟩

theorem nat_u64 {n : Int} (h : (Lit.int .u64 n).wf = true) : ∃ m : Nat, n = m ∧ m < 18446744073709551616 := by
  simp only [Lit.wf, IntKind.min, IntKind.max, IntKind.signed, IntKind.bits, Bool.and_eq_true] at h
  simp at h
  exact ⟨n.toNat, by omega, by omega⟩

theorem i64_wf {n : Int} (h : (Lit.int .i64 n).wf = true) : -9223372036854775808 ≤ n ∧ n ≤ 9223372036854775807 := by
  simp only [Lit.wf, IntKind.min, IntKind.max, IntKind.signed, IntKind.bits, Bool.and_eq_true] at h
  simp at h
  exact ⟨by omega, by omega⟩

set_option maxRecDepth 20000 in
theorem ops_told {H : Type} {enc : TypeId × Value → H} {W : World} {fuel : Nat} {p : Option Addr} {len cap : Nat} {x : DataW H × List MemPlace}
    (h : DataW.trod enc Tryz.prog W 0 (fun _ => true) true fuel 22 [.slice p len cap] = some x) : len ≤ maxLen ∧ ToldOps W p len := by
  rcases Go.Deep.open_slice Tryz.underlying22 h with ⟨hcs, _⟩ | ⟨a, l, c, m, n, D, Pl, hcs, _, hl, hm, hmm, _, hall⟩
  · simp at hcs
    obtain ⟨rfl, rfl, rfl⟩ := hcs
    exact ⟨by unfold maxLen; omega, fun j hj => by omega⟩
  · simp at hcs
    obtain ⟨rfl, rfl, rfl⟩ := hcs
    simp at hmm
    subst hmm
    refine ⟨Nat.le_trans hl hm, fun j hj => ?_⟩
    obtain ⟨cs, hc, ht⟩ := hall j (by omega)
    rw [cells58] at hc
    obtain ⟨xs, n', _, _, hl6, hx6, hf⟩ := DataW.trod_struct Tryz.underlying73 ht
    rw [cells58] at hl6
    obtain ⟨_, hcl, hcc⟩ := World.cells?_some hc
    obtain ⟨b0, off, spot⟩ := a
    have hspot : spot = none := by
      obtain ⟨cs0, hc0, _⟩ := hall 0 (by omega)
      rw [cells58] at hc0
      obtain ⟨_, hcl0, hcc0⟩ := World.cells?_some hc0
      have h0 := hcc0 0 (by omega)
      rw [List.getElem?_eq_getElem (by omega)] at h0
      simpa [Addr.add] using World.cell?_spot h0
    subst hspot
    match cs, hl6, xs, hx6 with
    | [c0, c1, c2, c3, c4, c5], _, [y0, y1, y2, y3, y4, y5], _ =>
      obtain ⟨x0, h0, _, w0⟩ := DataW.trod_int Tryz.underlying5 (hf 0 _ rfl)
      obtain ⟨x1, h1, _, w1⟩ := DataW.trod_int Tryz.underlying70 (hf 1 _ rfl)
      obtain ⟨x2, h2, _, w2⟩ := DataW.trod_int Tryz.underlying3 (hf 2 _ rfl)
      obtain ⟨x3, h3, _, w3⟩ := DataW.trod_int Tryz.underlying2 (hf 3 _ rfl)
      obtain ⟨x4, h4, _, w4⟩ := DataW.trod_int Tryz.underlying2 (hf 4 _ rfl)
      obtain ⟨x5, h5, _, w5⟩ := DataW.trod_int Tryz.underlying71 (hf 5 _ rfl)
      have k5 : Tryz.prog.cellsOf 5 = 1 := by kernel_rfl
      have k55 : Tryz.prog.cellsOf 70 = 1 := by kernel_rfl
      have k3 : Tryz.prog.cellsOf 3 = 1 := by kernel_rfl
      have k2 : Tryz.prog.cellsOf 2 = 1 := by kernel_rfl
      have k56 : Tryz.prog.cellsOf 71 = 1 := by kernel_rfl
      simp [k5, k55, k3, k2, k56] at h0 h1 h2 h3 h4 h5
      subst h0 h1 h2 h3 h4 h5
      obtain ⟨m0, rfl, b0'⟩ := nat_u8 w0
      obtain ⟨m1, rfl, b1'⟩ := nat_u8 w1
      obtain ⟨m5, rfl, b5'⟩ := nat_u64 w5
      refine ⟨b0, off, rfl, ⟨m0, m1, x2, x3, x4, m5⟩, b0', b1', b5', i64_wf w2, fun w' hb => ?_⟩
      have key : ∀ i (hi : i < 6) v, [Value.int .u8 m0, .int .u8 m1, .int .i64 x2, .int .i64 x3, .int .i64 x4, .int .u64 m5][i]? = some v → w'.cell? ⟨b0, off + j * 6 + i, none⟩ = some v := by
        intro i hi v hv
        have h1 := hcc i hi
        rw [Addr.add_lit, Addr.add_lit] at h1
        rw [hv] at h1
        rw [hb.cell (p := ⟨b0, off + j * 6 + i, none⟩) (World.block_lt_of_cell? W ⟨b0, off + j * 6 + i, none⟩ h1)]
        exact h1
      exact ⟨key 0 (by omega) _ rfl, key 1 (by omega) _ rfl, key 2 (by omega) _ rfl, key 3 (by omega) _ rfl, key 4 (by omega) _ rfl, key 5 (by omega) _ rfl⟩

theorem list_of {α : Type} {P : Nat → α → Prop} : ∀ (n : Nat), (∀ j, j < n → ∃ v, P j v) → ∃ l : List α, l.length = n ∧ ∀ (j : Nat) (v : α), l[j]? = some v → P j v
  | 0, _ => ⟨[], rfl, by simp⟩
  | n + 1, h => by
    obtain ⟨l, hl, hP⟩ := list_of n (fun j hj => h j (by omega))
    obtain ⟨v, hv⟩ := h n (by omega)
    refine ⟨l ++ [v], by simp [hl], ?_⟩
    intro j u hu
    by_cases hj : j < l.length
    · rw [List.getElem?_append_left hj] at hu; exact hP j u hu
    · rw [List.getElem?_append_right (by omega)] at hu
      have hj2 : j - l.length = 0 := by
        have := (List.getElem?_eq_some_iff.1 hu).1; simp at this; omega
      rw [hj2] at hu
      simp at hu
      subst hu
      rw [show j = n by omega]; exact hv

theorem cellsVal : Tryz.prog.cellsOf 76 = 2 := by kernel_rfl

set_option maxRecDepth 20000 in
theorem vals_told {H : Type} {enc : TypeId × Value → H} {W : World} {fuel : Nat} {p : Option Addr} {len cap : Nat} {x : DataW H × List MemPlace}
    (h : DataW.trod enc Tryz.prog W 0 (fun _ => true) true fuel 23 [.slice p len cap] = some x) : ∃ vs : List Vl, vs.length = len ∧ Vals W p vs ∧ ∀ v ∈ vs, v.k < 256 := by
  rcases Go.Deep.open_slice Tryz.underlying23 h with ⟨hcs, _⟩ | ⟨a, l, c, m, n, D, Pl, hcs, _, hl, hm, hmm, _, hall⟩
  · simp at hcs
    obtain ⟨rfl, rfl, rfl⟩ := hcs
    exact ⟨[], rfl, by intro j v hj; simp at hj, by simp⟩
  · simp at hcs
    obtain ⟨rfl, rfl, rfl⟩ := hcs
    simp at hmm
    subst hmm
    have key : ∀ j, j < len → ∃ v : Vl, v.k < 256 ∧ ∃ b0 off : Nat, some a = some ⟨b0, off, none⟩ ∧ W.cell? ⟨b0, off + j * 2, none⟩ = some (.int .u8 v.k) ∧ W.cell? ⟨b0, off + j * 2 + 1, none⟩ = some (.int .i64 v.n) := by
      intro j hj
      obtain ⟨cs, hc, ht⟩ := hall j (by omega)
      rw [cellsVal] at hc
      obtain ⟨xs, n', _, _, hl6, hx6, hf⟩ := DataW.trod_struct Tryz.underlying76 ht
      rw [cellsVal] at hl6
      obtain ⟨_, hcl, hcc⟩ := World.cells?_some hc
      obtain ⟨b0, off, spot⟩ := a
      have hspot : spot = none := by
        obtain ⟨cs0, hc0, _⟩ := hall 0 (by omega)
        rw [cellsVal] at hc0
        obtain ⟨_, hcl0, hcc0⟩ := World.cells?_some hc0
        have h0 := hcc0 0 (by omega)
        rw [List.getElem?_eq_getElem (by omega)] at h0
        simpa [Addr.add] using World.cell?_spot h0
      subst hspot
      match cs, hl6, xs, hx6 with
      | [c0, c1], _, [y0, y1], _ =>
        obtain ⟨x0, h0, _, w0⟩ := DataW.trod_int Tryz.underlying70 (hf 0 _ rfl)
        obtain ⟨x1, h1, _, w1⟩ := DataW.trod_int Tryz.underlying2 (hf 1 _ rfl)
        have k0 : Tryz.prog.cellsOf 70 = 1 := by kernel_rfl
        have k1 : Tryz.prog.cellsOf 2 = 1 := by kernel_rfl
        simp [k0, k1] at h0 h1
        subst h0 h1
        obtain ⟨m0, rfl, b0'⟩ := nat_u8 w0
        refine ⟨⟨m0, x1⟩, b0', b0, off, rfl, ?_, ?_⟩
        · have := hcc 0 (by omega)
          rw [Addr.add_lit, Addr.add_lit] at this
          simpa using this
        · have := hcc 1 (by omega)
          rw [Addr.add_lit, Addr.add_lit] at this
          simpa using this
    obtain ⟨vs, hvl, hvs⟩ := list_of (P := fun j (v : Vl) => v.k < 256 ∧ ∃ b0 off : Nat, some a = some ⟨b0, off, none⟩ ∧ W.cell? ⟨b0, off + j * 2, none⟩ = some (.int .u8 v.k) ∧ W.cell? ⟨b0, off + j * 2 + 1, none⟩ = some (.int .i64 v.n)) len key
    refine ⟨vs, hvl, fun j v hj => (hvs j v hj).2, ?_⟩
    intro v hv
    obtain ⟨j, hj⟩ := List.mem_iff_getElem?.1 hv
    exact (hvs j v hj).1

set_option maxRecDepth 20000 in
set_option maxHeartbeats 1000000 in
theorem collects_longW (words : Int) (v : Value) (q : Option Addr) (n c : Nat) (w : World) (hl : 1000 < n) :
    Calls Tryz.prog 4 #[.int .i64 words, v, .slice q n c] w fun e w' => e = .returned (.bool true) ∧ Below w.heap.size w w' := by
  have hl' : (1000 : Int) < (n : Int) := by omega
  go_enter Tryz.func4, Tryz.ntmps4
  go_wp2
  go_ret
  exact ⟨rfl, Below.refl _ _⟩

theorem gcCollects_walk (a0 : Int) (a1 : Option Addr) (len1 cap1 : Nat) (a2 : Option Addr) (vs : List Vl) (cap2 : Nat) (w : World) (hm : len1 ≤ maxLen) (w1 : ToldOps w a1 len1) (w2 : Vals w a2 vs) (w3 : ∀ v ∈ vs, v.k < 256) :
    Calls Tryz.prog 4 #[.int .i64 a0, .slice a1 len1 cap1, .slice a2 vs.length cap2] w fun e w' => e = .returned (.bool true) ∧ Below w.heap.size w w' := by
  by_cases h1 : 1000 < vs.length
  · exact collects_longW a0 _ a2 _ cap2 w h1
  · exact collects_ok a0 a1 len1 cap1 a2 vs cap2 w hm w1 w2 (by omega) w3

/-- The cells of a table that is laid. -/
def litCells (d : DataW Unit) : Array Value :=
  match d with
  | .agg ps => (ps.map fun p => match p with
    | .lit (.int k n) => Value.int k n
    | _ => .bool false).toArray
  | _ => #[]

def layRow (cs : Array Value) (o : Obj) : Obj :=
  match o with
  | .cells _ t frozen => .cells cs t frozen
  | o => o

/-- A world, its three tables laid. -/
def laidOn (w : World) : World :=
  { w with heap := ((w.heap.modify 0 (layRow (litCells Rows.laid_internal_strconv_uint64pow10))).modify 1 (layRow (litCells Rows.laid_math_bits_deBruijn32tab))).modify 2 (layRow (litCells Rows.laid_math_bits_deBruijn64tab)) }

theorem laid_met (os : Os) : laidMet Tryz.prog Rows.gcCollectsRow.laid ((laidOn (World.holding Tryz.prog os ⟨#[], #[], []⟩)).forCall (fun _ _ => 0) ⟨#[], #[.int .i64 0, .slice none 0 0, .slice none 0 0], []⟩).memory :=
  laidMet_of_run' 8 (by kernel_rfl) (by kernel_rfl)

theorem laid_reads (os : Os) {H : Type} (enc : TypeId × Value → H) : ∃ places, DataW.whole enc Tryz.prog ((laidOn (World.holding Tryz.prog os ⟨#[], #[], []⟩)).forCall (fun _ _ => 0) ⟨#[], #[.int .i64 0, .slice none 0 0, .slice none 0 0], []⟩).memory Tryz.f4.params.toList Rows.gcCollectsSpec.vars false #[Value.int .i64 0, .slice none 0 0, .slice none 0 0].toList 8 = some ([.lit (.int .i64 0), .nil, .nil], [], places) :=
  ⟨[], by kernel_rfl⟩

set_option maxRecDepth 100000 in
theorem gcCollects_contract (H : Type) (enc : TypeId × Value → H) (W : World) (base : Nat) (args : Array Value) (ds gs : List (DataW H)) (before : List MemPlace)
    (hval0 : ∀ (j : Nat) t v, Tryz.f4.params[j]? = some t → args[j]? = some v → Value.okWide Tryz.prog W .any base t v)
    (hW : DataW.Whole enc Tryz.prog Tryz.f4.params.toList Rows.gcCollectsSpec.vars false W args.toList ds gs before) :
    Calls Tryz.prog 4 args W fun e W' => ∃ v, e = .returned v ∧ Rows.gcCollectsSpec.post enc Tryz.prog Tryz.f4 false true false false W args v W' := by
  have hval : ∀ (j : Nat) t v, Tryz.f4.params[j]? = some t → args[j]? = some v → Value.okWide Tryz.prog W .any base t v := hval0
  have hW' := hW
  obtain ⟨p, q, hA0, hV, rfl, hfz, hnd⟩ := hW
  have hA : DataW.TrodAll enc Tryz.prog W 0 (fun _ => true) true Tryz.f4.params.toList args.toList ds p := hA0
  rw [Tryz.params4] at hA hval
  obtain ⟨v0, vs0, d0, ds0, p0, q0, hargs, rfl, rfl, h0, r0⟩ := trodAll_cons hA
  obtain ⟨v1, vs1, d1, ds1, p1, q1, rfl, rfl, rfl, h1, r1⟩ := trodAll_cons r0
  obtain ⟨v2, vs2, d2, ds2, p2, q2, rfl, rfl, rfl, h2, r2⟩ := trodAll_cons r1
  obtain ⟨rfl, rfl, rfl⟩ := trodAll_nil r2
  obtain rfl : args = #[v0, v1, v2] := by cases args; simp_all
  obtain ⟨rfl, rfl⟩ := trodVars_none hV
  obtain ⟨a0, rfl, rfl, rfl, w0⟩ := open_int Tryz.underlying3 (hval 0 3 v0 rfl rfl) h0
  obtain ⟨a1, len1, cap1, rfl⟩ := okWide_slice Tryz.underlying22 (hval 1 22 v1 rfl rfl)
  obtain ⟨a2, len2, cap2, rfl⟩ := okWide_slice Tryz.underlying23 (hval 2 23 v2 rfl rfl)
  have k1 := h1
  have k2 := h2
  have lt1 : ∀ x ∈ p1, x.block < W.heap.size := by obtain ⟨m, hm⟩ := k1; exact DataW.trod_lt m _ _ _ hm
  have lt2 : ∀ x ∈ p2, x.block < W.heap.size := by obtain ⟨m, hm⟩ := k2; exact DataW.trod_lt m _ _ _ hm
  obtain ⟨m1, w1⟩ : len1 ≤ maxLen ∧ ToldOps W a1 len1 := by
    obtain ⟨fuel, hf⟩ := h1
    exact ops_told (by simpa [Value.cells] using hf)
  obtain ⟨vs, hvl, w2, w3⟩ : ∃ vs : List Vl, vs.length = len2 ∧ Vals W a2 vs ∧ ∀ v ∈ vs, v.k < 256 := by
    obtain ⟨fuel, hf⟩ := h2
    exact vals_told (by simpa [Value.cells] using hf)
  subst hvl
  clear hA0 hval0
  refine (gcCollects_walk a0 a1 len1 cap1 a2 vs cap2 W m1 w1 w2 w3).mono fun e W' ⟨he, bel⟩ => ?_
  subst he
  exact ⟨_, rfl, _, _, _, [], _, [], hW', trodAll_mk1 (shut_bool Tryz.underlying4 _), (trodAll_cons_mk (shut_int Tryz.underlying3 w0) (trodAll_cons_mk (Below.trod gcCollects_laidOut (by kernel_rfl) (of_decide_eq_true (by kernel_rfl)) k1 bel lt1) (trodAll_cons_mk (Below.trod gcCollects_laidOut (by kernel_rfl) (of_decide_eq_true (by kernel_rfl)) k2 bel lt2) trodAll_mk0))), rfl, bel.frame _, fun h => by cases h⟩

set_option maxRecDepth 100000 in
theorem gcCollects_lifted (os : Os) (started : os.Started) (H : Type) (enc : TypeId × Value → H) (F : Stop.Interp) :
    ReturnsInHanded {} Tryz.checked os 4 .any ((OpenSpec.ofChange Rows.gcCollectsSpec).preRow enc Tryz.prog Tryz.f4 Rows.gcCollectsRow.domain false Rows.gcCollectsRow.laid) (((OpenSpec.ofChange Rows.gcCollectsSpec).at F).post enc Tryz.prog Tryz.f4 false true false false) := by
  obtain ⟨places, hx⟩ := laid_reads os enc
  refine returnsInHanded_of_row (C := Tryz.checked) (s := OpenSpec.ofChange Rows.gcCollectsSpec) gcCollects_own started (by kernel_rfl) Tryz.func4
    (witness_row_at (enc := enc) (C := Tryz.checked) false (laidOn (World.holding Tryz.prog os ⟨#[], #[], []⟩)) #[.int .i64 0, .slice none 0 0, .slice none 0 0] rfl (by kernel_rfl) (by kernel_rfl) (by kernel_rfl)
      (OpenSpec.preRow_of_cond 8 hx (by kernel_rfl) (fun k hk => by cases hk) (by kernel_rfl) (laid_met os))) ?_
  intro W base args ds gs before hval hW _ _ _ _ _ _
  exact gcCollects_contract H enc W base args ds gs before hval hW

theorem gcCollects_said : Rows.GcCollectsSaid :=
  OpenClaim.holds_of_cond 4 Tryz.f4 rfl rfl rfl rfl rfl rfl rfl ⟨rfl, rfl, rfl, rfl, rfl⟩ rfl rfl rfl rfl rfl (by kernel_rfl) Tryz.func4 (by kernel_rfl)
    (of_decide_eq_true (by kernel_rfl)) (by unfold Func.isWrapper; first | (rw [if_pos (by decide +kernel)]; kernel_rfl) | (rw [if_neg (by decide +kernel)]; exact ⟨rfl, rfl⟩))
    (fun os started H enc _ F => by rw [OpenClaim.pre_eq_preRow]; exact gcCollects_lifted os started H enc F)

/-- No parameter wants a stand-in. -/
theorem gcCollects_plain (f : FuncId) (fn : Func) (hf : Tryz.pinned.checked.prog.funcNamed "gearbox/gearboxlaw02.GcCollects" = some f) (hfn : Tryz.pinned.checked.prog.funcs[f]? = some fn) :
    false = Tryz.pinned.checked.prog.looks [] ∧ ∀ (j : Nat) t, fn.params[j]? = some t → Tryz.pinned.checked.prog.wantsStandIn t = false := by
  obtain rfl : f = 4 := Option.some.inj ((show Tryz.prog.funcNamed "gearbox/gearboxlaw02.GcCollects" = some 4 by kernel_rfl).symm.trans hf) |>.symm
  obtain rfl : fn = Tryz.f4 := (Option.some.inj (Tryz.func4.symm.trans hfn)).symm
  refine ⟨by kernel_rfl, fun j t ht => ?_⟩
  rw [Tryz.params4] at ht
  have ht' : t = 3 ∨ t = 22 ∨ t = 23 := by simpa using Array.mem_of_getElem? ht
  rcases ht' with rfl | rfl | rfl
  · exact (show Tryz.prog.wantsStandIn 3 = false by kernel_rfl)
  · exact (show Tryz.prog.wantsStandIn 22 = false by kernel_rfl)
  · exact (show Tryz.prog.wantsStandIn 23 = false by kernel_rfl)

/-- The statement. -/
theorem gcCollects_proved : Rows.GcCollectsCardSaid :=
  Claim7.holds_tied_plain_at .later [] _ _ _ _ gcCollects_said (fun _ h => by cases h) (by kernel_rfl) (fun _ h => by cases h) gcCollects_row_tie rfl ⟨rfl, rfl⟩ (by kernel_rfl) rfl gcCollects_plain (by kernel_rfl)

end Go.Proofs.YtampilfebmfhaaaGreatDoor
