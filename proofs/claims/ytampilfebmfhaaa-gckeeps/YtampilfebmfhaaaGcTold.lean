/- What is told of the arguments that came in: ops, values. -/
import Derived.Test.YtampilfebmfhaaaGcMade
import Derived.WalkKit
import Derived.ProofKit
import Derived.OpenShut
import Derived.ShutString
import Derived.ChangeOld
import Derived.Below
import Derived.Deep.Slices
namespace Go.Proofs.Ytampilfebmfhaaa
set_option linter.unusedVariables false
set_option linter.unusedSimpArgs false
open Go.ChangeShapes Go.WideShapes Go.ChangeAt Go.RowKit

theorem cells58 : Try.prog.cellsOf 55 = 6 := by kernel_rfl

theorem nat_u8 {n : Int} (h : (Lit.int .u8 n).wf = true) : ∃ m : Nat, n = m ∧ m < 256 := by
  simp only [Lit.wf, IntKind.min, IntKind.max, IntKind.signed, IntKind.bits, Bool.and_eq_true] at h
  simp at h
  exact ⟨n.toNat, by omega, by omega⟩

theorem nat_u64 {n : Int} (h : (Lit.int .u64 n).wf = true) : ∃ m : Nat, n = m ∧ m < 18446744073709551616 := by
  simp only [Lit.wf, IntKind.min, IntKind.max, IntKind.signed, IntKind.bits, Bool.and_eq_true] at h
  simp at h
  exact ⟨n.toNat, by omega, by omega⟩

theorem i64_wf {n : Int} (h : (Lit.int .i64 n).wf = true) : -9223372036854775808 ≤ n ∧ n ≤ 9223372036854775807 := by
  simp only [Lit.wf, IntKind.min, IntKind.max, IntKind.signed, IntKind.bits, Bool.and_eq_true] at h
  simp at h
  exact ⟨by omega, by omega⟩

set_option maxRecDepth 20000 in
theorem ops_told {H : Type} {enc : TypeId × Value → H} {W : World} {fuel : Nat} {p : Option Addr} {len cap : Nat} {x : DataW H × List MemPlace}
    (h : DataW.trod enc Try.prog W 0 (fun _ => true) true fuel 22 [.slice p len cap] = some x) : len ≤ maxLen ∧ ToldOps W p len := by
  rcases Go.Deep.open_slice Try.underlying22 h with ⟨hcs, _⟩ | ⟨a, l, c, m, n, D, Pl, hcs, _, hl, hm, hmm, _, hall⟩
  · simp at hcs
    obtain ⟨rfl, rfl, rfl⟩ := hcs
    exact ⟨by unfold maxLen; omega, fun j hj => by omega⟩
  · simp at hcs
    obtain ⟨rfl, rfl, rfl⟩ := hcs
    simp at hmm
    subst hmm
    refine ⟨Nat.le_trans hl hm, fun j hj => ?_⟩
    obtain ⟨cs, hc, ht⟩ := hall j (by omega)
    rw [cells58] at hc
    obtain ⟨xs, n', _, _, hl6, hx6, hf⟩ := DataW.trod_struct Try.underlying55 ht
    rw [cells58] at hl6
    obtain ⟨_, hcl, hcc⟩ := World.cells?_some hc
    obtain ⟨b0, off, spot⟩ := a
    have hspot : spot = none := by
      obtain ⟨cs0, hc0, _⟩ := hall 0 (by omega)
      rw [cells58] at hc0
      obtain ⟨_, hcl0, hcc0⟩ := World.cells?_some hc0
      have h0 := hcc0 0 (by omega)
      rw [List.getElem?_eq_getElem (by omega)] at h0
      simpa [Addr.add] using World.cell?_spot h0
    subst hspot
    match cs, hl6, xs, hx6 with
    | [c0, c1, c2, c3, c4, c5], _, [y0, y1, y2, y3, y4, y5], _ =>
      obtain ⟨x0, h0, _, w0⟩ := DataW.trod_int Try.underlying5 (hf 0 _ rfl)
      obtain ⟨x1, h1, _, w1⟩ := DataW.trod_int Try.underlying43 (hf 1 _ rfl)
      obtain ⟨x2, h2, _, w2⟩ := DataW.trod_int Try.underlying3 (hf 2 _ rfl)
      obtain ⟨x3, h3, _, w3⟩ := DataW.trod_int Try.underlying2 (hf 3 _ rfl)
      obtain ⟨x4, h4, _, w4⟩ := DataW.trod_int Try.underlying2 (hf 4 _ rfl)
      obtain ⟨x5, h5, _, w5⟩ := DataW.trod_int Try.underlying46 (hf 5 _ rfl)
      have k5 : Try.prog.cellsOf 5 = 1 := by kernel_rfl
      have k55 : Try.prog.cellsOf 43 = 1 := by kernel_rfl
      have k3 : Try.prog.cellsOf 3 = 1 := by kernel_rfl
      have k2 : Try.prog.cellsOf 2 = 1 := by kernel_rfl
      have k56 : Try.prog.cellsOf 46 = 1 := by kernel_rfl
      simp [k5, k55, k3, k2, k56] at h0 h1 h2 h3 h4 h5
      subst h0 h1 h2 h3 h4 h5
      obtain ⟨m0, rfl, b0'⟩ := nat_u8 w0
      obtain ⟨m1, rfl, b1'⟩ := nat_u8 w1
      obtain ⟨m5, rfl, b5'⟩ := nat_u64 w5
      refine ⟨b0, off, rfl, ⟨m0, m1, x2, x3, x4, m5⟩, b0', b1', b5', i64_wf w2, fun w' hb => ?_⟩
      have key : ∀ i (hi : i < 6) v, [Value.int .u8 m0, .int .u8 m1, .int .i64 x2, .int .i64 x3, .int .i64 x4, .int .u64 m5][i]? = some v → w'.cell? ⟨b0, off + j * 6 + i, none⟩ = some v := by
        intro i hi v hv
        have h1 := hcc i hi
        rw [Addr.add_lit, Addr.add_lit] at h1
        rw [hv] at h1
        rw [hb.cell (p := ⟨b0, off + j * 6 + i, none⟩) (World.block_lt_of_cell? W ⟨b0, off + j * 6 + i, none⟩ h1)]
        exact h1
      exact ⟨key 0 (by omega) _ rfl, key 1 (by omega) _ rfl, key 2 (by omega) _ rfl, key 3 (by omega) _ rfl, key 4 (by omega) _ rfl, key 5 (by omega) _ rfl⟩

theorem list_of {α : Type} {P : Nat → α → Prop} : ∀ (n : Nat), (∀ j, j < n → ∃ v, P j v) → ∃ l : List α, l.length = n ∧ ∀ (j : Nat) (v : α), l[j]? = some v → P j v
  | 0, _ => ⟨[], rfl, by simp⟩
  | n + 1, h => by
    obtain ⟨l, hl, hP⟩ := list_of n (fun j hj => h j (by omega))
    obtain ⟨v, hv⟩ := h n (by omega)
    refine ⟨l ++ [v], by simp [hl], ?_⟩
    intro j u hu
    by_cases hj : j < l.length
    · rw [List.getElem?_append_left hj] at hu; exact hP j u hu
    · rw [List.getElem?_append_right (by omega)] at hu
      have hj2 : j - l.length = 0 := by
        have := (List.getElem?_eq_some_iff.1 hu).1; simp at this; omega
      rw [hj2] at hu
      simp at hu
      subst hu
      rw [show j = n by omega]; exact hv

theorem cellsVal : Try.prog.cellsOf 45 = 2 := by kernel_rfl

set_option maxRecDepth 20000 in
theorem vals_told {H : Type} {enc : TypeId × Value → H} {W : World} {fuel : Nat} {p : Option Addr} {len cap : Nat} {x : DataW H × List MemPlace}
    (h : DataW.trod enc Try.prog W 0 (fun _ => true) true fuel 23 [.slice p len cap] = some x) : ∃ vs : List Vl, vs.length = len ∧ Vals W p vs ∧ (∀ v ∈ vs, v.k < 256) ∧ (p = none → vs = [] ∧ cap = 0) := by
  rcases Go.Deep.open_slice Try.underlying23 h with ⟨hcs, _⟩ | ⟨a, l, c, m, n, D, Pl, hcs, _, hl, hm, hmm, _, hall⟩
  · simp at hcs
    obtain ⟨rfl, rfl, rfl⟩ := hcs
    exact ⟨[], rfl, by intro j v hj; simp at hj, by simp, fun _ => ⟨rfl, rfl⟩⟩
  · simp at hcs
    obtain ⟨rfl, rfl, rfl⟩ := hcs
    simp at hmm
    subst hmm
    have key : ∀ j, j < len → ∃ v : Vl, v.k < 256 ∧ ∃ b0 off : Nat, some a = some ⟨b0, off, none⟩ ∧ W.cell? ⟨b0, off + j * 2, none⟩ = some (.int .u8 v.k) ∧ W.cell? ⟨b0, off + j * 2 + 1, none⟩ = some (.int .i64 v.n) := by
      intro j hj
      obtain ⟨cs, hc, ht⟩ := hall j (by omega)
      rw [cellsVal] at hc
      obtain ⟨xs, n', _, _, hl6, hx6, hf⟩ := DataW.trod_struct Try.underlying45 ht
      rw [cellsVal] at hl6
      obtain ⟨_, hcl, hcc⟩ := World.cells?_some hc
      obtain ⟨b0, off, spot⟩ := a
      have hspot : spot = none := by
        obtain ⟨cs0, hc0, _⟩ := hall 0 (by omega)
        rw [cellsVal] at hc0
        obtain ⟨_, hcl0, hcc0⟩ := World.cells?_some hc0
        have h0 := hcc0 0 (by omega)
        rw [List.getElem?_eq_getElem (by omega)] at h0
        simpa [Addr.add] using World.cell?_spot h0
      subst hspot
      match cs, hl6, xs, hx6 with
      | [c0, c1], _, [y0, y1], _ =>
        obtain ⟨x0, h0, _, w0⟩ := DataW.trod_int Try.underlying43 (hf 0 _ rfl)
        obtain ⟨x1, h1, _, w1⟩ := DataW.trod_int Try.underlying2 (hf 1 _ rfl)
        have k0 : Try.prog.cellsOf 43 = 1 := by kernel_rfl
        have k1 : Try.prog.cellsOf 2 = 1 := by kernel_rfl
        simp [k0, k1] at h0 h1
        subst h0 h1
        obtain ⟨m0, rfl, b0'⟩ := nat_u8 w0
        refine ⟨⟨m0, x1⟩, b0', b0, off, rfl, ?_, ?_⟩
        · have := hcc 0 (by omega)
          rw [Addr.add_lit, Addr.add_lit] at this
          simpa using this
        · have := hcc 1 (by omega)
          rw [Addr.add_lit, Addr.add_lit] at this
          simpa using this
    obtain ⟨vs, hvl, hvs⟩ := list_of (P := fun j (v : Vl) => v.k < 256 ∧ ∃ b0 off : Nat, some a = some ⟨b0, off, none⟩ ∧ W.cell? ⟨b0, off + j * 2, none⟩ = some (.int .u8 v.k) ∧ W.cell? ⟨b0, off + j * 2 + 1, none⟩ = some (.int .i64 v.n)) len key
    refine ⟨vs, hvl, fun j v hj => (hvs j v hj).2, ?_, fun e => by cases e⟩
    intro v hv
    obtain ⟨j, hj⟩ := List.mem_iff_getElem?.1 hv
    exact (hvs j v hj).1

end Go.Proofs.Ytampilfebmfhaaa
