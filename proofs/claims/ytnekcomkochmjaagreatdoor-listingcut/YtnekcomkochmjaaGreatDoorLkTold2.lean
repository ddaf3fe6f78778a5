/- What is told of a program that came in; how great it can be. -/
import Derived.Test.YtnekcomkochmjaaGreatDoorLkGreat
import Derived.WalkKit
import Derived.ProofKit
import Derived.OpenShut
import Derived.ShutString
import Derived.ChangeOld
import Derived.Below
import Derived.SizedLaws
import Derived.Deep.Slices
import Derived.Test.YtnekcomkochmjaaGreatDoorVfRDepths
namespace Go.Proofs.YtnekcomkochmjaaGreatDoor
set_option linter.unusedVariables false
set_option linter.unusedSimpArgs false
open Go.ChangeShapes Go.WideShapes Go.ChangeAt Go.RowKit

namespace Lk

theorem i64_wf {n : Int} (h : (Lit.int .i64 n).wf = true) : I64 n := by
  simp only [Lit.wf, IntKind.min, IntKind.max, IntKind.signed, IntKind.bits, Bool.and_eq_true] at h
  simp at h
  exact ⟨by omega, by omega⟩

theorem nat_u8 {n : Int} (h : (Lit.int .u8 n).wf = true) : ∃ m : Nat, n = m ∧ m < 256 := by
  simp only [Lit.wf, IntKind.min, IntKind.max, IntKind.signed, IntKind.bits, Bool.and_eq_true] at h
  simp at h
  exact ⟨n.toNat, by omega, by omega⟩

theorem list_of {α : Type} {P : Nat → α → Prop} : ∀ (n : Nat), (∀ j, j < n → ∃ v, P j v) → ∃ l : List α, l.length = n ∧ ∀ (j : Nat) (v : α), l[j]? = some v → P j v
  | 0, _ => ⟨[], rfl, by simp⟩
  | n + 1, h => by
    obtain ⟨l, hl, hP⟩ := list_of n (fun j hj => h j (by omega))
    obtain ⟨v, hv⟩ := h n (by omega)
    refine ⟨l ++ [v], by simp [hl], ?_⟩
    intro j u hu
    by_cases hj : j < l.length
    · rw [List.getElem?_append_left hj] at hu; exact hP j u hu
    · rw [List.getElem?_append_right (by omega)] at hu
      have hj2 : j - l.length = 0 := by
        have := (List.getElem?_eq_some_iff.1 hu).1; simp at this; omega
      rw [hj2] at hu
      simp at hu
      subst hu
      rw [show j = n by omega]; exact hv

theorem weightsAll_mem {H : Type} {P : Program} {e : TypeId} {n : Nat} : ∀ {l : List (DataW H)} {d : DataW H}, d ∈ l → n ∈ d.weights P e → n ∈ DataW.weightsAll P e l
  | d0 :: l, d, hd, hn => by
    simp only [DataW.weightsAll, List.mem_append]
    rcases List.mem_cons.1 hd with rfl | hd
    · exact .inl hn
    · exact .inr (weightsAll_mem hd hn)

theorem cellsOf_caps : Tryz.prog.cellsOf 72 = 2 := by kernel_rfl

theorem bytesOf_caps : Tryz.prog.bytesOf 72 = 16 := by kernel_rfl

set_option maxRecDepth 20000 in
theorem caps_told {H : Type} {enc : TypeId × Value → H} {W : World} {fuel : Nat} {p : Option Addr} {len cap : Nat} {x : DataW H × List MemPlace}
    (h : DataW.trod enc Tryz.prog W 0 (fun _ => true) true fuel 41 [.slice p len cap] = some x) (hw : ∀ n ∈ x.1.weights Tryz.prog 41, n ≤ reachBytes) :
    ∃ l : List Cp, l.length = len ∧ RowAt capC 2 W p l ∧ (∀ x ∈ l, I64 x.n) ∧ len * 16 ≤ reachBytes := by
  rcases Go.Deep.open_slice Tryz.underlying41 h with ⟨hcs, _⟩ | ⟨a, l, c, m, n, D, Pl, hcs, _, hl, hm, hmm, hx, hall⟩
  · simp at hcs
    obtain ⟨rfl, rfl, rfl⟩ := hcs
    exact ⟨[], rfl, RowAt.nil _ _ _ _, by simp, by simp⟩
  · simp at hcs
    obtain ⟨rfl, rfl, rfl⟩ := hcs
    simp at hmm
    subst hmm
    have key : ∀ j, j < len → ∃ x : Cp, (I64 x.n) ∧ ∃ b0 off : Nat, some a = some ⟨b0, off, none⟩ ∧ b0 < W.heap.size ∧ ∀ i u, (capC x)[i]? = some u → W.cell? ⟨b0, off + j * 2 + i, none⟩ = some u := by
      intro j hj
      obtain ⟨cs, hc, ht⟩ := hall j (by omega)
      rw [cellsOf_caps] at hc
      obtain ⟨xs, n', _, hdx, hl6, hx6, hf⟩ := DataW.trod_struct Tryz.underlying72 ht
      rw [cellsOf_caps] at hl6
      obtain ⟨_, hcl, hcc⟩ := World.cells?_some hc
      obtain ⟨b0, off, spot⟩ := a
      have hspot : spot = none := by
        obtain ⟨cs0, hc0, _⟩ := hall 0 (by omega)
        rw [cellsOf_caps] at hc0
        obtain ⟨_, hcl0, hcc0⟩ := World.cells?_some hc0
        have h0 := hcc0 0 (by omega)
        rw [List.getElem?_eq_getElem (by omega)] at h0
        simpa [Addr.add] using World.cell?_spot h0
      subst hspot
      match cs, hl6, xs, hx6 with
      | [c0, c1], _, [y0, y1], _ =>
        obtain ⟨z0, e0, _⟩ := DataW.trod_bool Tryz.underlying4 (hf 0 _ rfl)
        obtain ⟨z1, e1, _, w1⟩ := DataW.trod_int Tryz.underlying3 (hf 1 _ rfl)
        have k0 : Tryz.prog.cellsOf 4 = 1 := by kernel_rfl
        have k1 : Tryz.prog.cellsOf 3 = 1 := by kernel_rfl
        simp [k0, k1] at e0 e1
        subst e0 e1
        have hcell : ∀ i u, (capC (⟨z0, z1⟩ : Cp))[i]? = some u → W.cell? ⟨b0, off + j * 2 + i, none⟩ = some u := by
          intro i u hu
          have hi : i < 2 := (List.getElem?_eq_some_iff.1 hu).1
          have := hcc i (by omega)
          rw [Addr.add_lit, Addr.add_lit] at this
          simp only [Nat.add_assoc] at this ⊢
          rw [this]
          exact hu
        exact ⟨⟨z0, z1⟩, i64_wf w1, b0, off, rfl, World.block_lt_of_cell? W ⟨b0, off + j * 2 + 0, none⟩ (hcell 0 _ rfl), hcell⟩
    obtain ⟨l', hl', hP⟩ := list_of (P := fun j (x : Cp) => (I64 x.n) ∧ ∃ b0 off : Nat, some a = some ⟨b0, off, none⟩ ∧ b0 < W.heap.size ∧ ∀ i u, (capC x)[i]? = some u → W.cell? ⟨b0, off + j * 2 + i, none⟩ = some u) len key
    refine ⟨l', hl', fun j x hj => (hP j x hj).2, ?_, ?_⟩
    · intro x hx'
      obtain ⟨j, hj⟩ := List.mem_iff_getElem?.1 hx'
      exact (hP j x hj).1
    · have := hw ((len + (m - len)) * 16) (by rw [hx]; simp [DataW.weights, Tryz.underlying41, bytesOf_caps])
      omega

theorem cellsOf_consts : Tryz.prog.cellsOf 75 = 3 := by kernel_rfl

theorem bytesOf_consts : Tryz.prog.bytesOf 75 = 32 := by kernel_rfl

set_option maxRecDepth 20000 in
theorem consts_told {H : Type} {enc : TypeId × Value → H} {W : World} {fuel : Nat} {p : Option Addr} {len cap : Nat} {x : DataW H × List MemPlace}
    (h : DataW.trod enc Tryz.prog W 0 (fun _ => true) true fuel 42 [.slice p len cap] = some x) (hw : ∀ n ∈ x.1.weights Tryz.prog 42, n ≤ reachBytes) :
    ∃ l : List Ck, l.length = len ∧ RowAt conC 3 W p l ∧ (∀ x ∈ l, x.k < 256 ∧ x.s.size ≤ reachBytes ∧ I64 x.n) ∧ len * 32 ≤ reachBytes := by
  rcases Go.Deep.open_slice Tryz.underlying42 h with ⟨hcs, _⟩ | ⟨a, l, c, m, n, D, Pl, hcs, _, hl, hm, hmm, hx, hall⟩
  · simp at hcs
    obtain ⟨rfl, rfl, rfl⟩ := hcs
    exact ⟨[], rfl, RowAt.nil _ _ _ _, by simp, by simp⟩
  · simp at hcs
    obtain ⟨rfl, rfl, rfl⟩ := hcs
    simp at hmm
    subst hmm
    have hW2 : ∀ j, j < len → ∀ n ∈ (D j).weights Tryz.prog 75, n ≤ reachBytes := by
      intro j hj n hn
      refine hw n ?_
      rw [hx]
      simp only [DataW.weights, Tryz.underlying42]
      refine List.mem_cons_of_mem _ (List.mem_append_left _ (weightsAll_mem (d := D j) (List.mem_map.2 ⟨j, by simp [hj], rfl⟩) hn))
    have key : ∀ j, j < len → ∃ x : Ck, (x.k < 256 ∧ x.s.size ≤ reachBytes ∧ I64 x.n) ∧ ∃ b0 off : Nat, some a = some ⟨b0, off, none⟩ ∧ b0 < W.heap.size ∧ ∀ i u, (conC x)[i]? = some u → W.cell? ⟨b0, off + j * 3 + i, none⟩ = some u := by
      intro j hj
      obtain ⟨cs, hc, ht⟩ := hall j (by omega)
      rw [cellsOf_consts] at hc
      have hDw := hW2 j hj
      generalize D j = dj at *
      obtain ⟨xs, n', _, hdx, hl6, hx6, hf⟩ := DataW.trod_struct Tryz.underlying75 ht
      rw [cellsOf_consts] at hl6
      obtain ⟨_, hcl, hcc⟩ := World.cells?_some hc
      obtain ⟨b0, off, spot⟩ := a
      have hspot : spot = none := by
        obtain ⟨cs0, hc0, _⟩ := hall 0 (by omega)
        rw [cellsOf_consts] at hc0
        obtain ⟨_, hcl0, hcc0⟩ := World.cells?_some hc0
        have h0 := hcc0 0 (by omega)
        rw [List.getElem?_eq_getElem (by omega)] at h0
        simpa [Addr.add] using World.cell?_spot h0
      subst hspot
      match cs, hl6, xs, hx6 with
      | [c0, c1, c2], _, [y0, y1, y2], _ =>
        obtain ⟨z0i, e0, _, w0⟩ := DataW.trod_int Tryz.underlying73 (hf 0 _ rfl)
        obtain ⟨z1, e1, _, w1⟩ := DataW.trod_int Tryz.underlying2 (hf 1 _ rfl)
        obtain ⟨z2, e2, s2, _⟩ := DataW.trod_string Tryz.underlying9 (hf 2 _ rfl)
        have k0 : Tryz.prog.cellsOf 73 = 1 := by kernel_rfl
        have k1 : Tryz.prog.cellsOf 2 = 1 := by kernel_rfl
        have k2 : Tryz.prog.cellsOf 9 = 1 := by kernel_rfl
        simp [k0, k1, k2] at e0 e1 e2
        subst e0 e1 e2
        obtain ⟨z0, rfl, u0⟩ := nat_u8 w0
        simp only [Prod.mk.injEq] at hdx
        have hwt : ∀ n, n ∈ y2.1.weights Tryz.prog 9 → n ≤ reachBytes := by
          intro n hn
          refine hDw n ?_
          rw [hdx.1]
          simp only [DataW.weights, Tryz.underlying75, List.map_cons, List.map_nil, DataW.weightsEach, List.mem_append]
          exact .inr (.inr (.inl hn))
        have hcell : ∀ i u, (conC (⟨z0, z1, z2⟩ : Ck))[i]? = some u → W.cell? ⟨b0, off + j * 3 + i, none⟩ = some u := by
          intro i u hu
          have hi : i < 3 := (List.getElem?_eq_some_iff.1 hu).1
          have := hcc i (by omega)
          rw [Addr.add_lit, Addr.add_lit] at this
          simp only [Nat.add_assoc] at this ⊢
          rw [this]
          exact hu
        exact ⟨⟨z0, z1, z2⟩, ⟨u0, hwt _ (by rw [s2]; simp [DataW.weights]), i64_wf w1⟩, b0, off, rfl, World.block_lt_of_cell? W ⟨b0, off + j * 3 + 0, none⟩ (hcell 0 _ rfl), hcell⟩
    obtain ⟨l', hl', hP⟩ := list_of (P := fun j (x : Ck) => (x.k < 256 ∧ x.s.size ≤ reachBytes ∧ I64 x.n) ∧ ∃ b0 off : Nat, some a = some ⟨b0, off, none⟩ ∧ b0 < W.heap.size ∧ ∀ i u, (conC x)[i]? = some u → W.cell? ⟨b0, off + j * 3 + i, none⟩ = some u) len key
    refine ⟨l', hl', fun j x hj => (hP j x hj).2, ?_, ?_⟩
    · intro x hx'
      obtain ⟨j, hj⟩ := List.mem_iff_getElem?.1 hx'
      exact (hP j x hj).1
    · have := hw ((len + (m - len)) * 32) (by rw [hx]; simp [DataW.weights, Tryz.underlying42, bytesOf_consts])
      omega

theorem cellsOf_inses : Tryz.prog.cellsOf 38 = 2 := by kernel_rfl

theorem bytesOf_inses : Tryz.prog.bytesOf 38 = 16 := by kernel_rfl

set_option maxRecDepth 20000 in
theorem inses_told {H : Type} {enc : TypeId × Value → H} {W : World} {fuel : Nat} {p : Option Addr} {len cap : Nat} {x : DataW H × List MemPlace}
    (h : DataW.trod enc Tryz.prog W 0 (fun _ => true) true fuel 39 [.slice p len cap] = some x) (hw : ∀ n ∈ x.1.weights Tryz.prog 39, n ≤ reachBytes) :
    ∃ l : List In, l.length = len ∧ RowAt insC 2 W p l ∧ (∀ x ∈ l, x.op < 256 ∧ I64 x.a) ∧ len * 16 ≤ reachBytes := by
  rcases Go.Deep.open_slice Tryz.underlying39 h with ⟨hcs, _⟩ | ⟨a, l, c, m, n, D, Pl, hcs, _, hl, hm, hmm, hx, hall⟩
  · simp at hcs
    obtain ⟨rfl, rfl, rfl⟩ := hcs
    exact ⟨[], rfl, RowAt.nil _ _ _ _, by simp, by simp⟩
  · simp at hcs
    obtain ⟨rfl, rfl, rfl⟩ := hcs
    simp at hmm
    subst hmm
    have key : ∀ j, j < len → ∃ x : In, (x.op < 256 ∧ I64 x.a) ∧ ∃ b0 off : Nat, some a = some ⟨b0, off, none⟩ ∧ b0 < W.heap.size ∧ ∀ i u, (insC x)[i]? = some u → W.cell? ⟨b0, off + j * 2 + i, none⟩ = some u := by
      intro j hj
      obtain ⟨cs, hc, ht⟩ := hall j (by omega)
      rw [cellsOf_inses] at hc
      obtain ⟨xs, n', _, hdx, hl6, hx6, hf⟩ := DataW.trod_struct Tryz.underlying38 ht
      rw [cellsOf_inses] at hl6
      obtain ⟨_, hcl, hcc⟩ := World.cells?_some hc
      obtain ⟨b0, off, spot⟩ := a
      have hspot : spot = none := by
        obtain ⟨cs0, hc0, _⟩ := hall 0 (by omega)
        rw [cellsOf_inses] at hc0
        obtain ⟨_, hcl0, hcc0⟩ := World.cells?_some hc0
        have h0 := hcc0 0 (by omega)
        rw [List.getElem?_eq_getElem (by omega)] at h0
        simpa [Addr.add] using World.cell?_spot h0
      subst hspot
      match cs, hl6, xs, hx6 with
      | [c0, c1], _, [y0, y1], _ =>
        obtain ⟨z0i, e0, _, w0⟩ := DataW.trod_int Tryz.underlying36 (hf 0 _ rfl)
        obtain ⟨z1, e1, _, w1⟩ := DataW.trod_int Tryz.underlying3 (hf 1 _ rfl)
        have k0 : Tryz.prog.cellsOf 36 = 1 := by kernel_rfl
        have k1 : Tryz.prog.cellsOf 3 = 1 := by kernel_rfl
        simp [k0, k1] at e0 e1
        subst e0 e1
        obtain ⟨z0, rfl, u0⟩ := nat_u8 w0
        have hcell : ∀ i u, (insC (⟨z0, z1⟩ : In))[i]? = some u → W.cell? ⟨b0, off + j * 2 + i, none⟩ = some u := by
          intro i u hu
          have hi : i < 2 := (List.getElem?_eq_some_iff.1 hu).1
          have := hcc i (by omega)
          rw [Addr.add_lit, Addr.add_lit] at this
          simp only [Nat.add_assoc] at this ⊢
          rw [this]
          exact hu
        exact ⟨⟨z0, z1⟩, ⟨u0, i64_wf w1⟩, b0, off, rfl, World.block_lt_of_cell? W ⟨b0, off + j * 2 + 0, none⟩ (hcell 0 _ rfl), hcell⟩
    obtain ⟨l', hl', hP⟩ := list_of (P := fun j (x : In) => (x.op < 256 ∧ I64 x.a) ∧ ∃ b0 off : Nat, some a = some ⟨b0, off, none⟩ ∧ b0 < W.heap.size ∧ ∀ i u, (insC x)[i]? = some u → W.cell? ⟨b0, off + j * 2 + i, none⟩ = some u) len key
    refine ⟨l', hl', fun j x hj => (hP j x hj).2, ?_, ?_⟩
    · intro x hx'
      obtain ⟨j, hj⟩ := List.mem_iff_getElem?.1 hx'
      exact (hP j x hj).1
    · have := hw ((len + (m - len)) * 16) (by rw [hx]; simp [DataW.weights, Tryz.underlying39, bytesOf_inses])
      omega

theorem cellsOf_ints : Tryz.prog.cellsOf 3 = 1 := by kernel_rfl

theorem bytesOf_ints : Tryz.prog.bytesOf 3 = 8 := by kernel_rfl

set_option maxRecDepth 20000 in
theorem ints_told {H : Type} {enc : TypeId × Value → H} {W : World} {fuel : Nat} {p : Option Addr} {len cap : Nat} {x : DataW H × List MemPlace}
    (h : DataW.trod enc Tryz.prog W 0 (fun _ => true) true fuel 40 [.slice p len cap] = some x) (hw : ∀ n ∈ x.1.weights Tryz.prog 40, n ≤ reachBytes) :
    ∃ l : List Int, l.length = len ∧ RowAt linC 1 W p l ∧ (∀ x ∈ l, I64 x) ∧ len * 8 ≤ reachBytes := by
  rcases Go.Deep.open_slice Tryz.underlying40 h with ⟨hcs, _⟩ | ⟨a, l, c, m, n, D, Pl, hcs, _, hl, hm, hmm, hx, hall⟩
  · simp at hcs
    obtain ⟨rfl, rfl, rfl⟩ := hcs
    exact ⟨[], rfl, RowAt.nil _ _ _ _, by simp, by simp⟩
  · simp at hcs
    obtain ⟨rfl, rfl, rfl⟩ := hcs
    simp at hmm
    subst hmm
    have key : ∀ j, j < len → ∃ x : Int, (I64 x) ∧ ∃ b0 off : Nat, some a = some ⟨b0, off, none⟩ ∧ b0 < W.heap.size ∧ ∀ i u, (linC x)[i]? = some u → W.cell? ⟨b0, off + j * 1 + i, none⟩ = some u := by
      intro j hj
      obtain ⟨cs, hc, ht⟩ := hall j (by omega)
      rw [cellsOf_ints] at hc
      obtain ⟨_, hcl, hcc⟩ := World.cells?_some hc
      obtain ⟨b0, off, spot⟩ := a
      have hspot : spot = none := by
        obtain ⟨cs0, hc0, _⟩ := hall 0 (by omega)
        rw [cellsOf_ints] at hc0
        obtain ⟨_, hcl0, hcc0⟩ := World.cells?_some hc0
        have h0 := hcc0 0 (by omega)
        rw [List.getElem?_eq_getElem (by omega)] at h0
        simpa [Addr.add] using World.cell?_spot h0
      subst hspot
      obtain ⟨z0, e0, _, w0⟩ := DataW.trod_int Tryz.underlying3 ht
      subst e0
      have hcell : ∀ i u, (linC (z0 : Int))[i]? = some u → W.cell? ⟨b0, off + j * 1 + i, none⟩ = some u := by
        intro i u hu
        have hi : i < 1 := (List.getElem?_eq_some_iff.1 hu).1
        have := hcc i (by omega)
        rw [Addr.add_lit, Addr.add_lit] at this
        simp only [Nat.add_assoc] at this ⊢
        rw [this]
        exact hu
      exact ⟨z0, i64_wf w0, b0, off, rfl, World.block_lt_of_cell? W ⟨b0, off + j * 1 + 0, none⟩ (hcell 0 _ rfl), hcell⟩
    obtain ⟨l', hl', hP⟩ := list_of (P := fun j (x : Int) => (I64 x) ∧ ∃ b0 off : Nat, some a = some ⟨b0, off, none⟩ ∧ b0 < W.heap.size ∧ ∀ i u, (linC x)[i]? = some u → W.cell? ⟨b0, off + j * 1 + i, none⟩ = some u) len key
    refine ⟨l', hl', fun j x hj => (hP j x hj).2, ?_, ?_⟩
    · intro x hx'
      obtain ⟨j, hj⟩ := List.mem_iff_getElem?.1 hx'
      exact (hP j x hj).1
    · have := hw ((len + (m - len)) * 8) (by rw [hx]; simp [DataW.weights, Tryz.underlying40, bytesOf_ints])
      omega

theorem cellsOf_hands : Tryz.prog.cellsOf 78 = 4 := by kernel_rfl

theorem bytesOf_hands : Tryz.prog.bytesOf 78 = 32 := by kernel_rfl

set_option maxRecDepth 20000 in
theorem hands_told {H : Type} {enc : TypeId × Value → H} {W : World} {fuel : Nat} {p : Option Addr} {len cap : Nat} {x : DataW H × List MemPlace}
    (h : DataW.trod enc Tryz.prog W 0 (fun _ => true) true fuel 43 [.slice p len cap] = some x) (hw : ∀ n ∈ x.1.weights Tryz.prog 43, n ≤ reachBytes) :
    ∃ l : List Hn, l.length = len ∧ RowAt hanC 4 W p l ∧ (∀ x ∈ l, I64 x.fr ∧ I64 x.to ∧ I64 x.at_ ∧ I64 x.deep) ∧ len * 32 ≤ reachBytes := by
  rcases Go.Deep.open_slice Tryz.underlying43 h with ⟨hcs, _⟩ | ⟨a, l, c, m, n, D, Pl, hcs, _, hl, hm, hmm, hx, hall⟩
  · simp at hcs
    obtain ⟨rfl, rfl, rfl⟩ := hcs
    exact ⟨[], rfl, RowAt.nil _ _ _ _, by simp, by simp⟩
  · simp at hcs
    obtain ⟨rfl, rfl, rfl⟩ := hcs
    simp at hmm
    subst hmm
    have key : ∀ j, j < len → ∃ x : Hn, (I64 x.fr ∧ I64 x.to ∧ I64 x.at_ ∧ I64 x.deep) ∧ ∃ b0 off : Nat, some a = some ⟨b0, off, none⟩ ∧ b0 < W.heap.size ∧ ∀ i u, (hanC x)[i]? = some u → W.cell? ⟨b0, off + j * 4 + i, none⟩ = some u := by
      intro j hj
      obtain ⟨cs, hc, ht⟩ := hall j (by omega)
      rw [cellsOf_hands] at hc
      obtain ⟨xs, n', _, hdx, hl6, hx6, hf⟩ := DataW.trod_struct Tryz.underlying78 ht
      rw [cellsOf_hands] at hl6
      obtain ⟨_, hcl, hcc⟩ := World.cells?_some hc
      obtain ⟨b0, off, spot⟩ := a
      have hspot : spot = none := by
        obtain ⟨cs0, hc0, _⟩ := hall 0 (by omega)
        rw [cellsOf_hands] at hc0
        obtain ⟨_, hcl0, hcc0⟩ := World.cells?_some hc0
        have h0 := hcc0 0 (by omega)
        rw [List.getElem?_eq_getElem (by omega)] at h0
        simpa [Addr.add] using World.cell?_spot h0
      subst hspot
      match cs, hl6, xs, hx6 with
      | [c0, c1, c2, c3], _, [y0, y1, y2, y3], _ =>
        obtain ⟨z0, e0, _, w0⟩ := DataW.trod_int Tryz.underlying3 (hf 0 _ rfl)
        obtain ⟨z1, e1, _, w1⟩ := DataW.trod_int Tryz.underlying3 (hf 1 _ rfl)
        obtain ⟨z2, e2, _, w2⟩ := DataW.trod_int Tryz.underlying3 (hf 2 _ rfl)
        obtain ⟨z3, e3, _, w3⟩ := DataW.trod_int Tryz.underlying3 (hf 3 _ rfl)
        have k0 : Tryz.prog.cellsOf 3 = 1 := by kernel_rfl
        simp [k0] at e0 e1 e2 e3
        subst e0 e1 e2 e3
        have hcell : ∀ i u, (hanC (⟨z0, z1, z2, z3⟩ : Hn))[i]? = some u → W.cell? ⟨b0, off + j * 4 + i, none⟩ = some u := by
          intro i u hu
          have hi : i < 4 := (List.getElem?_eq_some_iff.1 hu).1
          have := hcc i (by omega)
          rw [Addr.add_lit, Addr.add_lit] at this
          simp only [Nat.add_assoc] at this ⊢
          rw [this]
          exact hu
        exact ⟨⟨z0, z1, z2, z3⟩, ⟨i64_wf w0, i64_wf w1, i64_wf w2, i64_wf w3⟩, b0, off, rfl, World.block_lt_of_cell? W ⟨b0, off + j * 4 + 0, none⟩ (hcell 0 _ rfl), hcell⟩
    obtain ⟨l', hl', hP⟩ := list_of (P := fun j (x : Hn) => (I64 x.fr ∧ I64 x.to ∧ I64 x.at_ ∧ I64 x.deep) ∧ ∃ b0 off : Nat, some a = some ⟨b0, off, none⟩ ∧ b0 < W.heap.size ∧ ∀ i u, (hanC x)[i]? = some u → W.cell? ⟨b0, off + j * 4 + i, none⟩ = some u) len key
    refine ⟨l', hl', fun j x hj => (hP j x hj).2, ?_, ?_⟩
    · intro x hx'
      obtain ⟨j, hj⟩ := List.mem_iff_getElem?.1 hx'
      exact (hP j x hj).1
    · have := hw ((len + (m - len)) * 32) (by rw [hx]; simp [DataW.weights, Tryz.underlying43, bytesOf_hands])
      omega

end Lk

end Go.Proofs.YtnekcomkochmjaaGreatDoor

namespace Go.Proofs.YtnekcomkochmjaaGreatDoor
set_option linter.unusedVariables false
set_option linter.unusedSimpArgs false
open Go.ChangeShapes Go.WideShapes Go.ChangeAt Go.RowKit

namespace Lk

theorem cellsOf_fn : Tryz.prog.cellsOf 45 = 8 := by kernel_rfl

theorem bytesOf_fn : Tryz.prog.bytesOf 45 = 152 := by kernel_rfl

set_option maxRecDepth 20000 in
theorem fns_told {H : Type} {enc : TypeId × Value → H} {W : World} {fuel : Nat} {p : Option Addr} {len cap : Nat} {x : DataW H × List MemPlace}
    (h : DataW.trod enc Tryz.prog W 0 (fun _ => true) true fuel 23 [.slice p len cap] = some x) (hw : ∀ n ∈ x.1.weights Tryz.prog 23, n ≤ reachBytes) :
    ∃ l : List Fm, l.length = len ∧ IsFns W p l ∧ (∀ f ∈ l, CameF f ∧ FitF f ∧ NumF f) ∧ len * 152 ≤ reachBytes := by
  have hrb : reachBytes ≤ 140737488355328 := by decide
  rcases Go.Deep.open_slice Tryz.underlying23 h with ⟨hcs, _⟩ | ⟨a, l, c, m, n, D, Pl, hcs, _, hl, hm, hmm, hx, hall⟩
  · simp at hcs
    obtain ⟨rfl, rfl, rfl⟩ := hcs
    exact ⟨[], rfl, by intro j f hj; simp at hj, by simp, by simp⟩
  · simp at hcs
    obtain ⟨rfl, rfl, rfl⟩ := hcs
    simp at hmm
    subst hmm
    have hW2 : ∀ j, j < len → ∀ n ∈ (D j).weights Tryz.prog 45, n ≤ reachBytes := by
      intro j hj n hn
      refine hw n ?_
      rw [hx]
      simp only [DataW.weights, Tryz.underlying23]
      refine List.mem_cons_of_mem _ (List.mem_append_left _ (weightsAll_mem (d := D j) (List.mem_map.2 ⟨j, by simp [hj], rfl⟩) hn))
    have key : ∀ j, j < len → ∃ x : Fm, (CameF x ∧ FitF x ∧ NumF x) ∧ ∃ (b0 off : Nat) (s : Fs), some a = some ⟨b0, off, none⟩ ∧ b0 < W.heap.size ∧ (∀ i u, (fnC x s)[i]? = some u → W.cell? ⟨b0, off + j * 8 + i, none⟩ = some u) ∧ FnAt W x s := by
      intro j hj
      obtain ⟨cs, hc, ht⟩ := hall j (by omega)
      rw [cellsOf_fn] at hc
      have hDw := hW2 j hj
      generalize D j = dj at *
      obtain ⟨xs, n', _, hdx, hl6, hx6, hf⟩ := DataW.trod_struct Tryz.underlying45 ht
      rw [cellsOf_fn] at hl6
      obtain ⟨_, hcl, hcc⟩ := World.cells?_some hc
      obtain ⟨b0, off, spot⟩ := a
      have hspot : spot = none := by
        obtain ⟨cs0, hc0, _⟩ := hall 0 (by omega)
        rw [cellsOf_fn] at hc0
        obtain ⟨_, hcl0, hcc0⟩ := World.cells?_some hc0
        have h0 := hcc0 0 (by omega)
        rw [List.getElem?_eq_getElem (by omega)] at h0
        simpa [Addr.add] using World.cell?_spot h0
      subst hspot
      match cs, hl6, xs, hx6 with
      | [c0, c1, c2, c3, c4, c5, c6, c7], _, [y0, y1, y2, y3, y4, y5, y6, y7], _ =>
        obtain ⟨z0, e0, s0, _⟩ := DataW.trod_string Tryz.underlying9 (hf 0 _ rfl)
        obtain ⟨z1, e1, _, wz1⟩ := DataW.trod_int Tryz.underlying3 (hf 1 _ rfl)
        obtain ⟨z2, e2, _, wz2⟩ := DataW.trod_int Tryz.underlying3 (hf 2 _ rfl)
        have h3 := hf 3 _ rfl
        have h4 := hf 4 _ rfl
        have h5 := hf 5 _ rfl
        have h6 := hf 6 _ rfl
        have h7 := hf 7 _ rfl
        have k0 : Tryz.prog.cellsOf 9 = 1 := by kernel_rfl
        have k1 : Tryz.prog.cellsOf 3 = 1 := by kernel_rfl
        have k3 : Tryz.prog.cellsOf 41 = 1 := by kernel_rfl
        have k4 : Tryz.prog.cellsOf 42 = 1 := by kernel_rfl
        have k5 : Tryz.prog.cellsOf 39 = 1 := by kernel_rfl
        have k6 : Tryz.prog.cellsOf 40 = 1 := by kernel_rfl
        have k7 : Tryz.prog.cellsOf 43 = 1 := by kernel_rfl
        simp [k0] at e0
        simp [k1, k0] at e1 e2
        simp [k0, k1, k3, k4, k5, k6, k7] at h3
        simp [k0, k1, k3, k4, k5, k6, k7] at h4
        simp [k0, k1, k3, k4, k5, k6, k7] at h5
        simp [k0, k1, k3, k4, k5, k6, k7] at h6
        simp [k0, k1, k3, k4, k5, k6, k7] at h7
        subst e0 e1 e2
        simp only [Prod.mk.injEq] at hdx
        have hwt : ∀ n, n ∈ y0.1.weights Tryz.prog 9 ∨ n ∈ y3.1.weights Tryz.prog 41 ∨ n ∈ y4.1.weights Tryz.prog 42 ∨ n ∈ y5.1.weights Tryz.prog 39 ∨ n ∈ y6.1.weights Tryz.prog 40 ∨ n ∈ y7.1.weights Tryz.prog 43 → n ≤ reachBytes := by
          intro n hn
          refine hDw n ?_
          rw [hdx.1]
          simp only [DataW.weights, Tryz.underlying45, List.map_cons, List.map_nil, DataW.weightsEach, List.mem_append]
          rcases hn with hn | hn | hn | hn | hn | hn
          · exact .inl hn
          · exact .inr (.inr (.inr (.inl hn)))
          · exact .inr (.inr (.inr (.inr (.inl hn))))
          · exact .inr (.inr (.inr (.inr (.inr (.inl hn)))))
          · exact .inr (.inr (.inr (.inr (.inr (.inr (.inl hn))))))
          · exact .inr (.inr (.inr (.inr (.inr (.inr (.inr (.inl hn)))))))
        obtain ⟨q3, l3, p3, rfl⟩ : ∃ q ln cp, c3 = .slice q ln cp := by
          rcases Go.Deep.open_slice Tryz.underlying41 h3 with ⟨hcs, _⟩ | ⟨a, l, c, m, n, D, Pl, hcs, _⟩
          · simp at hcs; exact ⟨_, _, _, hcs⟩
          · simp at hcs; exact ⟨_, _, _, hcs⟩
        obtain ⟨v3, rfl, r3, f3, w3⟩ := caps_told h3 (fun n hn => hwt n (.inr (.inl hn)))
        obtain ⟨q4, l4, p4, rfl⟩ : ∃ q ln cp, c4 = .slice q ln cp := by
          rcases Go.Deep.open_slice Tryz.underlying42 h4 with ⟨hcs, _⟩ | ⟨a, l, c, m, n, D, Pl, hcs, _⟩
          · simp at hcs; exact ⟨_, _, _, hcs⟩
          · simp at hcs; exact ⟨_, _, _, hcs⟩
        obtain ⟨v4, rfl, r4, f4, w4⟩ := consts_told h4 (fun n hn => hwt n (.inr (.inr (.inl hn))))
        obtain ⟨q5, l5, p5, rfl⟩ : ∃ q ln cp, c5 = .slice q ln cp := by
          rcases Go.Deep.open_slice Tryz.underlying39 h5 with ⟨hcs, _⟩ | ⟨a, l, c, m, n, D, Pl, hcs, _⟩
          · simp at hcs; exact ⟨_, _, _, hcs⟩
          · simp at hcs; exact ⟨_, _, _, hcs⟩
        obtain ⟨v5, rfl, r5, f5, w5⟩ := inses_told h5 (fun n hn => hwt n (.inr (.inr (.inr (.inl hn)))))
        obtain ⟨q6, l6, p6, rfl⟩ : ∃ q ln cp, c6 = .slice q ln cp := by
          rcases Go.Deep.open_slice Tryz.underlying40 h6 with ⟨hcs, _⟩ | ⟨a, l, c, m, n, D, Pl, hcs, _⟩
          · simp at hcs; exact ⟨_, _, _, hcs⟩
          · simp at hcs; exact ⟨_, _, _, hcs⟩
        obtain ⟨v6, rfl, r6, f6, w6⟩ := ints_told h6 (fun n hn => hwt n (.inr (.inr (.inr (.inr (.inl hn))))))
        obtain ⟨q7, l7, p7, rfl⟩ : ∃ q ln cp, c7 = .slice q ln cp := by
          rcases Go.Deep.open_slice Tryz.underlying43 h7 with ⟨hcs, _⟩ | ⟨a, l, c, m, n, D, Pl, hcs, _⟩
          · simp at hcs; exact ⟨_, _, _, hcs⟩
          · simp at hcs; exact ⟨_, _, _, hcs⟩
        obtain ⟨v7, rfl, r7, f7, w7⟩ := hands_told h7 (fun n hn => hwt n (.inr (.inr (.inr (.inr (.inr hn))))))
        have hn0 : z0.size ≤ reachBytes := hwt _ (.inl (by rw [s0]; simp [DataW.weights]))
        refine ⟨⟨z0, z1, z2, v3, v4, v5, v6, v7⟩, ⟨⟨by simp only; omega, by simp only; omega, by simp only; omega, fun c hc => by have := (f4 c hc).2.1; omega, by simp only; omega, by simp only; omega, by simp only; omega⟩, ⟨fun c hc => (f4 c hc).1, fun c hc => (f5 c hc).1, by simp only; omega⟩, ⟨i64_wf wz1, i64_wf wz2, f3, fun c hc => (f4 c hc).2.2, fun c hc => (f5 c hc).2, f6, f7⟩⟩, b0, off, ⟨q3, p3, q4, p4, q5, p5, q6, p6, q7, p7⟩, rfl, ?_, ?_, ⟨r3, r4, r5, r6, r7⟩⟩
        · have := hcc 0 (by omega)
          rw [Addr.add_lit, Addr.add_lit] at this
          exact World.block_lt_of_cell? W _ this
        · intro i u hu
          have hi : i < 8 := (List.getElem?_eq_some_iff.1 hu).1
          have := hcc i (by omega)
          rw [Addr.add_lit, Addr.add_lit] at this
          simp only [Nat.add_assoc] at this ⊢
          rw [this]
          exact hu
    obtain ⟨l', hl', hP⟩ := list_of (P := fun j (x : Fm) => (CameF x ∧ FitF x ∧ NumF x) ∧ ∃ (b0 off : Nat) (s : Fs), some a = some ⟨b0, off, none⟩ ∧ b0 < W.heap.size ∧ (∀ i u, (fnC x s)[i]? = some u → W.cell? ⟨b0, off + j * 8 + i, none⟩ = some u) ∧ FnAt W x s) len key
    refine ⟨l', hl', fun j x hj => (hP j x hj).2, ?_, ?_⟩
    · intro x hx'
      obtain ⟨j, hj⟩ := List.mem_iff_getElem?.1 hx'
      exact (hP j x hj).1
    · have := hw ((len + (m - len)) * 152) (by rw [hx]; simp [DataW.weights, Tryz.underlying23, bytesOf_fn])
      omega

end Lk

end Go.Proofs.YtnekcomkochmjaaGreatDoor
