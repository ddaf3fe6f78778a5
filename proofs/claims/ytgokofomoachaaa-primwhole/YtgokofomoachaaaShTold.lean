/- What is told of the arguments that came in: values, stores; how great they can be. -/
import Derived.Test.YtgokofomoachaaaShMem
import Derived.WalkKit
import Derived.ProofKit
import Derived.OpenShut
import Derived.ShutString
import Derived.ChangeOld
import Derived.Below
import Derived.SizedLaws
import Derived.Deep.Slices
namespace Go.Proofs.Ytgokofomoachaaa
set_option linter.unusedVariables false
set_option linter.unusedSimpArgs false
open Go.ChangeShapes Go.WideShapes Go.ChangeAt Go.RowKit

theorem nat_u8 {n : Int} (h : (Lit.int .u8 n).wf = true) : ∃ m : Nat, n = m ∧ m < 256 := by
  simp only [Lit.wf, IntKind.min, IntKind.max, IntKind.signed, IntKind.bits, Bool.and_eq_true] at h
  simp at h
  exact ⟨n.toNat, by omega, by omega⟩

theorem i64_wf {n : Int} (h : (Lit.int .i64 n).wf = true) : -9223372036854775808 ≤ n ∧ n ≤ 9223372036854775807 := by
  simp only [Lit.wf, IntKind.min, IntKind.max, IntKind.signed, IntKind.bits, Bool.and_eq_true] at h
  simp at h
  exact ⟨by omega, by omega⟩

theorem list_of {α : Type} {P : Nat → α → Prop} : ∀ (n : Nat), (∀ j, j < n → ∃ v, P j v) → ∃ l : List α, l.length = n ∧ ∀ (j : Nat) (v : α), l[j]? = some v → P j v
  | 0, _ => ⟨[], rfl, by simp⟩
  | n + 1, h => by
    obtain ⟨l, hl, hP⟩ := list_of n (fun j hj => h j (by omega))
    obtain ⟨v, hv⟩ := h n (by omega)
    refine ⟨l ++ [v], by simp [hl], ?_⟩
    intro j u hu
    by_cases hj : j < l.length
    · rw [List.getElem?_append_left hj] at hu; exact hP j u hu
    · rw [List.getElem?_append_right (by omega)] at hu
      have hj2 : j - l.length = 0 := by
        have := (List.getElem?_eq_some_iff.1 hu).1; simp at this; omega
      rw [hj2] at hu
      simp at hu
      subst hu
      rw [show j = n by omega]; exact hv

theorem weightsAll_mem {H : Type} {P : Program} {e : TypeId} {n : Nat} : ∀ {l : List (DataW H)} {d : DataW H}, d ∈ l → n ∈ d.weights P e → n ∈ DataW.weightsAll P e l
  | d0 :: l, d, hd, hn => by
    simp only [DataW.weightsAll, List.mem_append]
    rcases List.mem_cons.1 hd with rfl | hd
    · exact .inl hn
    · exact .inr (weightsAll_mem hd hn)

theorem cellsVal : Try.prog.cellsOf 26 = 2 := by kernel_rfl

theorem cellsObj : Try.prog.cellsOf 39 = 5 := by kernel_rfl

theorem bytesVal : Try.prog.bytesOf 26 = 16 := by kernel_rfl

theorem bytesObj : Try.prog.bytesOf 39 = 64 := by kernel_rfl

/-- A value's numbers fit. -/
def Vl.fits (v : Vl) : Prop := v.k < 256 ∧ -9223372036854775808 ≤ v.n ∧ v.n ≤ 9223372036854775807

/-- An object's numbers fit. -/
def Om.fits (o : Om) : Prop := o.k < 256 ∧ (∀ v ∈ o.l, v.fits) ∧ (-9223372036854775808 ≤ o.room ∧ o.room ≤ 9223372036854775807) ∧ -9223372036854775808 ≤ o.fn ∧ o.fn ≤ 9223372036854775807

set_option maxRecDepth 20000 in
theorem vals_told {H : Type} {enc : TypeId × Value → H} {W : World} {fuel : Nat} {p : Option Addr} {len cap : Nat} {x : DataW H × List MemPlace}
    (h : DataW.trod enc Try.prog W 0 (fun _ => true) true fuel 37 [.slice p len cap] = some x) :
    ∃ vs : List Vl, vs.length = len ∧ Vals W p vs ∧ (∀ v ∈ vs, v.fits) ∧ (p = none → cap = 0) ∧ ((∀ n ∈ x.1.weights Try.prog 37, n ≤ reachBytes) → len * 16 ≤ reachBytes) := by
  rcases Go.Deep.open_slice Try.underlying37 h with ⟨hcs, _⟩ | ⟨a, l, c, m, n, D, Pl, hcs, _, hl, hm, hmm, hx, hall⟩
  · simp at hcs
    obtain ⟨rfl, rfl, rfl⟩ := hcs
    exact ⟨[], rfl, by intro j v hj; simp at hj, by simp, fun _ => rfl, fun _ => by simp⟩
  · simp at hcs
    obtain ⟨rfl, rfl, rfl⟩ := hcs
    simp at hmm
    subst hmm
    have key : ∀ j, j < len → ∃ v : Vl, v.fits ∧ ∃ b0 off : Nat, some a = some ⟨b0, off, none⟩ ∧ W.cell? ⟨b0, off + j * 2, none⟩ = some (.int .u8 v.k) ∧ W.cell? ⟨b0, off + j * 2 + 1, none⟩ = some (.int .i64 v.n) := by
      intro j hj
      obtain ⟨cs, hc, ht⟩ := hall j (by omega)
      rw [cellsVal] at hc
      obtain ⟨xs, n', _, _, hl6, hx6, hf⟩ := DataW.trod_struct Try.underlying26 ht
      rw [cellsVal] at hl6
      obtain ⟨_, hcl, hcc⟩ := World.cells?_some hc
      obtain ⟨b0, off, spot⟩ := a
      have hspot : spot = none := by
        obtain ⟨cs0, hc0, _⟩ := hall 0 (by omega)
        rw [cellsVal] at hc0
        obtain ⟨_, hcl0, hcc0⟩ := World.cells?_some hc0
        have h0 := hcc0 0 (by omega)
        rw [List.getElem?_eq_getElem (by omega)] at h0
        simpa [Addr.add] using World.cell?_spot h0
      subst hspot
      match cs, hl6, xs, hx6 with
      | [c0, c1], _, [y0, y1], _ =>
        obtain ⟨x0, h0, _, w0⟩ := DataW.trod_int Try.underlying24 (hf 0 _ rfl)
        obtain ⟨x1, h1, _, w1⟩ := DataW.trod_int Try.underlying2 (hf 1 _ rfl)
        have k0 : Try.prog.cellsOf 24 = 1 := by kernel_rfl
        have k1 : Try.prog.cellsOf 2 = 1 := by kernel_rfl
        simp [k0, k1] at h0 h1
        subst h0 h1
        obtain ⟨m0, rfl, b0'⟩ := nat_u8 w0
        refine ⟨⟨m0, x1⟩, ⟨b0', i64_wf w1⟩, b0, off, rfl, ?_, ?_⟩
        · have := hcc 0 (by omega)
          rw [Addr.add_lit, Addr.add_lit] at this
          simpa using this
        · have := hcc 1 (by omega)
          rw [Addr.add_lit, Addr.add_lit] at this
          simpa using this
    obtain ⟨vs, hvl, hvs⟩ := list_of (P := fun j (v : Vl) => v.fits ∧ ∃ b0 off : Nat, some a = some ⟨b0, off, none⟩ ∧ W.cell? ⟨b0, off + j * 2, none⟩ = some (.int .u8 v.k) ∧ W.cell? ⟨b0, off + j * 2 + 1, none⟩ = some (.int .i64 v.n)) len key
    refine ⟨vs, hvl, fun j v hj => (hvs j v hj).2, ?_, (fun e => by cases e), fun hw => ?_⟩
    · intro v hv
      obtain ⟨j, hj⟩ := List.mem_iff_getElem?.1 hv
      exact (hvs j v hj).1
    · have := hw ((len + (m - len)) * 16) (by rw [hx]; simp [DataW.weights, Try.underlying37, bytesVal])
      omega

set_option maxRecDepth 20000 in
theorem objs_told {H : Type} {enc : TypeId × Value → H} {W : World} {fuel : Nat} {p : Option Addr} {len cap : Nat} {x : DataW H × List MemPlace}
    (h : DataW.trod enc Try.prog W 0 (fun _ => true) true fuel 23 [.slice p len cap] = some x) (hw : ∀ n ∈ x.1.weights Try.prog 23, n ≤ reachBytes) :
    ∃ S : List Om, S.length = len ∧ IsSt W p S ∧ (∀ o ∈ S, o.fits ∧ o.s.size ≤ reachBytes ∧ o.l.length * 16 ≤ reachBytes) ∧ (p = none → cap = 0) ∧ len * 64 ≤ reachBytes := by
  rcases Go.Deep.open_slice Try.underlying23 h with ⟨hcs, _⟩ | ⟨a, l, c, m, n, D, Pl, hcs, _, hl, hm, hmm, hx, hall⟩
  · simp at hcs
    obtain ⟨rfl, rfl, rfl⟩ := hcs
    exact ⟨[], rfl, by intro j v hj; simp at hj, by simp, fun _ => rfl, by simp⟩
  · simp at hcs
    obtain ⟨rfl, rfl, rfl⟩ := hcs
    simp at hmm
    subst hmm
    have hW2 : ∀ j, j < len → ∀ n ∈ (D j).weights Try.prog 39, n ≤ reachBytes := by
      intro j hj n hn
      refine hw n ?_
      rw [hx]
      simp only [DataW.weights, Try.underlying23]
      refine List.mem_cons_of_mem _ (List.mem_append_left _ (weightsAll_mem (d := D j) (List.mem_map.2 ⟨j, by simp [hj], rfl⟩) hn))
    have key : ∀ j, j < len → ∃ o : Om, (o.fits ∧ o.s.size ≤ reachBytes ∧ o.l.length * 16 ≤ reachBytes) ∧ ∃ b0 off : Nat, some a = some ⟨b0, off, none⟩ ∧ W.cell? ⟨b0, off + j * 5, none⟩ = some (.int .u8 o.k) ∧ W.cell? ⟨b0, off + j * 5 + 1, none⟩ = some (.string o.s) ∧
        (∃ q c, W.cell? ⟨b0, off + j * 5 + 2, none⟩ = some (.slice q o.l.length c) ∧ Vals W q o.l ∧ (q = none → c = 0)) ∧ W.cell? ⟨b0, off + j * 5 + 3, none⟩ = some (.int .i64 o.room) ∧ W.cell? ⟨b0, off + j * 5 + 4, none⟩ = some (.int .i64 o.fn) := by
      intro j hj
      obtain ⟨cs, hc, ht⟩ := hall j (by omega)
      rw [cellsObj] at hc
      have hDw := hW2 j hj
      generalize D j = dj at *
      obtain ⟨xs, n', _, hdx, hl6, hx6, hf⟩ := DataW.trod_struct Try.underlying39 ht
      rw [cellsObj] at hl6
      obtain ⟨_, hcl, hcc⟩ := World.cells?_some hc
      obtain ⟨b0, off, spot⟩ := a
      have hspot : spot = none := by
        obtain ⟨cs0, hc0, _⟩ := hall 0 (by omega)
        rw [cellsObj] at hc0
        obtain ⟨_, hcl0, hcc0⟩ := World.cells?_some hc0
        have h0 := hcc0 0 (by omega)
        rw [List.getElem?_eq_getElem (by omega)] at h0
        simpa [Addr.add] using World.cell?_spot h0
      subst hspot
      match cs, hl6, xs, hx6 with
      | [c0, c1, c2, c3, c4], _, [y0, y1, y2, y3, y4], _ =>
        obtain ⟨x0, h0, _, w0⟩ := DataW.trod_int Try.underlying24 (hf 0 _ rfl)
        obtain ⟨s1, h1, hs1, w1⟩ := DataW.trod_string Try.underlying9 (hf 1 _ rfl)
        have h2 := hf 2 _ rfl
        obtain ⟨x3, h3, _, w3⟩ := DataW.trod_int Try.underlying3 (hf 3 _ rfl)
        obtain ⟨x4, h4, _, w4⟩ := DataW.trod_int Try.underlying3 (hf 4 _ rfl)
        have k0 : Try.prog.cellsOf 24 = 1 := by kernel_rfl
        have k1 : Try.prog.cellsOf 9 = 1 := by kernel_rfl
        have k2 : Try.prog.cellsOf 37 = 1 := by kernel_rfl
        have k3 : Try.prog.cellsOf 3 = 1 := by kernel_rfl
        simp [k0] at h0
        simp [k1] at h1
        simp [k2] at h2
        simp [k3] at h3 h4
        subst h0 h1 h3 h4
        obtain ⟨q, ln, cp, rfl⟩ : ∃ q ln cp, c2 = .slice q ln cp := by
          rcases Go.Deep.open_slice Try.underlying37 h2 with ⟨hcs, _⟩ | ⟨a, l, c, m, n, D, Pl, hcs, _⟩
          · simp at hcs; exact ⟨_, _, _, hcs⟩
          · simp at hcs; exact ⟨_, _, _, hcs⟩
        obtain ⟨vs, rfl, hv1, hv2, hv3, hv4⟩ := vals_told h2
        obtain ⟨m0, rfl, b0'⟩ := nat_u8 w0
        simp only [Prod.mk.injEq] at hdx
        have hwt : ∀ n, n ∈ y1.1.weights Try.prog 9 ∨ n ∈ y2.1.weights Try.prog 37 → n ≤ reachBytes := by
          intro n hn
          refine hDw n ?_
          rw [hdx.1]
          simp only [DataW.weights, Try.underlying39, List.map_cons, List.map_nil, DataW.weightsEach, List.mem_append]
          rcases hn with hn | hn
          · exact .inr (.inl hn)
          · exact .inr (.inr (.inl hn))
        refine ⟨⟨m0, s1, vs, x3, x4⟩, ⟨⟨b0', hv2, i64_wf w3, i64_wf w4⟩, ?_, hv4 (fun n hn => hwt n (.inr hn))⟩, b0, off, rfl, ?_, ?_, ⟨q, cp, ?_, hv1, hv3⟩, ?_, ?_⟩
        · refine hwt _ (.inl ?_)
          rw [hs1]
          simp [DataW.weights]
        · have := hcc 0 (by omega)
          rw [Addr.add_lit, Addr.add_lit] at this
          simpa using this
        · have := hcc 1 (by omega)
          rw [Addr.add_lit, Addr.add_lit] at this
          simpa using this
        · have := hcc 2 (by omega)
          rw [Addr.add_lit, Addr.add_lit] at this
          simpa using this
        · have := hcc 3 (by omega)
          rw [Addr.add_lit, Addr.add_lit] at this
          simpa using this
        · have := hcc 4 (by omega)
          rw [Addr.add_lit, Addr.add_lit] at this
          simpa using this
    obtain ⟨S, hSl, hS⟩ := list_of (P := fun j (o : Om) => (o.fits ∧ o.s.size ≤ reachBytes ∧ o.l.length * 16 ≤ reachBytes) ∧ ∃ b0 off : Nat, some a = some ⟨b0, off, none⟩ ∧ W.cell? ⟨b0, off + j * 5, none⟩ = some (.int .u8 o.k) ∧ W.cell? ⟨b0, off + j * 5 + 1, none⟩ = some (.string o.s) ∧
        (∃ q c, W.cell? ⟨b0, off + j * 5 + 2, none⟩ = some (.slice q o.l.length c) ∧ Vals W q o.l ∧ (q = none → c = 0)) ∧ W.cell? ⟨b0, off + j * 5 + 3, none⟩ = some (.int .i64 o.room) ∧ W.cell? ⟨b0, off + j * 5 + 4, none⟩ = some (.int .i64 o.fn)) len key
    refine ⟨S, hSl, fun j o hj => (hS j o hj).2, ?_, (fun e => by cases e), ?_⟩
    · intro o ho
      obtain ⟨j, hj⟩ := List.mem_iff_getElem?.1 ho
      exact (hS j o hj).1
    · have := hw ((len + (m - len)) * 64) (by rw [hx]; simp [DataW.weights, Try.underlying23, bytesObj])
      omega

end Go.Proofs.Ytgokofomoachaaa
