/- ObjectIsMap: long lists; what is told of the lists that came in. -/
import Derived.Test.YtkombdkhodjckaaIsMapWalk
import Derived.WalkKit
import Derived.ProofKit
import Derived.OpenShut
import Derived.ShutString
import Derived.ChangeOld
import Derived.Below
import Derived.Deep.Slices
namespace Go.Proofs.Ytkombdkhodjckaa
set_option linter.unusedVariables false
set_option linter.unusedSimpArgs false
open Go.ChangeShapes Go.WideShapes Go.ChangeAt Go.RowKit

set_option maxRecDepth 20000 in
set_option maxHeartbeats 1000000 in
theorem objectIsMap_long {n m : Nat} {pa pb : Option Addr} (ca cb : Nat) (w : World) (h : 60 < n ∨ 100 < m) (tb : Bool) :
    Calls Try.prog 4 #[.slice pa n ca, .slice pb m cb, .bool tb] w fun e w' => e = .returned (.bool true) ∧ Below w.heap.size w w' := by
  have AL := alive_in
  have hB0 := below1 w (.cells #[.bool tb] 4)
  have a1 := AL (w.alloc (.cells #[.bool tb] 4))
  by_cases h1 : 60 < n
  · have h1' : (60 : Int) < (n : Int) := by omega
    clear h h1
    go_enter Try.func4, Try.ntmps4
    go_wp2_with (first
      | (go_at_call 7; (with_reducible refine a1.mono ?_); clear a1; rintro e w1 ⟨rfl, hB1⟩; have hC1 := hB0.trans (hB1.mono hB0.size); have a2 := AL w1)
      | (go_at_call 7; (with_reducible refine a2.mono ?_); clear a2; rintro e w2 ⟨rfl, hB2⟩; have hC2 := hC1.trans (hB2.mono hC1.size)))
    go_ret
    exact ⟨rfl, hC2⟩
  · have h1' : ¬ (60 : Int) < (n : Int) := by omega
    have h2' : (100 : Int) < (m : Int) := by omega
    clear h h1
    go_enter Try.func4, Try.ntmps4
    go_wp2_with (first
      | (go_at_call 7; (with_reducible refine a1.mono ?_); clear a1; rintro e w1 ⟨rfl, hB1⟩; have hC1 := hB0.trans (hB1.mono hB0.size); have a2 := AL w1)
      | (go_at_call 7; (with_reducible refine a2.mono ?_); clear a2; rintro e w2 ⟨rfl, hB2⟩; have hC2 := hC1.trans (hB2.mono hC1.size)))
    go_ret
    exact ⟨rfl, hC2⟩

theorem pr_i64 {n : Int} (h : (Lit.int .i64 n).wf = true) : Rng n := by
  simp only [Lit.wf, IntKind.min, IntKind.max, IntKind.signed, IntKind.bits, Bool.and_eq_true] at h
  simp at h
  exact ⟨by omega, by omega⟩

theorem pr_list {α : Type} {P : Nat → α → Prop} : ∀ (n : Nat), (∀ j, j < n → ∃ v, P j v) → ∃ l : List α, l.length = n ∧ ∀ (j : Nat) (v : α), l[j]? = some v → P j v
  | 0, _ => ⟨[], rfl, by simp⟩
  | n + 1, h => by
    obtain ⟨l, hl, hP⟩ := pr_list n (fun j hj => h j (by omega))
    obtain ⟨v, hv⟩ := h n (by omega)
    refine ⟨l ++ [v], by simp [hl], ?_⟩
    intro j u hu
    by_cases hj : j < l.length
    · rw [List.getElem?_append_left hj] at hu; exact hP j u hu
    · rw [List.getElem?_append_right (by omega)] at hu
      have hj2 : j - l.length = 0 := by
        have := (List.getElem?_eq_some_iff.1 hu).1; simp at this; omega
      rw [hj2] at hu
      simp at hu
      subst hu
      rw [show j = n by omega]; exact hv

theorem cellsPr : Try.prog.cellsOf 46 = 2 := by kernel_rfl

set_option maxRecDepth 20000 in
theorem pairs_told {H : Type} {enc : TypeId × Value → H} {W : World} {fuel : Nat} {p : Option Addr} {len cap : Nat} {x : DataW H × List MemPlace}
    (h : DataW.trod enc Try.prog W 0 (fun _ => true) true fuel 40 [.slice p len cap] = some x) : ∃ xs : List (Int × Int), xs.length = len ∧ PairsT W p xs := by
  rcases Go.Deep.open_slice Try.underlying40 h with ⟨hcs, _⟩ | ⟨a, l, c, m, n, D, Pl, hcs, _, hl, hm, hmm, _, hall⟩
  · simp at hcs
    obtain ⟨rfl, rfl, rfl⟩ := hcs
    exact ⟨[], rfl, by intro j v hj; simp at hj⟩
  · simp at hcs
    obtain ⟨rfl, rfl, rfl⟩ := hcs
    simp at hmm
    subst hmm
    have key : ∀ j, j < len → ∃ q : Int × Int, (Rng q.1 ∧ Rng q.2) ∧ ∃ g off : Nat, some a = some ⟨g, off, none⟩ ∧ g < W.heap.size ∧ W.cell? ⟨g, off + j * 2, none⟩ = some (.int .i64 q.1) ∧ W.cell? ⟨g, off + j * 2 + 1, none⟩ = some (.int .i64 q.2) := by
      intro j hj
      obtain ⟨cs, hc, ht⟩ := hall j (by omega)
      rw [cellsPr] at hc
      obtain ⟨xs, n', _, _, hl6, hx6, hf⟩ := DataW.trod_array Try.underlying46 ht
      rw [cellsPr] at hl6
      obtain ⟨_, hcl, hcc⟩ := World.cells?_some hc
      obtain ⟨b0, off, spot⟩ := a
      have hspot : spot = none := by
        obtain ⟨cs0, hc0, _⟩ := hall 0 (by omega)
        rw [cellsPr] at hc0
        obtain ⟨_, hcl0, hcc0⟩ := World.cells?_some hc0
        have h0 := hcc0 0 (by omega)
        rw [List.getElem?_eq_getElem (by omega)] at h0
        simpa [Addr.add] using World.cell?_spot h0
      subst hspot
      match cs, hl6, xs, hx6 with
      | [c0, c1], _, [y0, y1], _ =>
        have k1 : Try.prog.cellsOf 2 = 1 := by kernel_rfl
        have f0 := hf 0 (by omega)
        have f1 := hf 1 (by omega)
        rw [k1] at f0 f1
        obtain ⟨x0, h0, _, w0⟩ := DataW.trod_int Try.underlying2 f0
        obtain ⟨x1, h1, _, w1⟩ := DataW.trod_int Try.underlying2 f1
        simp at h0 h1
        subst h0 h1
        have e0 : W.cell? ⟨b0, off + j * 2, none⟩ = some (.int .i64 x0) := by
          have := hcc 0 (by omega)
          rw [Addr.add_lit, Addr.add_lit] at this
          simpa using this
        refine ⟨(x0, x1), ⟨pr_i64 w0, pr_i64 w1⟩, b0, off, rfl, World.block_lt_of_cell? W ⟨b0, off + j * 2, none⟩ e0, e0, ?_⟩
        have := hcc 1 (by omega)
        rw [Addr.add_lit, Addr.add_lit] at this
        simpa using this
    exact pr_list (P := fun j (q : Int × Int) => (Rng q.1 ∧ Rng q.2) ∧ ∃ g off : Nat, some a = some ⟨g, off, none⟩ ∧ g < W.heap.size ∧ W.cell? ⟨g, off + j * 2, none⟩ = some (.int .i64 q.1) ∧ W.cell? ⟨g, off + j * 2 + 1, none⟩ = some (.int .i64 q.2)) len key

end Go.Proofs.Ytkombdkhodjckaa
