/- What is told of a row of bytes that came in. -/
import Derived.Test.YtpjgdbeekmoedaaDoorVfTold2
import Derived.Test.YtpjgdbeekmoedaaDoorVfRuns0
namespace Go.Proofs.YtpjgdbeekmoedaaDoor
set_option linter.unusedVariables false
set_option linter.unusedSimpArgs false
open Go.ChangeShapes Go.WideShapes Go.ChangeAt Go.RowKit

theorem cellsOf_bytes : Tryd.prog.cellsOf 5 = 1 := by kernel_rfl

theorem bytesOf_bytes : Tryd.prog.bytesOf 5 = 1 := by kernel_rfl

set_option maxRecDepth 20000 in
theorem bytes_told {H : Type} {enc : TypeId × Value → H} {W : World} {fuel : Nat} {p : Option Addr} {len cap : Nat} {x : DataW H × List MemPlace}
    (h : DataW.trod enc Tryd.prog W 0 (fun _ => true) true fuel 30 [.slice p len cap] = some x) (hw : ∀ n ∈ x.1.weights Tryd.prog 30, n ≤ reachBytes) :
    ∃ l : List Nat, l.length = len ∧ RowAt u8C 1 W p l ∧ (∀ x ∈ l, x < 256) ∧ len * 1 ≤ reachBytes := by
  rcases Go.Deep.open_slice Tryd.underlying30 h with ⟨hcs, _⟩ | ⟨a, l, c, m, n, D, Pl, hcs, _, hl, hm, hmm, hx, hall⟩
  · simp at hcs
    obtain ⟨rfl, rfl, rfl⟩ := hcs
    exact ⟨[], rfl, RowAt.nil _ _ _ _, by simp, by simp⟩
  · simp at hcs
    obtain ⟨rfl, rfl, rfl⟩ := hcs
    simp at hmm
    subst hmm
    have key : ∀ j, j < len → ∃ x : Nat, (x < 256) ∧ ∃ b0 off : Nat, some a = some ⟨b0, off, none⟩ ∧ b0 < W.heap.size ∧ ∀ i u, (u8C x)[i]? = some u → W.cell? ⟨b0, off + j * 1 + i, none⟩ = some u := by
      intro j hj
      obtain ⟨cs, hc, ht⟩ := hall j (by omega)
      rw [cellsOf_bytes] at hc
      obtain ⟨_, hcl, hcc⟩ := World.cells?_some hc
      obtain ⟨b0, off, spot⟩ := a
      have hspot : spot = none := by
        obtain ⟨cs0, hc0, _⟩ := hall 0 (by omega)
        rw [cellsOf_bytes] at hc0
        obtain ⟨_, hcl0, hcc0⟩ := World.cells?_some hc0
        have h0 := hcc0 0 (by omega)
        rw [List.getElem?_eq_getElem (by omega)] at h0
        simpa [Addr.add] using World.cell?_spot h0
      subst hspot
      obtain ⟨z1, e0, _, w0⟩ := DataW.trod_int Tryd.underlying5 ht
      obtain ⟨z0, rfl, hz⟩ := nat_u8 w0
      subst e0
      have hcell : ∀ i u, (u8C z0)[i]? = some u → W.cell? ⟨b0, off + j * 1 + i, none⟩ = some u := by
        intro i u hu
        have hi : i < 1 := (List.getElem?_eq_some_iff.1 hu).1
        have := hcc i (by omega)
        rw [Addr.add_lit, Addr.add_lit] at this
        simp only [Nat.add_assoc] at this ⊢
        rw [this]
        exact hu
      exact ⟨z0, hz, b0, off, rfl, World.block_lt_of_cell? W ⟨b0, off + j * 1 + 0, none⟩ (hcell 0 _ rfl), hcell⟩
    obtain ⟨l', hl', hP⟩ := list_of (P := fun j (x : Nat) => (x < 256) ∧ ∃ b0 off : Nat, some a = some ⟨b0, off, none⟩ ∧ b0 < W.heap.size ∧ ∀ i u, (u8C x)[i]? = some u → W.cell? ⟨b0, off + j * 1 + i, none⟩ = some u) len key
    refine ⟨l', hl', fun j x hj => (hP j x hj).2, ?_, ?_⟩
    · intro x hx'
      obtain ⟨j, hj⟩ := List.mem_iff_getElem?.1 hx'
      exact (hP j x hj).1
    · have := hw ((len + (m - len)) * 1) (by rw [hx]; simp [DataW.weights, Tryd.underlying30, bytesOf_bytes])
      omega

end Go.Proofs.YtpjgdbeekmoedaaDoor
