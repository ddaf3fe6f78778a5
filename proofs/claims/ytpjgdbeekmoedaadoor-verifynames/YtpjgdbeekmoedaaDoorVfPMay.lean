/- The program's instructions: span, mayBe. -/
import Derived.Test.YtpjgdbeekmoedaaDoorVfPMakes
import Derived.Test.YtpjgdbeekmoedaaDoorVfPNext
namespace Go.Proofs.YtpjgdbeekmoedaaDoor
set_option linter.unusedVariables false
set_option linter.unusedSimpArgs false
open Go.RowKit Go.Maps

variable {w : World}

/-- The least and the greatest number of a kind. -/
def spanP (nf : Nat) (f : Fm) (pc k : Nat) : Int × Int :=
  if k = 2 then (0, (f.consts.length : Int) - 1) else if k = 3 then (0, f.locals - 1) else if k = 4 then (0, (f.caps.length : Int) - 1) else if k = 5 then (1, 9)
  else if k = 6 then ((pc : Int) + 1, (f.code.length : Int) - 1) else if k = 7 then (0, (pc : Int)) else if k = 8 then (0, 256) else if k = 9 then (1, (nf : Int) - 1) else (0, 0)

theorem number_row {nf : Nat} {f : Fm} {pc : Nat} {i : In} : numberP nf f pc i = (rowOk i.op && decide ((spanP nf f pc (rowP i.op).number).1 ≤ i.a ∧ i.a ≤ (spanP nf f pc (rowP i.op).number).2)) := by
  obtain ⟨op, a⟩ := i
  by_cases h : op < 31
  · rcases op_cases h with rfl | rfl | rfl | rfl | rfl | rfl | rfl | rfl | rfl | rfl | rfl | rfl | rfl | rfl | rfl | rfl | rfl | rfl | rfl | rfl | rfl | rfl | rfl | rfl | rfl | rfl | rfl | rfl | rfl | rfl | rfl <;> (simp [numberP, rowOk, rowP, rowsL, spanP] <;> rw [Bool.eq_iff_iff] <;> simp <;> omega)
  · unfold numberP rowOk
    simp only [rowP_over h]
    repeat rw [if_neg (by omega)]
    rw [decide_eq_false (by omega)]
    rfl

theorem ends_row {op : Nat} (h : (rowP op).ends = true) : endsP op = true ∨ op = 19 := by
  by_cases h31 : op < 31
  · rcases op_cases h31 with rfl | rfl | rfl | rfl | rfl | rfl | rfl | rfl | rfl | rfl | rfl | rfl | rfl | rfl | rfl | rfl | rfl | rfl | rfl | rfl | rfl | rfl | rfl | rfl | rfl | rfl | rfl | rfl | rfl | rfl | rfl <;> simp [rowP, rowsL] at h <;> simp [endsP]
  · rw [rowP_over h31] at h
    cases h

theorem row_ends {op : Nat} (h : endsP op = true) : (rowP op).ends = true := by
  unfold endsP at h
  simp at h
  rcases h with rfl | rfl | rfl <;> rfl

set_option maxRecDepth 20000 in
set_option maxHeartbeats 4000000 in
theorem span_in {bc b0 o off c k pc : Nat} {nf : Nat} {p : Option Addr} {f : Fm} {s : Fs} (hk : k ≤ 9) (hcf : w.cell? ⟨bc, 0, none⟩ = some (.slice p nf c)) (hp : FnP w b0 o f s) (hl0 : 0 ≤ f.locals) (hl1 : f.locals ≤ 64) (hnf : nf ≤ 256) (hpc : pc < f.code.length) (hcl : f.code.length ≤ 16384) (hkl : f.consts.length ≤ 16384) (hcp : f.caps.length ≤ 4096) :
    Calls Tryd.prog 59 #[.pointer (some ⟨bc, 0, none⟩), .int .u8 k, .pointer (some ⟨b0, o, none⟩), .int .i64 pc] w fun e w' => e = .returned (.tuple #[.int .i64 (spanP nf f pc k).1, .int .i64 (spanP nf f pc k).2]) ∧ Below w.heap.size w w' := by
  have c2 := hp.cell 2 _ rfl
  have c3 := hp.cell 3 _ rfl
  have c4 := hp.cell 4 _ rfl
  have c5 := hp.cell 5 _ rfl
  clear hp
  have hk10 : k = 0 ∨ k = 1 ∨ k = 2 ∨ k = 3 ∨ k = 4 ∨ k = 5 ∨ k = 6 ∨ k = 7 ∨ k = 8 ∨ k = 9 := by omega
  rcases hk10 with rfl | rfl | rfl | rfl | rfl | rfl | rfl | rfl | rfl | rfl
  · clear hk
    simp only [spanP]
    go_enter Tryd.func59, Tryd.ntmps59
    go_wp2
    go_ret2
    exact ⟨rfl, Below.refl _ _⟩
  · clear hk
    simp only [spanP]
    go_enter Tryd.func59, Tryd.ntmps59
    go_wp2
    go_ret2
    exact ⟨rfl, Below.refl _ _⟩
  · clear hk
    simp only [spanP]
    go_enter Tryd.func59, Tryd.ntmps59
    go_wp2
    go_quiet (fail)
    go_wp2
    go_ret2
    exact ⟨rfl, below_drewN (Below.refl _ _) _⟩
  · clear hk
    simp only [spanP]
    go_enter Tryd.func59, Tryd.ntmps59
    go_wp2
    go_quiet (fail)
    go_wp2
    go_ret2
    exact ⟨rfl, below_drewN (Below.refl _ _) _⟩
  · clear hk
    simp only [spanP]
    go_enter Tryd.func59, Tryd.ntmps59
    go_wp2
    go_quiet (fail)
    go_wp2
    go_ret2
    exact ⟨rfl, below_drewN (Below.refl _ _) _⟩
  · clear hk
    simp only [spanP]
    go_enter Tryd.func59, Tryd.ntmps59
    go_wp2
    go_ret2
    exact ⟨rfl, Below.refl _ _⟩
  · clear hk
    simp only [spanP]
    go_enter Tryd.func59, Tryd.ntmps59
    go_wp2
    go_quiet (fail)
    go_wp2
    go_ret2
    exact ⟨rfl, below_drewN (Below.refl _ _) _⟩
  · clear hk
    simp only [spanP]
    go_enter Tryd.func59, Tryd.ntmps59
    go_wp2
    go_ret2
    exact ⟨rfl, Below.refl _ _⟩
  · clear hk
    simp only [spanP]
    go_enter Tryd.func59, Tryd.ntmps59
    go_wp2
    go_ret2
    exact ⟨rfl, Below.refl _ _⟩
  · clear hk
    simp only [spanP]
    go_enter Tryd.func59, Tryd.ntmps59
    go_wp2
    go_quiet (fail)
    go_wp2
    go_ret2
    exact ⟨rfl, below_drewN (Below.refl _ _) _⟩

end Go.Proofs.YtpjgdbeekmoedaaDoor
