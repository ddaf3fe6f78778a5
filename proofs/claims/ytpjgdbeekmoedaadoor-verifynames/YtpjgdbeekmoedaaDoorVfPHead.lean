/- The program's head. -/
import Derived.Test.YtpjgdbeekmoedaaDoorVfPHead0
namespace Go.Proofs.YtpjgdbeekmoedaaDoor
set_option linter.unusedVariables false
set_option linter.unusedSimpArgs false
open Go.RowKit

variable {w : World}

theorem headP_iff (f : Fm) : headP f false = true ↔ (f.name.size ≤ 4096 ∧ 0 ≤ f.params ∧ f.params ≤ f.locals ∧ f.locals ≤ 64 ∧ f.caps.length ≤ 4096 ∧ f.consts.length ≤ 16384 ∧ f.consts.all constP = true ∧ 1 ≤ f.code.length ∧ f.code.length ≤ 16384 ∧ f.lines.length = f.code.length ∧ f.lines.all (fun n => decide (0 ≤ n)) = true ∧ f.hs.length ≤ 16384 ∧ f.hs.all (handP f.code.length) = true) := by
  unfold headP
  simp only [Bool.and_eq_true, decide_eq_true_eq]
  constructor
  · rintro ⟨⟨⟨⟨h1, h2, h3, h4, h5, h6, h7, h8, h9, h10, h11⟩, hk⟩, hl⟩, hh⟩
    exact ⟨h1, h2, h3, h4, h6, h7, hk, h9, h10, h11, hl, h8, hh⟩
  · rintro ⟨h1, h2, h3, h4, h6, h7, hk, h9, h10, h11, hl, h8, hh⟩
    exact ⟨⟨⟨⟨h1, h2, h3, h4, fun q => by simp at q, h6, h7, h8, h9, h10, h11⟩, hk⟩, hl⟩, hh⟩

theorem headP_main (f : Fm) : headP f true = (headP f false && (decide (f.params = 0) && decide (f.caps.length = 0))) := by
  rw [Bool.eq_iff_iff, Bool.and_eq_true, headP_iff]
  unfold headP
  simp only [Bool.and_eq_true, decide_eq_true_eq]
  constructor
  · rintro ⟨⟨⟨⟨h1, h2, h3, h4, h5, h6, h7, h8, h9, h10, h11⟩, hk⟩, hl⟩, hh⟩
    exact ⟨⟨h1, h2, h3, h4, h6, h7, hk, h9, h10, h11, hl, h8, hh⟩, by have := (h5 trivial).1; omega, (h5 trivial).2⟩
  · rintro ⟨⟨h1, h2, h3, h4, h6, h7, hk, h9, h10, h11, hl, h8, hh⟩, p1, p2⟩
    exact ⟨⟨⟨⟨h1, h2, h3, h4, fun _ => ⟨by omega, p2⟩, h6, h7, h8, h9, h10, h11⟩, hk⟩, hl⟩, hh⟩

/-- A function by a pointer, and the pointer in a box. -/
theorem head_facts {b0 o : Nat} {f : Fm} {s : Fs} {WA W : World} {bx : Nat} (hp : FnP WA b0 o f s) (hb : WA.cell? ⟨bx, 0, none⟩ = some (.pointer (some ⟨b0, o, none⟩))) (hbl : bx < WA.heap.size) (hB : Below WA.heap.size WA W) :
    W.cell? ⟨bx, 0, none⟩ = some (.pointer (some ⟨b0, o, none⟩)) ∧ W.cell? ⟨b0, o, none⟩ = some (.string f.name) ∧ W.cell? ⟨b0, o + 1, none⟩ = some (.int .i64 f.params) ∧ W.cell? ⟨b0, o + 2, none⟩ = some (.int .i64 f.locals) ∧ W.cell? ⟨b0, o + 3, none⟩ = some (.slice s.qc f.caps.length s.cc) ∧ W.cell? ⟨b0, o + 4, none⟩ = some (.slice s.qk f.consts.length s.ck) ∧ W.cell? ⟨b0, o + 5, none⟩ = some (.slice s.qi f.code.length s.ci) ∧ W.cell? ⟨b0, o + 6, none⟩ = some (.slice s.ql f.lines.length s.cl) ∧ W.cell? ⟨b0, o + 7, none⟩ = some (.slice s.qh f.hs.length s.ch) := by
  have h := hp.below hB
  exact ⟨(hB.cell (p := ⟨bx, 0, none⟩) hbl).trans hb, h.cell 0 _ rfl, h.cell 1 _ rfl, h.cell 2 _ rfl, h.cell 3 _ rfl, h.cell 4 _ rfl, h.cell 5 _ rfl, h.cell 6 _ rfl, h.cell 7 _ rfl⟩

end Go.Proofs.YtpjgdbeekmoedaaDoor
