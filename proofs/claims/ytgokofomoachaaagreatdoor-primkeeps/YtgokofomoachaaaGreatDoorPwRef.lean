/- append on lists of values: what a run of it comes to. -/
import Derived.Test.YtgokofomoachaaaGreatDoorPoText
import Derived.Deep.RegionLaw
import Derived.Deep.AppendLies
import Derived.Test.YtgokofomoachaaaGreatDoorPnMake
import Derived.Test.YtgokofomoachaaaGreatDoorPnList
namespace Go.Proofs.YtgokofomoachaaaGreatDoor
set_option linter.unusedVariables false
set_option linter.unusedSimpArgs false
open Go.RowKit

variable {w : World}

theorem infoVq : (Tryz.prog.info? 27).map (fun i => (i.zero, i.size, i.bytes)) = some (some (.agg #[.int .u8 0, .int .i64 0]), 2, 16) := by kernel_rfl

theorem row_two {base g n c j : Nat} {l : List Vl} (h : w.ownsRow base 27 2 (.slice (some ⟨g, 0, none⟩) n c) n (vcells l)) (hj : j < n) : (∃ a, w.cell? ⟨g, j * 2, none⟩ = some a) ∧ (∃ a, w.cell? ⟨g, j * 2 + 1, none⟩ = some a) ∧ ∀ k, w.frozen? ⟨g, k, none⟩ = false := by
  have hl := h.1
  obtain ⟨cur, hc⟩ := row_obj h (k := g) rfl
  refine ⟨⟨(vcells l)[j * 2]'(by omega), ?_⟩, ⟨(vcells l)[j * 2 + 1]'(by omega), ?_⟩, fun k => frozen_of_row w g k _ _ hc⟩
  · rw [h.cellAt _ (by omega)]; exact List.getElem?_eq_getElem _
  · rw [h.cellAt _ (by omega)]; exact List.getElem?_eq_getElem _

theorem vt_of_row {base g n c : Nat} {l : List Vl} (h : w.ownsRow base 27 2 (.slice (some ⟨g, 0, none⟩) n c) n (vcells l)) : VT w (some ⟨g, 0, none⟩) l := by
  have hn : n = l.length := by have := h.1; rw [vcells_len] at this; omega
  subst hn
  exact ⟨fun j v hj => ⟨g, 0, rfl, by simpa using (row_vals h rfl hj).1, by simpa using (row_vals h rfl hj).2⟩, fun ad e => by cases e; exact row_obj h rfl⟩

theorem app2 {base B n : Nat} {v4 : Value} {l more : List Vl} (hb : base ≤ w.heap.size) (hown : w.ownsRow base 27 2 v4 n (vcells l)) (hn : n ≤ 131072) (hv : Vals w (some ⟨B, 0, none⟩) more) (h0 : 0 < more.length) (hm : more.length ≤ 2) : ∃ g5 c5 w5, (Builtin.append_ #[47, 47] 47 #[v4, .slice (some ⟨B, 0, none⟩) more.length more.length]).run Tryz.prog w = .ok (.slice (some ⟨g5, 0, none⟩) (n + more.length) c5) w5 ∧ w5.ownsRow base 27 2 (.slice (some ⟨g5, 0, none⟩) (n + more.length) c5) (n + more.length) (vcells (l ++ more)) ∧ Below base w w5 := by
  obtain ⟨i0, hi, hz0, hz1, hz2⟩ := info_parts infoVq
  obtain ⟨b0, off, e, -, hvc⟩ := vals_cells hv h0
  obtain ⟨v5, w5, h1, h2, h3, -⟩ := run_append_own (P := Tryz.prog) (w := w) base 47 47 27 i0 (.agg #[.int .u8 0, .int .i64 0]) 2 16 Tryz.underlying47 hi hz0 hz1 hz2 rfl (by decide) v4 n (vcells l) hown ⟨B, 0, none⟩ more.length more.length (vcells more) (vcells_len _) hvc (vcells_one _) (by unfold maxLen; omega) (by omega) hb
  rw [← vcells_append] at h2
  obtain ⟨p5, c5, rfl, -, -, hp5⟩ := row_form h2
  obtain ⟨g5, rfl⟩ := hp5 (by omega)
  exact ⟨g5, c5, w5, h1, h2, rbelow_grown h3 (fun q e => (hown.lt q e).1) hb⟩

end Go.Proofs.YtgokofomoachaaaGreatDoor

namespace Go.Proofs.YtgokofomoachaaaGreatDoor
set_option linter.unusedVariables false
set_option linter.unusedSimpArgs false
open Go.RowKit

variable {w : World}

end Go.Proofs.YtgokofomoachaaaGreatDoor

namespace Go.Proofs.YtgokofomoachaaaGreatDoor
set_option linter.unusedVariables false
set_option linter.unusedSimpArgs false
open Go.RowKit

variable {w : World}

theorem wpList_append_run {P : Program} {ops : Array Oper} {rest : List Oper} {o : Oper} {a : Act} {Q : Exit → Act → World → Prop} (hgd : o.guard = none) (s x : Operand) (t : TypeId)
    (ho : o.op = .call { callee := .builtin .append, args := #[s, x], argTypes := #[t, t] }) (vs vx r : Value) (w' : World) (hs : a.eval s = vs) (hx : a.eval x = vx)
    (hrun : (Builtin.append_ #[t, t] o.type #[vs, vx]).run P w = .ok r w') (h : wpList P ops Q rest (a.put o.dst r) w') : wpList P ops Q (o :: rest) a w :=
  wpList_plain hgd fun K hK => by
    unfold Oper.wp
    simp [execOp, ho, resolve, invoke, builtin, hs, hx, hrun, Result.andThen]
    exact hK _ _ h

end Go.Proofs.YtgokofomoachaaaGreatDoor
