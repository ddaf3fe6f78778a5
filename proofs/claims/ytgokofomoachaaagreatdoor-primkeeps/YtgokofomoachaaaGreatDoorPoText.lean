/- The document's operations on values: its store; a text is made. -/
import Derived.Test.YtgokofomoachaaaGreatDoorPoRef
import Derived.Deep.RegionLaw
import Derived.Deep.AppendLies
namespace Go.Proofs.YtgokofomoachaaaGreatDoor
set_option linter.unusedVariables false
set_option linter.unusedSimpArgs false
open Go.RowKit

variable {w : World}

/-- The document's heap, whole. -/
structure Rh (base : Nat) (w : World) (H : Nat) (S : List Om) (p : Option Addr) (c : Nat) (ts : List Po) : Prop where
  at_ : RhAt w H p S.length c
  low : base ≤ H
  mp : ts.map Po.o = S
  row : w.ownsRow base 96 5 (.slice p S.length c) S.length (pcells ts)
  lst : ∀ x ∈ ts, ∃ q cq, x.lv = .slice q x.o.l.length cq ∧ (q = none → cq = 0) ∧ VT w q x.o.l

theorem Rh.below {base H : Nat} {S : List Om} {p : Option Addr} {c : Nat} {ts : List Po} (h : Rh base w H S p c ts) {w' : World} (hB : Below w.heap.size w w') : Rh base w' H S p c ts :=
  ⟨h.at_.below hB, h.low, h.mp, row_below h.row hB, fun x hx => by obtain ⟨q, cq, e, hq, hv⟩ := h.lst x hx; exact ⟨q, cq, e, hq, hv.below hB⟩⟩

theorem Rh.kept {base H : Nat} {S : List Om} {p : Option Addr} {c : Nat} {ts : List Po} (h : Rh base w H S p c ts) {w' : World} (hk : ∀ (k : Nat) (cur : Array Value) (T : TypeId), w.heap[k]? = some (.cells cur T (0, 0)) → (T = 96 ∨ T = 27 ∨ T = 106) → w'.heap[k]? = w.heap[k]?) : Rh base w' H S p c ts :=
  ⟨(hk H _ _ h.at_ (.inr (.inr rfl))).trans h.at_, h.low, h.mp, row_kept h.row (fun k e => by obtain ⟨cur, hc⟩ := row_obj h.row e; exact hk k cur _ hc (.inl rfl)), fun x hx => by
    obtain ⟨q, cq, e, hq, hv⟩ := h.lst x hx
    have hb : ∀ ad, q = some ad → w'.heap[ad.block]? = w.heap[ad.block]? := fun ad ea => by obtain ⟨cs, hcs⟩ := hv.2 ad ea; exact hk _ cs _ hcs (.inr (.inl rfl))
    exact ⟨q, cq, e, hq, hv.1.kept_at hb, fun ad ea => by rw [hb ad ea]; exact hv.2 ad ea⟩⟩

theorem Rh.isSt {base H : Nat} {S : List Om} {p : Option Addr} {c : Nat} {ts : List Po} (h : Rh base w H S p c ts) : IsSt w p S := by
  have hl : ts.length = S.length := by rw [← h.mp]; simp
  obtain ⟨p', c', hv, hp, hg, -⟩ := own_slice h.row
  cases hv
  intro j o hj
  rw [← h.mp, List.getElem?_map] at hj
  cases hx : ts[j]? with
  | none => rw [hx] at hj; simp at hj
  | some x =>
    rw [hx] at hj; simp at hj; subst hj
    have hlt := (List.getElem?_eq_some_iff.1 hx).1
    obtain ⟨g, rfl⟩ := hg (by omega)
    obtain ⟨q, cq, hq, hqn, hvq⟩ := h.lst x (List.mem_of_getElem? hx)
    have hgt := pcells_get ts j x hx
    refine ⟨g, 0, rfl, ?_, ?_, ⟨q, cq, ?_, hvq.1, hqn⟩, ?_, ?_⟩
    · rw [h.row.cellAt _ (by omega)]; have := hgt 0 (by omega); simpa [pcell] using this
    · rw [h.row.cellAt _ (by omega), Nat.zero_add, hgt 1 (by omega)]; rfl
    · rw [h.row.cellAt _ (by omega), Nat.zero_add, hgt 2 (by omega)]; simp [pcell, hq]
    · rw [h.row.cellAt _ (by omega), Nat.zero_add, hgt 3 (by omega)]; rfl
    · rw [h.row.cellAt _ (by omega), Nat.zero_add, hgt 4 (by omega)]; rfl

end Go.Proofs.YtgokofomoachaaaGreatDoor
