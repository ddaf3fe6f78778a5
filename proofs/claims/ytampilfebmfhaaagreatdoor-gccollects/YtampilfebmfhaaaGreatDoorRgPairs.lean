/- The document's pairs: at which words an object's values begin. -/
import Derived.Test.YtampilfebmfhaaaGreatDoorRgLeads
import Derived.Test.YtampilfebmfhaaaGreatDoorSame
namespace Go.Proofs.YtampilfebmfhaaaGreatDoor
set_option linter.unusedVariables false
set_option linter.unusedSimpArgs false
open Go.RowKit

variable {n₀ br all en : Nat} {vo : Value} {w : World} {R : List (Ob × Value)}

def pix : Nat → List Nat → List Nat
  | i, _ :: _ :: r => i :: pix (i + 2) r
  | _, _ => []

theorem pix_step {ws : List Nat} {i : Nat} (h : i + 1 < ws.length) : pix i (ws.drop i) = i :: pix (i + 2) (ws.drop (i + 2)) := by
  rw [List.drop_eq_getElem_cons (show i < ws.length by omega), List.drop_eq_getElem_cons h]
  rfl

theorem pix_end {ws : List Nat} {i : Nat} (h : ws.length ≤ i + 1) : pix i (ws.drop i) = [] := by
  have : (ws.drop i).length ≤ 1 := by simp; omega
  match e : ws.drop i with
  | [] => rfl
  | [_] => rfl
  | _ :: _ :: _ => rw [e] at this; simp at this

/-- At which words an object's values begin. -/
def pairsI (o : Ob) : List Nat := if o.kind = 8 then pix 0 o.ws else if o.kind = 6 then pix 1 (o.ws.drop 1) else if o.kind = 7 then pix 0 (o.ws.take 2) else []

theorem info3 : (Tryz.prog.info? 3).map (fun i => (i.zero, i.size, i.bytes)) = some (some (.int .i64 0), 1, 8) := by kernel_rfl

set_option maxRecDepth 20000 in
set_option maxHeartbeats 2000000 in
theorem pairs_all (f k a : Nat) (hf : f ≤ 1) (hk : ((k : Int) == 7) = false) (hfk : firstI k = f) (ws : List Nat) (hwl : ws.length < 1048576) (gw cw : Nat) (w : World) :
    Calls Tryz.prog 102 #[.agg #[.int .i64 a, .int .u8 k, .slice (some ⟨gw, 0, none⟩) ws.length cw]] w fun e w' => ∃ p c, e = .returned (.slice p (pix f (ws.drop f)).length c) ∧
      w'.ownsRow w.heap.size 3 1 (.slice p (pix f (ws.drop f)).length c) (pix f (ws.drop f)).length ((pix f (ws.drop f)).map pv) ∧ Below w.heap.size w w' := by
  have H1 := fun w' => first_in k w'
  rw [hfk] at H1
  obtain ⟨i0, hi, hz0, hz1, hz2⟩ := info_parts info3
  clear hfk
  have hf0 : (0 : Int) ≤ (f : Int) := by omega
  obtain ⟨L, hL⟩ : ∃ L, pix f (ws.drop f) = L := ⟨_, rfl⟩
  rw [hL]
  go_enter Tryz.func102, Tryz.ntmps102
  go_wp2_with (first
    | (go_at_call 179; refine (H1 _).mono ?_; clear H1; rintro e w' ⟨rfl, rfl⟩))
  obtain ⟨W0, hW0⟩ : ∃ W0, w.alloc (.cells #[.int .i64 a, .int .u8 k, .slice (some ⟨gw, 0, none⟩) ws.length cw] 85) = W0 := ⟨_, rfl⟩
  have hbx : W0.heap[w.heap.size]? = some (.cells #[.int .i64 a, .int .u8 k, .slice (some ⟨gw, 0, none⟩) ws.length cw] 85 (0, 0)) := hW0 ▸ heap_alloc_new w _
  have hBw : Below w.heap.size w W0 := hW0 ▸ below1 w _
  have hsz0 : w.heap.size < W0.heap.size := by rw [← hW0]; simp
  rw [hW0]
  clear hW0
  go_loopw [3, 5] (fun out i wr => ∃ (pre : List Nat) (j : Nat), i = .int .i64 j ∧ L = pre ++ pix j (ws.drop j) ∧ j ≤ ws.length + 2 ∧ pre.length ≤ j ∧ wr.ownsRow W0.heap.size 3 1 out pre.length (pre.map pv) ∧ Below W0.heap.size W0 wr) (fun _ i _ => ws.length + 2 - (intOf i).toNat)
  case atStart => exact ⟨[], f, rfl, by simp [hL], by omega, by simp, World.ownsRow_nil _ _ _ _, Below.refl _ _⟩
  case round =>
    obtain ⟨pre, j, rfl, hR, hj, hpj, hrow, hB⟩ := hrel
    have hb := (hB.block w.heap.size hsz0).trans hbx
    have c1 : wr.cell? ⟨w.heap.size, 1, none⟩ = some (.int .u8 k) := by rw [cell_of_row wr _ 1 _ _ _ hb]; rfl
    have c2 : wr.cell? ⟨w.heap.size, 2, none⟩ = some (.slice (some ⟨gw, 0, none⟩) ws.length cw) := by rw [cell_of_row wr _ 2 _ _ _ hb]; rfl
    by_cases hlt : j + 1 < ws.length
    · rw [pix_step hlt] at hR
      have HR : Hid _ := hR
      have hlt' : (j : Int) + 1 < (ws.length : Int) := by omega
      have hsz := hB.size
      clear hR
      go_wp2_with (at_builtin; refine wpList_append_own _ rfl _ _ 107 rfl W0.heap.size 3 i0 (.int .i64 0) 1 8 Tryz.underlying107 hi hz0 hz1 hz2 rfl (by decide) _ pre.length _ rfl (hrow.alloc _) ⟨wr.heap.size, 0, none⟩ 1 1 [.int .i64 j] rfl rfl (cell_one_new _ _ _) (by simp [Value.oneCell']) (by unfold maxLen; omega) (by omega) (by simp; omega) ?_; intro v4 w4 hown4 hgrow4 _; have hB4 : Below W0.heap.size wr w4 := ((Below.refl _ _).alloc hsz _).trans (rbelow_grown hgrow4 (fun q e => (hrow.lt q e).1) (by simp; omega)); have c3 := (hB4.cell (p := ⟨w.heap.size, 1, none⟩) hsz0).trans c1)
      go_roundw
      case rel =>
        refine ⟨pre ++ [j], j + 2, by simp, by have := HR.out; simpa using this, by omega, by simp; omega, by simpa [pv] using hown4, hB.trans hB4⟩
      case measure => simp [intOf]; omega
    · rw [pix_end (by omega)] at hR
      have hR' : L = pre := by simpa using hR
      have HR : Hid _ := hR'
      have hlt' : ¬ ((j : Int) + 1 < (ws.length : Int)) := by omega
      obtain ⟨p1, c1', hv, _, _⟩ := IsAr.row_form hrow
      have E2 : Hid _ := hv
      clear hR hR' hv
      go_wp2
      go_ret
      have e := E2.out
      refine ⟨p1, c1', ?_, ?_, hBw.trans (hB.mono (by omega))⟩
      · rw [HR.out, ← e]; rfl
      · rw [HR.out, ← e]; exact row_mono hrow (by omega)

end Go.Proofs.YtampilfebmfhaaaGreatDoor
