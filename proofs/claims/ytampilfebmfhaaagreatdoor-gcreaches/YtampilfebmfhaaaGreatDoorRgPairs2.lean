/- The document's pairs: at which words an object's values begin. -/
import Derived.Test.YtampilfebmfhaaaGreatDoorRgLeads
import Derived.Test.YtampilfebmfhaaaGreatDoorSame
import Derived.Test.YtampilfebmfhaaaGreatDoorRgItems
namespace Go.Proofs.YtampilfebmfhaaaGreatDoor
set_option linter.unusedVariables false
set_option linter.unusedSimpArgs false
open Go.RowKit

variable {n₀ br all en : Nat} {vo : Value} {w : World} {R : List (Ob × Value)}

def pix : Nat → List Nat → List Nat
  | i, _ :: _ :: r => i :: pix (i + 2) r
  | _, _ => []

theorem pix_step {ws : List Nat} {i : Nat} (h : i + 1 < ws.length) : pix i (ws.drop i) = i :: pix (i + 2) (ws.drop (i + 2)) := by
  rw [List.drop_eq_getElem_cons (show i < ws.length by omega), List.drop_eq_getElem_cons h]
  rfl

theorem pix_end {ws : List Nat} {i : Nat} (h : ws.length ≤ i + 1) : pix i (ws.drop i) = [] := by
  have : (ws.drop i).length ≤ 1 := by simp; omega
  match e : ws.drop i with
  | [] => rfl
  | [_] => rfl
  | _ :: _ :: _ => rw [e] at this; simp at this

/-- At which words an object's values begin. -/
def pairsI (o : Ob) : List Nat := if o.kind = 8 then pix 0 o.ws else if o.kind = 6 then pix 1 (o.ws.drop 1) else if o.kind = 7 then pix 0 (o.ws.take 2) else []

theorem info3 : (Tryz.prog.info? 3).map (fun i => (i.zero, i.size, i.bytes)) = some (some (.int .i64 0), 1, 8) := by kernel_rfl

set_option maxRecDepth 20000 in
set_option maxHeartbeats 2000000 in
theorem pairs_all (f k a : Nat) (hf : f ≤ 1) (hk : ((k : Int) == 7) = false) (hfk : firstI k = f) (ws : List Nat) (hwl : ws.length < 1048576) (gw cw : Nat) (w : World) :
    Calls Tryz.prog 102 #[.agg #[.int .i64 a, .int .u8 k, .slice (some ⟨gw, 0, none⟩) ws.length cw]] w fun e w' => ∃ p c, e = .returned (.slice p (pix f (ws.drop f)).length c) ∧
      w'.ownsRow w.heap.size 3 1 (.slice p (pix f (ws.drop f)).length c) (pix f (ws.drop f)).length ((pix f (ws.drop f)).map pv) ∧ Below w.heap.size w w' := by
  have H1 := fun w' => first_in k w'
  rw [hfk] at H1
  obtain ⟨i0, hi, hz0, hz1, hz2⟩ := info_parts info3
  clear hfk
  have hf0 : (0 : Int) ≤ (f : Int) := by omega
  obtain ⟨L, hL⟩ : ∃ L, pix f (ws.drop f) = L := ⟨_, rfl⟩
  rw [hL]
  go_enter Tryz.func102, Tryz.ntmps102
  go_wp2_with (first
    | (go_at_call 179; refine (H1 _).mono ?_; clear H1; rintro e w' ⟨rfl, rfl⟩))
  obtain ⟨W0, hW0⟩ : ∃ W0, w.alloc (.cells #[.int .i64 a, .int .u8 k, .slice (some ⟨gw, 0, none⟩) ws.length cw] 85) = W0 := ⟨_, rfl⟩
  have hbx : W0.heap[w.heap.size]? = some (.cells #[.int .i64 a, .int .u8 k, .slice (some ⟨gw, 0, none⟩) ws.length cw] 85 (0, 0)) := hW0 ▸ heap_alloc_new w _
  have hBw : Below w.heap.size w W0 := hW0 ▸ below1 w _
  have hsz0 : w.heap.size < W0.heap.size := by rw [← hW0]; simp
  rw [hW0]
  clear hW0
  go_loopw [3, 5] (fun out i wr => ∃ (pre : List Nat) (j : Nat), i = .int .i64 j ∧ L = pre ++ pix j (ws.drop j) ∧ j ≤ ws.length + 2 ∧ pre.length ≤ j ∧ wr.ownsRow W0.heap.size 3 1 out pre.length (pre.map pv) ∧ Below W0.heap.size W0 wr) (fun _ i _ => ws.length + 2 - (intOf i).toNat)
  case atStart => exact ⟨[], f, rfl, by simp [hL], by omega, by simp, World.ownsRow_nil _ _ _ _, Below.refl _ _⟩
  case round =>
    obtain ⟨pre, j, rfl, hR, hj, hpj, hrow, hB⟩ := hrel
    have hb := (hB.block w.heap.size hsz0).trans hbx
    have c1 : wr.cell? ⟨w.heap.size, 1, none⟩ = some (.int .u8 k) := by rw [cell_of_row wr _ 1 _ _ _ hb]; rfl
    have c2 : wr.cell? ⟨w.heap.size, 2, none⟩ = some (.slice (some ⟨gw, 0, none⟩) ws.length cw) := by rw [cell_of_row wr _ 2 _ _ _ hb]; rfl
    by_cases hlt : j + 1 < ws.length
    · rw [pix_step hlt] at hR
      have HR : Hid _ := hR
      have hlt' : (j : Int) + 1 < (ws.length : Int) := by omega
      have hsz := hB.size
      clear hR
      go_wp2_with (at_builtin; refine wpList_append_own _ rfl _ _ 107 rfl W0.heap.size 3 i0 (.int .i64 0) 1 8 Tryz.underlying107 hi hz0 hz1 hz2 rfl (by decide) _ pre.length _ rfl (hrow.alloc _) ⟨wr.heap.size, 0, none⟩ 1 1 [.int .i64 j] rfl rfl (cell_one_new _ _ _) (by simp [Value.oneCell']) (by unfold maxLen; omega) (by omega) (by simp; omega) ?_; intro v4 w4 hown4 hgrow4 _; have hB4 : Below W0.heap.size wr w4 := ((Below.refl _ _).alloc hsz _).trans (rbelow_grown hgrow4 (fun q e => (hrow.lt q e).1) (by simp; omega)); have c3 := (hB4.cell (p := ⟨w.heap.size, 1, none⟩) hsz0).trans c1)
      go_roundw
      case rel =>
        refine ⟨pre ++ [j], j + 2, by simp, by have := HR.out; simpa using this, by omega, by simp; omega, by simpa [pv] using hown4, hB.trans hB4⟩
      case measure => simp [intOf]; omega
    · rw [pix_end (by omega)] at hR
      have hR' : L = pre := by simpa using hR
      have HR : Hid _ := hR'
      have hlt' : ¬ ((j : Int) + 1 < (ws.length : Int)) := by omega
      obtain ⟨p1, c1', hv, _, _⟩ := IsAr.row_form hrow
      have E2 : Hid _ := hv
      clear hR hR' hv
      go_wp2
      go_ret
      have e := E2.out
      refine ⟨p1, c1', ?_, ?_, hBw.trans (hB.mono (by omega))⟩
      · rw [HR.out, ← e]; rfl
      · rw [HR.out, ← e]; exact row_mono hrow (by omega)

end Go.Proofs.YtampilfebmfhaaaGreatDoor

namespace Go.Proofs.YtampilfebmfhaaaGreatDoor
set_option linter.unusedVariables false
set_option linter.unusedSimpArgs false
open Go.RowKit

variable {n₀ br all en : Nat} {vo : Value} {w : World} {R : List (Ob × Value)}

set_option maxRecDepth 20000 in
set_option maxHeartbeats 2000000 in
theorem pairs_cell (a : Nat) (ws : List Nat) (hwl : ws.length < 1048576) (gw cw : Nat) (w : World) :
    Calls Tryz.prog 102 #[.agg #[.int .i64 a, .int .u8 7, .slice (some ⟨gw, 0, none⟩) ws.length cw]] w fun e w' => ∃ p c, e = .returned (.slice p (pix 0 (ws.take 2)).length c) ∧
      w'.ownsRow w.heap.size 3 1 (.slice p (pix 0 (ws.take 2)).length c) (pix 0 (ws.take 2)).length ((pix 0 (ws.take 2)).map pv) ∧ Below w.heap.size w w' := by
  have H1 := fun w' => first_in 7 w'
  rw [show firstI 7 = 0 from rfl] at H1
  obtain ⟨i0, hi, hz0, hz1, hz2⟩ := info_parts info3
  obtain ⟨L, hL⟩ : ∃ L, pix 0 (ws.take 2) = L := ⟨_, rfl⟩
  rw [hL]
  go_enter Tryz.func102, Tryz.ntmps102
  go_wp2_with (first
    | (go_at_call 179; refine (H1 _).mono ?_; clear H1; rintro e w' ⟨rfl, rfl⟩))
  obtain ⟨W0, hW0⟩ : ∃ W0, w.alloc (.cells #[.int .i64 a, .int .u8 7, .slice (some ⟨gw, 0, none⟩) ws.length cw] 85) = W0 := ⟨_, rfl⟩
  have hbx : W0.heap[w.heap.size]? = some (.cells #[.int .i64 a, .int .u8 7, .slice (some ⟨gw, 0, none⟩) ws.length cw] 85 (0, 0)) := hW0 ▸ heap_alloc_new w _
  have hBw : Below w.heap.size w W0 := hW0 ▸ below1 w _
  have hsz0 : w.heap.size < W0.heap.size := by rw [← hW0]; simp
  rw [hW0]
  clear hW0
  go_loopw [3, 5] (fun out i wr => out = .slice none 0 0 ∧ i = .int .i64 0 ∧ wr = W0) (fun _ _ _ => 0)
  case atStart => exact ⟨rfl, rfl, rfl⟩
  case round =>
    obtain ⟨rfl, rfl, rfl⟩ := hrel
    have c1 : wr.cell? ⟨w.heap.size, 1, none⟩ = some (.int .u8 7) := by rw [cell_of_row wr _ 1 _ _ _ hbx]; rfl
    have c2 : wr.cell? ⟨w.heap.size, 2, none⟩ = some (.slice (some ⟨gw, 0, none⟩) ws.length cw) := by rw [cell_of_row wr _ 2 _ _ _ hbx]; rfl
    by_cases hlt : 1 < ws.length
    · have hlt' : (1 : Int) < (ws.length : Int) := by omega
      have hL' : L = [0] := by
        match ws, hlt with
        | x :: y :: r, _ => rw [← hL]; rfl
      have HL : Hid _ := hL'
      clear hL hL'
      go_wp2_with (at_builtin; refine wpList_append_own _ rfl _ _ 107 rfl wr.heap.size 3 i0 (.int .i64 0) 1 8 Tryz.underlying107 hi hz0 hz1 hz2 rfl (by decide) _ 0 [] rfl (World.ownsRow_nil _ _ _ _) ⟨wr.heap.size, 0, none⟩ 1 1 [.int .i64 0] rfl rfl (cell_one_new _ _ _) (by simp [Value.oneCell']) (by unfold maxLen; omega) (by omega) (by simp) ?_; intro v4 w4 hown4 hgrow4 _; have hB4 : Below wr.heap.size wr w4 := (below1 _ _).trans (rbelow_grown hgrow4 (fun q e => by have e' : Value.ownBlock (.slice none 0 0) = some q := e; simp [Value.ownBlock] at e') (by simp)); have c3 := (hB4.cell (p := ⟨w.heap.size, 1, none⟩) hsz0).trans c1; obtain ⟨g4, c4, rfl⟩ := ownsRow_succ hown4)
      go_ret
      refine ⟨some ⟨g4, 0, none⟩, c4, ?_, ?_, hBw.trans (hB4.mono (by omega))⟩
      · rw [HL.out]; rfl
      · rw [HL.out]; exact row_mono hown4 (by omega)
    · have hlt' : ¬ ((1 : Int) < (ws.length : Int)) := by omega
      have hL' : L = [] := by
        match ws, hlt with
        | [], _ => rw [← hL]; rfl
        | [x], _ => rw [← hL]; rfl
        | x :: y :: r, h => simp at h
      have HL : Hid _ := hL'
      clear hL hL'
      go_wp2
      go_ret
      refine ⟨none, 0, ?_, ?_, hBw⟩
      · rw [HL.out]; rfl
      · rw [HL.out]; exact World.ownsRow_nil _ _ _ _

set_option maxRecDepth 20000 in
set_option maxHeartbeats 2000000 in
theorem pairs_no (a k : Nat) (hk : firstI k = -1) (v : Value) (w : World) :
    Calls Tryz.prog 102 #[.agg #[.int .i64 a, .int .u8 k, v]] w fun e w' => e = .returned (.slice none 0 0) ∧ Below w.heap.size w w' := by
  have H1 := fun w' => first_in k w'
  rw [hk] at H1
  clear hk
  go_enter Tryz.func102, Tryz.ntmps102
  go_wp2_with (first
    | (go_at_call 179; refine (H1 _).mono ?_; clear H1; rintro e w' ⟨rfl, rfl⟩))
  obtain ⟨W0, hW0⟩ : ∃ W0, w.alloc (.cells #[.int .i64 a, .int .u8 k, v] 85) = W0 := ⟨_, rfl⟩
  have hBw : Below w.heap.size w W0 := hW0 ▸ below1 w _
  rw [hW0]
  clear hW0
  go_loopw [3, 5] (fun out i wr => out = .slice none 0 0 ∧ i = .int .i64 (-1) ∧ wr = W0) (fun _ _ _ => 0)
  case atStart => exact ⟨rfl, rfl, rfl⟩
  case round =>
    obtain ⟨rfl, rfl, rfl⟩ := hrel
    go_wp2
    go_ret
    exact ⟨rfl, hBw⟩

theorem rpairs_in (h : IsRf n₀ br vo w all en R) {x : Ob × Value} (hx : x ∈ R) :
    Calls Tryz.prog 102 #[agO x] w fun e w' => ∃ p c, e = .returned (.slice p (pairsI x.1).length c) ∧
      w'.ownsRow w.heap.size 3 1 (.slice p (pairsI x.1).length c) (pairsI x.1).length ((pairsI x.1).map pv) ∧ Below w.heap.size w w' := by
  obtain ⟨hw1, hw2⟩ := h.wrds x hx
  obtain ⟨gw, cw, hxv⟩ := wform hw1 hw2
  have hwl := (h.bnd x hx).2.1
  unfold agO
  rw [hxv]
  by_cases h8 : x.1.kind = 8
  · have e : pairsI x.1 = pix 0 (x.1.ws.drop 0) := by simp [pairsI, h8]
    rw [e, h8]
    exact pairs_all 0 8 _ (by omega) rfl rfl _ hwl gw cw w
  by_cases h6 : x.1.kind = 6
  · have e : pairsI x.1 = pix 1 (x.1.ws.drop 1) := by simp [pairsI, h6]
    rw [e, h6]
    exact pairs_all 1 6 _ (by omega) rfl rfl _ hwl gw cw w
  by_cases h7 : x.1.kind = 7
  · have e : pairsI x.1 = pix 0 (x.1.ws.take 2) := by simp [pairsI, h7]
    rw [e, h7]
    exact pairs_cell _ _ hwl gw cw w
  have e : pairsI x.1 = [] := by simp [pairsI, h8, h6, h7]
  rw [e]
  refine (pairs_no _ _ (by simp [firstI, h8, h6, h7]) _ w).mono ?_
  rintro e w' ⟨he, hB⟩
  exact ⟨none, 0, he, World.ownsRow_nil _ _ _ _, hB⟩

end Go.Proofs.YtampilfebmfhaaaGreatDoor
