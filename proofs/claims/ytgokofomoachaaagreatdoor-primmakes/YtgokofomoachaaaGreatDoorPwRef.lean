/- append on lists of values: what a run of it comes to. -/
import Derived.Test.YtgokofomoachaaaGreatDoorPoText
import Derived.Deep.RegionLaw
import Derived.Deep.AppendLies
import Derived.Test.YtgokofomoachaaaGreatDoorPnMake
import Derived.Test.YtgokofomoachaaaGreatDoorPnList
namespace Go.Proofs.YtgokofomoachaaaGreatDoor
set_option linter.unusedVariables false
set_option linter.unusedSimpArgs false
open Go.RowKit

variable {w : World}

theorem infoVq : (Tryz.prog.info? 27).map (fun i => (i.zero, i.size, i.bytes)) = some (some (.agg #[.int .u8 0, .int .i64 0]), 2, 16) := by kernel_rfl

theorem wrap_small {m : Nat} (h : m ≤ 1048576) : IntKind.i64.wrap (m : Int) = (m : Int) := by
  unfold IntKind.wrap
  simp [IntKind.bits, IntKind.signed]
  omega

theorem row_two {base g n c j : Nat} {l : List Vl} (h : w.ownsRow base 27 2 (.slice (some ⟨g, 0, none⟩) n c) n (vcells l)) (hj : j < n) : (∃ a, w.cell? ⟨g, j * 2, none⟩ = some a) ∧ (∃ a, w.cell? ⟨g, j * 2 + 1, none⟩ = some a) ∧ ∀ k, w.frozen? ⟨g, k, none⟩ = false := by
  have hl := h.1
  obtain ⟨cur, hc⟩ := row_obj h (k := g) rfl
  refine ⟨⟨(vcells l)[j * 2]'(by omega), ?_⟩, ⟨(vcells l)[j * 2 + 1]'(by omega), ?_⟩, fun k => frozen_of_row w g k _ _ hc⟩
  · rw [h.cellAt _ (by omega)]; exact List.getElem?_eq_getElem _
  · rw [h.cellAt _ (by omega)]; exact List.getElem?_eq_getElem _

theorem vt_of_row {base g n c : Nat} {l : List Vl} (h : w.ownsRow base 27 2 (.slice (some ⟨g, 0, none⟩) n c) n (vcells l)) : VT w (some ⟨g, 0, none⟩) l := by
  have hn : n = l.length := by have := h.1; rw [vcells_len] at this; omega
  subst hn
  exact ⟨fun j v hj => ⟨g, 0, rfl, by simpa using (row_vals h rfl hj).1, by simpa using (row_vals h rfl hj).2⟩, fun ad e => by cases e; exact row_obj h rfl⟩

theorem app1 {q : Option Addr} {l : List Vl} {co : Nat} (hv : Vals w q l) (hl : l.length ≤ 131072) : ∃ v4 w4, (Builtin.append_ #[47, 47] 47 #[.slice none 0 0, .slice q l.length co]).run Tryz.prog w = .ok v4 w4 ∧ w4.ownsRow w.heap.size 27 2 v4 l.length (vcells l) ∧ Below w.heap.size w w4 := by
  obtain ⟨i0, hi, hz0, hz1, hz2⟩ := info_parts infoVq
  have hn : w.ownsRow w.heap.size 27 2 (.slice none 0 0) 0 [] := ⟨rfl, .inl ⟨rfl, rfl⟩⟩
  cases l with
  | nil => exact ⟨_, _, run_append_own_empty w.heap.size _ _ _ i0 2 Tryz.underlying47 hi _ _ _ hn q co, hn, Below.refl _ _⟩
  | cons y r =>
    obtain ⟨ad, rfl⟩ := vals_ne hv (by simp)
    obtain ⟨b0, off, rfl, -, hvc⟩ := vals_cells hv (by simp)
    obtain ⟨v4, w4, h1, h2, h3, -⟩ := run_append_own (P := Tryz.prog) (w := w) w.heap.size 47 47 27 i0 (.agg #[.int .u8 0, .int .i64 0]) 2 16 Tryz.underlying47 hi hz0 hz1 hz2 rfl (by decide) (.slice none 0 0) 0 [] hn ⟨b0, off, none⟩ (y :: r).length co (vcells (y :: r)) (vcells_len _) hvc (vcells_one _) (by unfold maxLen; omega) (by omega) (Nat.le_refl _)
    rw [Nat.zero_add, List.nil_append] at h2
    exact ⟨v4, w4, h1, h2, rbelow_grown h3 (fun q e => by cases e) (Nat.le_refl _)⟩

theorem app2 {base B n : Nat} {v4 : Value} {l more : List Vl} (hb : base ≤ w.heap.size) (hown : w.ownsRow base 27 2 v4 n (vcells l)) (hn : n ≤ 131072) (hv : Vals w (some ⟨B, 0, none⟩) more) (h0 : 0 < more.length) (hm : more.length ≤ 2) : ∃ g5 c5 w5, (Builtin.append_ #[47, 47] 47 #[v4, .slice (some ⟨B, 0, none⟩) more.length more.length]).run Tryz.prog w = .ok (.slice (some ⟨g5, 0, none⟩) (n + more.length) c5) w5 ∧ w5.ownsRow base 27 2 (.slice (some ⟨g5, 0, none⟩) (n + more.length) c5) (n + more.length) (vcells (l ++ more)) ∧ Below base w w5 := by
  obtain ⟨i0, hi, hz0, hz1, hz2⟩ := info_parts infoVq
  obtain ⟨b0, off, e, -, hvc⟩ := vals_cells hv h0
  obtain ⟨v5, w5, h1, h2, h3, -⟩ := run_append_own (P := Tryz.prog) (w := w) base 47 47 27 i0 (.agg #[.int .u8 0, .int .i64 0]) 2 16 Tryz.underlying47 hi hz0 hz1 hz2 rfl (by decide) v4 n (vcells l) hown ⟨B, 0, none⟩ more.length more.length (vcells more) (vcells_len _) hvc (vcells_one _) (by unfold maxLen; omega) (by omega) hb
  rw [← vcells_append] at h2
  obtain ⟨p5, c5, rfl, -, -, hp5⟩ := row_form h2
  obtain ⟨g5, rfl⟩ := hp5 (by omega)
  exact ⟨g5, c5, w5, h1, h2, rbelow_grown h3 (fun q e => (hown.lt q e).1) hb⟩

end Go.Proofs.YtgokofomoachaaaGreatDoor

namespace Go.Proofs.YtgokofomoachaaaGreatDoor
set_option linter.unusedVariables false
set_option linter.unusedSimpArgs false
open Go.RowKit

variable {w : World}

set_option maxHeartbeats 1000000 in
theorem Size_row4 (o : Om) {q : Option Addr} {cq : Nat} (hk : o.k = 4) (h0 : 0 < o.room) (h1 : o.room ≤ 1099511627776) (w : World) : Calls Tryz.prog 179 #[.agg #[.int .u8 4, .string o.s, .slice q o.l.length cq, .int .i64 o.room, .int .i64 o.fn]] w fun e w' => e = .returned (.int .i64 (wordsO o : Nat)) ∧ Below w.heap.size w w' := by
  obtain ⟨⟨x0, x1, x2, x3, x4⟩, -⟩ := cell_row5 (heap_alloc_new w (.cells #[.int .u8 4, .string o.s, .slice q o.l.length cq, .int .i64 o.room, .int .i64 o.fn] 96))
  have e : ((wordsO o : Nat) : Int) = 4 + 2 * o.room := by
    unfold wordsO
    rw [if_neg (by omega), if_neg (by omega), if_pos ⟨by omega, h0⟩]
    omega
  rw [e]
  have hn : ¬ (o.room = 0) := by omega
  have hb : (o.room == 0) = false := by simpa using hn
  clear e hk
  go_enter Tryz.func179, Tryz.ntmps179
  go_wp2
  go_ret
  exact ⟨rfl, below1 _ _⟩

set_option maxHeartbeats 1000000 in
theorem Size_none4 (o : Om) {q : Option Addr} {cq : Nat} (hk : o.k = 4) (h0 : o.room = 0) (w : World) : Calls Tryz.prog 179 #[.agg #[.int .u8 4, .string o.s, .slice q o.l.length cq, .int .i64 o.room, .int .i64 o.fn]] w fun e w' => e = .returned (.int .i64 (wordsO o : Nat)) ∧ Below w.heap.size w w' := by
  obtain ⟨⟨x0, x1, x2, x3, x4⟩, -⟩ := cell_row5 (heap_alloc_new w (.cells #[.int .u8 4, .string o.s, .slice q o.l.length cq, .int .i64 o.room, .int .i64 o.fn] 96))
  have e : ((wordsO o : Nat) : Int) = 3 := by
    unfold wordsO
    rw [if_neg (by omega), if_neg (by omega), if_neg (by omega)]
    rfl
  rw [e]
  rw [h0] at x3
  rw [h0]
  clear e hk h0
  go_enter Tryz.func179, Tryz.ntmps179
  go_wp2
  go_ret
  exact ⟨rfl, below1 _ _⟩

set_option maxHeartbeats 1000000 in
theorem Size_row5 (o : Om) {q : Option Addr} {cq : Nat} (hk : o.k = 5) (h0 : 0 < o.room) (h1 : o.room ≤ 1099511627776) (w : World) : Calls Tryz.prog 179 #[.agg #[.int .u8 5, .string o.s, .slice q o.l.length cq, .int .i64 o.room, .int .i64 o.fn]] w fun e w' => e = .returned (.int .i64 (wordsO o : Nat)) ∧ Below w.heap.size w w' := by
  obtain ⟨⟨x0, x1, x2, x3, x4⟩, -⟩ := cell_row5 (heap_alloc_new w (.cells #[.int .u8 5, .string o.s, .slice q o.l.length cq, .int .i64 o.room, .int .i64 o.fn] 96))
  have e : ((wordsO o : Nat) : Int) = 4 + 2 * o.room := by
    unfold wordsO
    rw [if_neg (by omega), if_neg (by omega), if_pos ⟨by omega, h0⟩]
    omega
  rw [e]
  have hn : ¬ (o.room = 0) := by omega
  have hb : (o.room == 0) = false := by simpa using hn
  clear e hk
  go_enter Tryz.func179, Tryz.ntmps179
  go_wp2
  go_ret
  exact ⟨rfl, below1 _ _⟩

set_option maxHeartbeats 1000000 in
theorem Size_none5 (o : Om) {q : Option Addr} {cq : Nat} (hk : o.k = 5) (h0 : o.room = 0) (w : World) : Calls Tryz.prog 179 #[.agg #[.int .u8 5, .string o.s, .slice q o.l.length cq, .int .i64 o.room, .int .i64 o.fn]] w fun e w' => e = .returned (.int .i64 (wordsO o : Nat)) ∧ Below w.heap.size w w' := by
  obtain ⟨⟨x0, x1, x2, x3, x4⟩, -⟩ := cell_row5 (heap_alloc_new w (.cells #[.int .u8 5, .string o.s, .slice q o.l.length cq, .int .i64 o.room, .int .i64 o.fn] 96))
  have e : ((wordsO o : Nat) : Int) = 3 := by
    unfold wordsO
    rw [if_neg (by omega), if_neg (by omega), if_neg (by omega)]
    rfl
  rw [e]
  rw [h0] at x3
  rw [h0]
  clear e hk h0
  go_enter Tryz.func179, Tryz.ntmps179
  go_wp2
  go_ret
  exact ⟨rfl, below1 _ _⟩

set_option maxHeartbeats 1000000 in
theorem Size_fn (o : Om) {q : Option Addr} {cq : Nat} (hk : o.k = 6) (hl : o.l.length ≤ 1000000) (w : World) : Calls Tryz.prog 179 #[.agg #[.int .u8 6, .string o.s, .slice q o.l.length cq, .int .i64 o.room, .int .i64 o.fn]] w fun e w' => e = .returned (.int .i64 (wordsO o : Nat)) ∧ Below w.heap.size w w' := by
  obtain ⟨⟨x0, x1, x2, x3, x4⟩, -⟩ := cell_row5 (heap_alloc_new w (.cells #[.int .u8 6, .string o.s, .slice q o.l.length cq, .int .i64 o.room, .int .i64 o.fn] 96))
  have e : ((wordsO o : Nat) : Int) = 2 + 2 * (o.l.length : Int) := by
    unfold wordsO
    rw [if_neg (by omega), if_pos hk]
    omega
  rw [e]
  have hl' : (o.l.length : Int) ≤ 1000000 := by omega
  have hl0 : (0 : Int) ≤ (o.l.length : Int) := by omega
  clear e hk
  go_enter Tryz.func179, Tryz.ntmps179
  go_wp2
  go_ret
  exact ⟨rfl, below1 _ _⟩

set_option maxHeartbeats 1000000 in
theorem Size_cell (o : Om) {q : Option Addr} {cq : Nat} (hk : o.k = 7) (w : World) : Calls Tryz.prog 179 #[.agg #[.int .u8 7, .string o.s, .slice q o.l.length cq, .int .i64 o.room, .int .i64 o.fn]] w fun e w' => e = .returned (.int .i64 (wordsO o : Nat)) ∧ Below w.heap.size w w' := by
  obtain ⟨⟨x0, x1, x2, x3, x4⟩, -⟩ := cell_row5 (heap_alloc_new w (.cells #[.int .u8 7, .string o.s, .slice q o.l.length cq, .int .i64 o.room, .int .i64 o.fn] 96))
  have e : ((wordsO o : Nat) : Int) = 3 := by
    unfold wordsO
    rw [if_neg (by omega), if_neg (by omega), if_neg (by omega)]
    rfl
  rw [e]
  clear e hk
  go_enter Tryz.func179, Tryz.ntmps179
  go_wp2
  go_ret
  exact ⟨rfl, below1 _ _⟩

set_option maxRecDepth 20000 in
set_option maxHeartbeats 4000000 in
theorem rmade_in {base H : Nat} {S : List Om} {p : Option Addr} {c : Nat} {ts : List Po} (hR : Rh base w H S p c ts) (hbw : base ≤ w.heap.size) (hSl : S.length ≤ 1048576) (o : Om) {q : Option Addr} {cq : Nat} (hqn : q = none → cq = 0) (hvt : VT w q o.l) (HS0 : ∀ W, Calls Tryz.prog 179 #[.agg #[.int .u8 o.k, .string o.s, .slice q o.l.length cq, .int .i64 o.room, .int .i64 o.fn]] W fun e w' => e = .returned (.int .i64 (wordsO o : Nat)) ∧ Below W.heap.size W w') :
    Calls Tryz.prog 68 #[.pointer (some ⟨H, 0, none⟩), .agg #[.int .u8 o.k, .string o.s, .slice q o.l.length cq, .int .i64 o.room, .int .i64 o.fn], .bool false] w fun e w' => e = .returned (.agg #[.int .u8 o.k, .int .i64 ((S.length : Int) + 1), .string ⟨#[]⟩, .int .i64 (wordsO o : Nat)]) ∧ (∃ p' c' ts', Rh base w' H (S ++ [o]) p' c' ts') ∧ Below base w w' ∧ ∀ (k : Nat) (cur : Array Value), k < w.heap.size → w.heap[k]? = some (.cells cur 38 (0, 0)) → w'.heap[k]? = w.heap[k]? := by
  have hB := below2' w (.cells #[.int .u8 o.k, .string o.s, .slice q o.l.length cq, .int .i64 o.room, .int .i64 o.fn] 96) (.cells #[.int .u8 0, .int .i64 0, .string ⟨#[]⟩, .int .i64 0] 38)
  have e0 := (Below.heap_alloc _ (.cells #[.int .u8 0, .int .i64 0, .string ⟨#[]⟩, .int .i64 0] 38) w.heap.size (by simp)).trans (heap_alloc_new w (.cells #[.int .u8 o.k, .string o.s, .slice q o.l.length cq, .int .i64 o.room, .int .i64 o.fn] 96))
  have e1 := heap_two w (.cells #[.int .u8 o.k, .string o.s, .slice q o.l.length cq, .int .i64 o.room, .int .i64 o.fn] 96) (.cells #[.int .u8 0, .int .i64 0, .string ⟨#[]⟩, .int .i64 0] 38)
  have HS := HS0 ((w.alloc (.cells #[.int .u8 o.k, .string o.s, .slice q o.l.length cq, .int .i64 o.room, .int .i64 o.fn] 96)).alloc (.cells #[.int .u8 0, .int .i64 0, .string ⟨#[]⟩, .int .i64 0] 38))
  obtain ⟨⟨x0, x1, x2, x3, x4⟩, -⟩ := cell_row5 e0
  obtain ⟨i0, hi, hz0, hz1, hz2⟩ := info_parts infoO5
  have hHlt := (Array.getElem?_eq_some_iff.1 hR.at_).1
  have hlt0 := fun g e => hR.row.lt g e
  generalize (wordsO o : Nat) = wo at HS ⊢
  go_enter Tryz.func68, Tryz.ntmps68
  go_wp2_with (first
    | (go_at_call 179; (with_reducible refine HS.mono ?_); clear HS; rintro e w1 ⟨rfl, hB1⟩; refine halt_here ?_))
  unfold Halted
  have hBw := hB.trans (hB1.mono hB.size)
  have hBb : Below base w w1 := hBw.mono hbw
  have f0 := (hB1.block _ (Array.getElem?_eq_some_iff.1 e0).1).trans e0
  have f1 := (hB1.block _ (Array.getElem?_eq_some_iff.1 e1).1).trans e1
  have hR1 := hR.below hBw
  have hsz : w.heap.size + 2 ≤ w1.heap.size := by have := hB1.size; simp at this; omega
  clear x0 x1 x2 x3 x4 e0 e1 hR
  obtain ⟨⟨x0, x1, x2, x3, x4⟩, -⟩ := cell_row5 f0
  go_upto_region 4 with fail
  have hBX := below1 w1 (.cells #[.int .u8 o.k, .string o.s, .slice q o.l.length cq, .int .i64 o.room, .int .i64 o.fn] 96)
  have hcH := hR1.at_.cell
  have hcX := (hR1.at_.below hBX).cell
  obtain ⟨⟨u0, u1, u2, u3, u4⟩, -⟩ := cell_row5 ((hBX.block _ (Array.getElem?_eq_some_iff.1 f0).1).trans f0)
  have hrowX := row_below hR1.row hBX
  have hnews := pcell_news (x := ⟨o, .slice q o.l.length cq⟩) (heap_alloc_new w1 (.cells #[.int .u8 o.k, .string o.s, .slice q o.l.length cq, .int .i64 o.room, .int .i64 o.fn] 96))
  have hgne : ∀ g, (Value.slice p S.length c).ownBlock = some g → base ≤ g ∧ g < w.heap.size ∧ g ≠ H := fun g e => by
    obtain ⟨cur, hcur⟩ := row_obj hR1.row e
    exact ⟨(hlt0 g e).1, (hlt0 g e).2, fun e2 => by subst e2; rw [hR1.at_] at hcur; cases hcur⟩
  have HK : ∀ w4, (w1.alloc (.cells #[.int .u8 o.k, .string o.s, .slice q o.l.length cq, .int .i64 o.room, .int .i64 o.fn] 96)).drew.grownBy w4 (Value.slice p S.length c).ownBlock → ∀ k, k < w1.heap.size + 1 → (Value.slice p S.length c).ownBlock ≠ some k → w4.heap[k]? = (w1.alloc (.cells #[.int .u8 o.k, .string o.s, .slice q o.l.length cq, .int .i64 o.room, .int .i64 o.fn] 96)).heap[k]? := fun w4 hg k hk hne => hg.block k (by show k < (w1.alloc (.cells #[.int .u8 o.k, .string o.s, .slice q o.l.length cq, .int .i64 o.room, .int .i64 o.fn] 96)).heap.size; simpa using hk) (fun e => hne e.symm)
  have HK4 : ∀ w4, (w1.alloc (.cells #[.int .u8 o.k, .string o.s, .slice q o.l.length cq, .int .i64 o.room, .int .i64 o.fn] 96)).drew.grownBy w4 (Value.slice p S.length c).ownBlock → w4.cell? ⟨H, 0, none⟩ = some (.slice p S.length c) ∧ w4.frozen? ⟨H, 0, none⟩ = false := fun w4 hg => by
    have h1 : w4.heap[H]? = _ := (HK w4 hg H (by omega) (fun e => (hgne H e).2.2 rfl)).trans (hR1.at_.below hBX)
    exact ⟨by rw [cell_of_row w4 H 0 _ _ _ h1]; rfl, frozen_of_row w4 H 0 _ _ h1⟩
  have hrowd : (w1.alloc (.cells #[.int .u8 o.k, .string o.s, .slice q o.l.length cq, .int .i64 o.room, .int .i64 o.fn] 96)).drew.ownsRow base 96 5 (.slice p S.length c) S.length (pcells ts) := row_kept hrowX (fun _ _ => rfl)
  have hnewd : ∀ j u, (pcell ⟨o, .slice q o.l.length cq⟩)[j]? = some u → (w1.alloc (.cells #[.int .u8 o.k, .string o.s, .slice q o.l.length cq, .int .i64 o.room, .int .i64 o.fn] 96)).drew.cell? ((⟨w1.heap.size, 0, none⟩ : Addr).add j) = some u := fun j u hj => hnews j u hj
  have hbd : base ≤ (w1.alloc (.cells #[.int .u8 o.k, .string o.s, .slice q o.l.length cq, .int .i64 o.room, .int .i64 o.fn] 96)).drew.heap.size := by show base ≤ (w1.alloc (.cells #[.int .u8 o.k, .string o.s, .slice q o.l.length cq, .int .i64 o.room, .int .i64 o.fn] 96)).heap.size; simp; omega
  have HH : Hid _ := And.intro hR1 (And.intro hgne (And.intro hbw (And.intro hHlt (And.intro hBb hBw))))
  have HF01 : Hid _ := And.intro f0 f1
  clear hR1 hgne hlt0 hrowX hnews f0 f1 hB hB1 hBw hBb
  go_cut [7] from 13 (fun s7 W2 => s7 = .int .i64 wo ∧ ∃ w4 g4 c4, W2 = w4.setCell ⟨H, 0, none⟩ (.slice (some ⟨g4, 0, none⟩) (S.length + 1) c4) ∧ w4.ownsRow base 96 5 (.slice (some ⟨g4, 0, none⟩) (S.length + 1) c4) (S.length + 1) (pcells ts ++ pcell ⟨o, .slice q o.l.length cq⟩) ∧ (w1.alloc (.cells #[.int .u8 o.k, .string o.s, .slice q o.l.length cq, .int .i64 o.room, .int .i64 o.fn] 96)).drew.grownBy w4 (Value.slice p S.length c).ownBlock ∧ ((Value.slice p S.length c).ownBlock = some g4 ∨ g4 = w1.heap.size + 1))
  case first =>
    go_region_law (first
      | (refine step_append_lies _ (by rfl) _ _ _ (by rfl) base 96 i0 (.agg #[.int .u8 0, .string ⟨#[]⟩, .slice none 0 0, .int .i64 0, .int .i64 0]) 5 64 Tryz.underlying23 hi hz0 hz1 hz2 rfl (by omega) (.slice p S.length c) S.length (pcells ts) (by rfl) hrowd ⟨w1.heap.size, 0, none⟩ 1 1 (pcell ⟨o, .slice q o.l.length cq⟩) (by rfl) rfl hnewd (pcell_one _ _) (by omega) (by unfold maxLen; omega) (by omega) hbd (w1.heap.size + 1) (by show (w1.alloc (.cells #[.int .u8 o.k, .string o.s, .slice q o.l.length cq, .int .i64 o.room, .int .i64 o.fn] 96)).heap.size = _; simp) ?_; intro g4 c4 w4 ho4 hg4 hat4 hlt4; obtain ⟨k0, k1⟩ := HK4 w4 hg4))
    all_goals
      go_wp2_with fail
      go_meet
      case rel => exact ⟨rfl, w4, g4, c4, rfl, ho4, hg4, hat4⟩
  case rest =>
    obtain ⟨rfl, w4, g4, c4, rfl, ho4, hg4, hat4⟩ := hcut
    obtain ⟨hR1, hgne, hbw, hHlt, hBb, hBW1⟩ := HH.out
    obtain ⟨f0, f1⟩ := HF01.out
    have h4 := HK w4 hg4
    have hbx : ∀ k, k < w1.heap.size + 1 → k ≠ H → (Value.slice p S.length c).ownBlock ≠ some k → (w4.setCell ⟨H, 0, none⟩ (.slice (some ⟨g4, 0, none⟩) (S.length + 1) c4)).heap[k]? = (w1.alloc (.cells #[.int .u8 o.k, .string o.s, .slice q o.l.length cq, .int .i64 o.room, .int .i64 o.fn] 96)).heap[k]? := fun k hk hne ho => (heap_setCell_other w4 ⟨H, 0, none⟩ k _ hne).trans (h4 k hk ho)
    have F0 := (hbx w.heap.size (by omega) (by omega) (fun e => by have := (hgne _ e).2.1; omega)).trans ((hBX.block _ (Array.getElem?_eq_some_iff.1 f0).1).trans f0)
    have F1 := (hbx (w.heap.size + 1) (by omega) (by omega) (fun e => by have := (hgne _ e).2.1; omega)).trans ((hBX.block _ (Array.getElem?_eq_some_iff.1 f1).1).trans f1)
    have hH4 : w4.heap[H]? = some (.cells #[.slice p S.length c] 106 (0, 0)) := (h4 H (by omega) (fun e => (hgne H e).2.2 rfl)).trans (hR1.at_.below hBX)
    have hH5 : RhAt (w4.setCell ⟨H, 0, none⟩ (.slice (some ⟨g4, 0, none⟩) (S.length + 1) c4)) H (some ⟨g4, 0, none⟩) (S.length + 1) c4 := by
      have := heap_setCell_same w4 H 0 _ _ (.slice (some ⟨g4, 0, none⟩) (S.length + 1) c4) hH4
      simpa [RhAt] using this
    have hg4H : g4 ≠ H := fun e => by
      obtain ⟨cur, hcur⟩ := row_obj ho4 (k := g4) rfl
      rw [e, hH4] at hcur; cases hcur
    have hrow5 : (w4.setCell ⟨H, 0, none⟩ (.slice (some ⟨g4, 0, none⟩) (S.length + 1) c4)).ownsRow base 96 5 (.slice (some ⟨g4, 0, none⟩) (S.length + 1) c4) (S.length + 1) (pcells ts ++ pcell ⟨o, .slice q o.l.length cq⟩) := row_kept ho4 (fun k e => by cases e; exact heap_setCell_other w4 ⟨H, 0, none⟩ _ _ hg4H)
    have hR5 : Rh base (w4.setCell ⟨H, 0, none⟩ (.slice (some ⟨g4, 0, none⟩) (S.length + 1) c4)) H (S ++ [o]) (some ⟨g4, 0, none⟩) c4 (ts ++ [⟨o, .slice q o.l.length cq⟩]) := by
      refine ⟨by simpa using hH5, hR1.low, by simp [hR1.mp], ?_, ?_⟩
      · rw [pcells_append]
        simpa [pcells] using hrow5
      · intro x hx
        rcases List.mem_append.1 hx with hx | hx
        · obtain ⟨q, cq, e, hq, hvt⟩ := hR1.lst x hx
          refine ⟨q, cq, e, hq, ?_⟩
          have hk : ∀ ad, q = some ad → (w4.setCell ⟨H, 0, none⟩ (.slice (some ⟨g4, 0, none⟩) (S.length + 1) c4)).heap[ad.block]? = w1.heap[ad.block]? := fun ad ea => by
            obtain ⟨cs, hcs⟩ := hvt.2 ad ea
            have hlt := (Array.getElem?_eq_some_iff.1 hcs).1
            rw [hbx ad.block (by omega) (fun e2 => by rw [e2, hR1.at_] at hcs; cases hcs) (fun e2 => by obtain ⟨cur, hcur⟩ := row_obj hR1.row e2; rw [hcs] at hcur; cases hcur)]
            exact hBX.block _ hlt
          exact ⟨hvt.1.kept_at hk, fun ad ea => by rw [hk ad ea]; exact hvt.2 ad ea⟩
        · simp at hx; subst hx
          refine ⟨q, cq, rfl, hqn, ?_⟩
          have hv1 : VT w1 q o.l := ⟨hvt.1.below hBW1, fun ad ea => by obtain ⟨cs, hcs⟩ := hvt.2 ad ea; exact ⟨cs, (hBW1.block _ (Array.getElem?_eq_some_iff.1 hcs).1).trans hcs⟩⟩
          have hk : ∀ ad, q = some ad → (w4.setCell ⟨H, 0, none⟩ (.slice (some ⟨g4, 0, none⟩) (S.length + 1) c4)).heap[ad.block]? = w1.heap[ad.block]? := fun ad ea => by
            obtain ⟨cs, hcs⟩ := hv1.2 ad ea
            have hlt := (Array.getElem?_eq_some_iff.1 hcs).1
            rw [hbx ad.block (by omega) (fun e2 => by rw [e2, hR1.at_] at hcs; cases hcs) (fun e2 => by obtain ⟨cur, hcur⟩ := row_obj hR1.row e2; rw [hcs] at hcur; cases hcur)]
            exact hBX.block _ hlt
          exact ⟨hv1.1.kept_at hk, fun ad ea => by rw [hk ad ea]; exact hv1.2 ad ea⟩
    have hB5 : Below base w (w4.setCell ⟨H, 0, none⟩ (.slice (some ⟨g4, 0, none⟩) (S.length + 1) c4)) := by
      have hBX' : Below base w (w1.alloc (.cells #[.int .u8 o.k, .string o.s, .slice q o.l.length cq, .int .i64 o.room, .int .i64 o.fn] 96)).drew := below_drew (hBb.trans (hBX.mono (by omega)))
      exact below_set (hBX'.trans (rbelow_grown hg4 (fun k e => (hgne k e).1) hbd)) hR1.low _
    have hfr : ∀ (k : Nat) (cur : Array Value), k < w.heap.size → w.heap[k]? = some (.cells cur 38 (0, 0)) → (w4.setCell ⟨H, 0, none⟩ (.slice (some ⟨g4, 0, none⟩) (S.length + 1) c4)).heap[k]? = w.heap[k]? := fun k cur hk hc => by
      have hc1 : w1.heap[k]? = _ := (hBW1.block k hk).trans hc
      rw [hbx k (by omega) (fun e2 => by rw [e2, hR1.at_] at hc1; cases hc1) (fun e2 => by obtain ⟨cur', hcur⟩ := row_obj hR1.row e2; rw [hc1] at hcur; cases hcur)]
      exact (hBX.block _ (by omega)).trans (hBW1.block k hk)
    generalize w4.setCell ⟨H, 0, none⟩ (.slice (some ⟨g4, 0, none⟩) (S.length + 1) c4) = W5 at *
    clear hcX hcH u0 u1 u2 u3 u4 x0 x1 x2 x3 x4 HK HK4 hrowd hnewd hbx h4 hH4 hrow5 ho4 hg4 hat4 HH HF01 hgne
    obtain ⟨⟨x0, x1, x2, x3, x4⟩, -⟩ := cell_row5 F0
    obtain ⟨⟨z0, z1, z2, z3⟩, y0, y1, y2, y3⟩ := cell_row4D F1
    have hc5 := hH5.cell
    have HFIN : Hid _ := And.intro hR5 (And.intro hB5 hfr)
    clear hR5 hB5 hfr
    go_wp2_with fail
    go_region
    go_wp2
    refine bodyPost_ret (results_cell_row (by rfl) _ _ (w.heap.size + 1) 38 _ _ _ (by rfl) (show _ from set4_rowD F1) Tryz.underlying38 (by rfl) infoRd) (by rfl) ?_
    have hk5 : ∀ (k : Nat) (cur : Array Value) (T : TypeId), W5.heap[k]? = some (.cells cur T (0, 0)) → (T = 96 ∨ T = 27 ∨ T = 106) → ((((W5.setCell ⟨w.heap.size + 1, 0, none⟩ (.int .u8 o.k)).setCell ⟨w.heap.size + 1, 1, none⟩ (.int .i64 ((S.length : Int) + 1))).setCell ⟨w.heap.size + 1, 2, none⟩ (.string ⟨#[]⟩)).setCell ⟨w.heap.size + 1, 3, none⟩ (.int .i64 wo)).drew.heap[k]? = W5.heap[k]? := fun k cur T h1 h2 => by
      have hne : k ≠ w.heap.size + 1 := fun e => by
        rw [e, F1] at h1
        cases h1
        rcases h2 with h | h | h <;> cases h
      show ((((W5.setCell ⟨w.heap.size + 1, 0, none⟩ _).setCell ⟨w.heap.size + 1, 1, none⟩ _).setCell ⟨w.heap.size + 1, 2, none⟩ _).setCell ⟨w.heap.size + 1, 3, none⟩ _).heap[k]? = _
      rw [heap_setCell_other _ ⟨w.heap.size + 1, 3, none⟩ _ _ hne, heap_setCell_other _ ⟨w.heap.size + 1, 2, none⟩ _ _ hne, heap_setCell_other _ ⟨w.heap.size + 1, 1, none⟩ _ _ hne, heap_setCell_other _ ⟨w.heap.size + 1, 0, none⟩ _ _ hne]
    refine ⟨rfl, ⟨_, _, _, HFIN.out.1.kept hk5⟩, below_drew (below_set4 HFIN.out.2.1 (by omega) _ _ _ _), fun k cur hk hc => ?_⟩
    have hne : k ≠ w.heap.size + 1 := by omega
    show ((((W5.setCell ⟨w.heap.size + 1, 0, none⟩ _).setCell ⟨w.heap.size + 1, 1, none⟩ _).setCell ⟨w.heap.size + 1, 2, none⟩ _).setCell ⟨w.heap.size + 1, 3, none⟩ _).heap[k]? = _
    rw [heap_setCell_other _ ⟨w.heap.size + 1, 3, none⟩ _ _ hne, heap_setCell_other _ ⟨w.heap.size + 1, 2, none⟩ _ _ hne, heap_setCell_other _ ⟨w.heap.size + 1, 1, none⟩ _ _ hne, heap_setCell_other _ ⟨w.heap.size + 1, 0, none⟩ _ _ hne]
    exact HFIN.out.2.2 k cur hk hc

end Go.Proofs.YtgokofomoachaaaGreatDoor

namespace Go.Proofs.YtgokofomoachaaaGreatDoor
set_option linter.unusedVariables false
set_option linter.unusedSimpArgs false
open Go.RowKit

variable {w : World}

theorem wpList_append_run {P : Program} {ops : Array Oper} {rest : List Oper} {o : Oper} {a : Act} {Q : Exit → Act → World → Prop} (hgd : o.guard = none) (s x : Operand) (t : TypeId)
    (ho : o.op = .call { callee := .builtin .append, args := #[s, x], argTypes := #[t, t] }) (vs vx r : Value) (w' : World) (hs : a.eval s = vs) (hx : a.eval x = vx)
    (hrun : (Builtin.append_ #[t, t] o.type #[vs, vx]).run P w = .ok r w') (h : wpList P ops Q rest (a.put o.dst r) w') : wpList P ops Q (o :: rest) a w :=
  wpList_plain hgd fun K hK => by
    unfold Oper.wp
    simp [execOp, ho, resolve, invoke, builtin, hs, hx, hrun, Result.andThen]
    exact hK _ _ h

theorem Size_lst (l : List Vl) {q : Option Addr} {cq : Nat} (hl : l.length ≤ 65536) (W : World) : Calls Tryz.prog 179 #[.agg #[.int .u8 (lstO l).k, .string (lstO l).s, .slice q (lstO l).l.length cq, .int .i64 (lstO l).room, .int .i64 (lstO l).fn]] W fun e w' => e = .returned (.int .i64 (wordsO (lstO l) : Nat)) ∧ Below W.heap.size W w' := by
  by_cases h0 : l.length = 0
  · exact Size_none4 (lstO l) rfl (by show (l.length : Int) = 0; omega) W
  · exact Size_row4 (lstO l) rfl (by show (0 : Int) < (l.length : Int); omega) (by show (l.length : Int) ≤ 1099511627776; omega) W

set_option maxRecDepth 20000 in
set_option maxHeartbeats 4000000 in
theorem rList_bad {base H : Nat} {S : List Om} {p : Option Addr} {c : Nat} {ts : List Po} (hR : Rh base w H S p c ts) (hbw : base ≤ w.heap.size) (h : Ask w p S) {l : List Vl} {q : Option Addr} (cq : Nat) (hv : Vals w q l) (hl : l.length ≤ 65536) (hf : ¬ fineP S l) {D : Dv} (hD : D = refD S) :
    Calls Tryz.prog 26 #[.pointer (some ⟨H, 0, none⟩), .slice q l.length cq, .bool false] w fun e w' => e = .returned (.agg #[.int .u8 D.v.k, .int .i64 D.v.n, .string D.t, .int .i64 D.n]) ∧ (∃ p' c' ts', Rh base w' H D.S p' c' ts') ∧ Below base w w' := by
  have hB := below1 w (.cells #[.int .u8 0, .int .i64 0, .string ⟨#[]⟩, .int .i64 0] 38)
  have hb := heap_alloc_new w (.cells #[.int .u8 0, .int .i64 0, .string ⟨#[]⟩, .int .i64 0] 38)
  have HM := Fine_in (h.below hB) c (hR.at_.below hB) cq (hv.below hB) (by omega) false (by simp [hf])
  have HDq : Hid _ := hD
  have H1 := fun (W : World) => thrown_in tKind W (d := { t := tKind }) rfl
  unfold tKind at H1
  clear hD hf hv
  go_enter Tryz.func26, Tryz.ntmps26
  go_wp2_with (first
    | (go_at_call 54; (with_reducible refine HM.mono ?_); clear HM; rintro e w1 ⟨rfl, hB1⟩)
    | (go_at_call 55; (with_reducible refine (H1 _).mono ?_); rintro e w2 ⟨rfl, hB2⟩; have hBx := hB1.trans (hB2.mono hB1.size); have hr := (hBx.block _ (Array.getElem?_eq_some_iff.1 hb).1).trans hb; obtain ⟨⟨z0, z1, z2, z3⟩, y0, y1, y2, y3⟩ := cell_row4D hr))
  refine bodyPost_ret (results_cell_row (by rfl) _ _ (w.heap.size) 38 _ _ _ (by rfl) (set4_rowD hr) Tryz.underlying38 (by rfl) infoRd) (by rfl) ?_
  obtain rfl := HDq.out
  have hBw := hB.trans (hBx.mono hB.size)
  exact ⟨rfl, ⟨p, c, ts, (hR.below hBw).set4 hr _ _ _ _⟩, below_set4 (hBw.mono hbw) (by omega) _ _ _ _⟩

set_option maxRecDepth 20000 in
set_option maxHeartbeats 4000000 in
theorem rList_ok {base H : Nat} {S : List Om} {p : Option Addr} {c : Nat} {ts : List Po} (hR : Rh base w H S p c ts) (hbw : base ≤ w.heap.size) (h : Ask w p S) {l : List Vl} {q : Option Addr} (cq : Nat) (hv : Vals w q l) (hl : l.length ≤ 65536) (hf : fineP S l) {D : Dv} (hD : D = ⟨S ++ [lstO l], ⟨4, (S.length : Int) + 1⟩, ⟨#[]⟩, (wordsO (lstO l) : Nat)⟩) :
    Calls Tryz.prog 26 #[.pointer (some ⟨H, 0, none⟩), .slice q l.length cq, .bool false] w fun e w' => e = .returned (.agg #[.int .u8 D.v.k, .int .i64 D.v.n, .string D.t, .int .i64 D.n]) ∧ (∃ p' c' ts', Rh base w' H D.S p' c' ts') ∧ Below base w w' := by
  have hB := below1 w (.cells #[.int .u8 0, .int .i64 0, .string ⟨#[]⟩, .int .i64 0] 38)
  have hb := heap_alloc_new w (.cells #[.int .u8 0, .int .i64 0, .string ⟨#[]⟩, .int .i64 0] 38)
  have HM := Fine_in (h.below hB) c (hR.at_.below hB) cq (hv.below hB) (by omega) true (by simp [hf])
  have HDq : Hid _ := hD
  have hl' : ¬ ((65536 : Int) < (l.length : Int)) := by omega
  clear hD hf
  go_enter Tryz.func26, Tryz.ntmps26
  go_wp2_with (first
    | (go_at_call 54; (with_reducible refine HM.mono ?_); clear HM; rintro e w1 ⟨rfl, hB1⟩; refine halt_here ?_))
  unfold Halted
  have hBw := hB.trans (hB1.mono hB.size)
  have f0 := (hB1.block _ (Array.getElem?_eq_some_iff.1 hb).1).trans hb
  obtain ⟨v4, w4, hrun, hown, hB4⟩ := app1 (co := cq) (hv.below hBw) (by omega)
  obtain ⟨p4, c4, hv4, hpn, -, -⟩ := own_slice hown
  subst hv4
  have hBw4 := hBw.trans (hB4.mono hBw.size)
  have f4 := (hB4.block _ (Array.getElem?_eq_some_iff.1 f0).1).trans f0
  have l4 := (Array.getElem?_eq_some_iff.1 f4).1
  have hvt : VT w4 p4 l := by
    cases p4 with
    | none =>
      have h0 : l = [] := by
        cases l with
        | nil => rfl
        | cons y r => rcases hown.2 with ⟨-, e⟩ | ⟨g, cap, cur, e, -⟩
                      · simp at e
                      · cases e
      subst h0
      exact VT.none _
    | some ad =>
      rcases hown.2 with ⟨e, -⟩ | ⟨g, cap, cur, e, -⟩
      · cases e
      · cases e
        exact vt_of_row hown
  have HMD := rmade_in (hR.below hBw4) (Nat.le_trans hbw hBw4.size) h.len (lstO l) hpn hvt (Size_lst l hl)
  simp only [show (lstO l).k = 4 from rfl, show (lstO l).s = ⟨#[]⟩ from rfl, show (lstO l).l = l from rfl, show (lstO l).room = (l.length : Int) from rfl, show (lstO l).fn = 0 from rfl, show ((4 : Nat) : Int) = 4 from rfl] at HMD
  clear hv hown hvt hl
  go_wp2_with (first
    | (at_builtin; refine wpList_append_run rfl (.const (.slice none 0 0)) (.tmp 17) 47 rfl _ _ (.slice p4 l.length c4) w4 rfl rfl hrun ?_)
    | (go_at_call 68; (with_reducible refine HMD.mono ?_); clear HMD; rintro e w5 ⟨rfl, hR5, hB5, hfr⟩; have hr := (hfr _ _ l4 f4).trans f4; obtain ⟨⟨z0, z1, z2, z3⟩, y0, y1, y2, y3⟩ := cell_row4D hr))
  refine bodyPost_ret (results_cell_row (by rfl) _ _ (w.heap.size) 38 _ _ _ (by rfl) (set4_rowD hr) Tryz.underlying38 (by rfl) infoRd) (by rfl) ?_
  obtain ⟨p', c', ts', hR5⟩ := hR5
  obtain rfl := HDq.out
  exact ⟨rfl, ⟨p', c', ts', hR5.set4 hr _ _ _ _⟩, below_set4 ((hBw4.mono hbw).trans hB5) (by omega) _ _ _ _⟩

/-- A cell as an object. -/
def cellO (v : Vl) : Om := ⟨7, ⟨#[]⟩, [v], 0, 0⟩

set_option maxRecDepth 20000 in
set_option maxHeartbeats 4000000 in
theorem rCell_bad {base H : Nat} {S : List Om} {p : Option Addr} {c : Nat} {ts : List Po} (hR : Rh base w H S p c ts) (hbw : base ≤ w.heap.size) (h : Ask w p S) (v : Vl) (hf : ¬ fineP S [v]) {D : Dv} (hD : D = refD S) :
    Calls Tryz.prog 34 #[.pointer (some ⟨H, 0, none⟩), .agg #[.int .u8 v.k, .int .i64 v.n], .bool false] w fun e w' => e = .returned (.agg #[.int .u8 D.v.k, .int .i64 D.v.n, .string D.t, .int .i64 D.n]) ∧ (∃ p' c' ts', Rh base w' H D.S p' c' ts') ∧ Below base w w' := by
  have hB := below2' w (.cells #[.int .u8 v.k, .int .i64 v.n] 27) (.cells #[.int .u8 0, .int .i64 0, .string ⟨#[]⟩, .int .i64 0] 38)
  have e0 := (Below.heap_alloc _ (.cells #[.int .u8 0, .int .i64 0, .string ⟨#[]⟩, .int .i64 0] 38) w.heap.size (by simp)).trans (heap_alloc_new w (.cells #[.int .u8 v.k, .int .i64 v.n] 27))
  have e1 := heap_two w (.cells #[.int .u8 v.k, .int .i64 v.n] 27) (.cells #[.int .u8 0, .int .i64 0, .string ⟨#[]⟩, .int .i64 0] 38)
  obtain ⟨x0, x1⟩ := cell_row2 e0
  have HDq : Hid _ := hD
  clear hD
  go_enter Tryz.func34, Tryz.ntmps34
  go_wp2_with (first
    | (go_at_call 54; refine halt_here ?_))
  unfold Halted
  have hsz : ((w.alloc (.cells #[.int .u8 v.k, .int .i64 v.n] 27)).alloc (.cells #[.int .u8 0, .int .i64 0, .string ⟨#[]⟩, .int .i64 0] 38)).heap.size = w.heap.size + 1 + 1 := by simp
  generalize hW : (w.alloc (.cells #[.int .u8 v.k, .int .i64 v.n] 27)).alloc (.cells #[.int .u8 0, .int .i64 0, .string ⟨#[]⟩, .int .i64 0] 38) = W at *
  clear hW
  have hnew := heap_alloc_new W (.cells #[.int .u8 v.k, .int .i64 v.n] 27)
  have hBY := below1 W (.cells #[.int .u8 v.k, .int .i64 v.n] 27)
  rw [hsz] at hnew
  clear hsz
  have hB' := hB.trans (hBY.mono hB.size)
  have HM := Fine_in (h.below hB') c (hR.at_.below hB') (l := [v]) 1 (one_val hnew) (by simp) false (by simp [hf])
  refine Calls.mono HM ?_
  clear HM
  rintro e w1 ⟨rfl, hB1⟩
  have hB1' := hBY.trans (hB1.mono hBY.size)
  have hBw := hB.trans (hB1'.mono hB.size)
  have f0 := (hB1'.block _ (Array.getElem?_eq_some_iff.1 e0).1).trans e0
  have f1 := (hB1'.block _ (Array.getElem?_eq_some_iff.1 e1).1).trans e1
  clear x0 x1 e0 e1 hnew hB1 hB1' hBY hB'
  obtain ⟨x0, x1⟩ := cell_row2 f0
  have l1 := (Array.getElem?_eq_some_iff.1 f1).1
  have H1 := fun (W : World) => thrown_in tKind W (d := { t := tKind }) rfl
  unfold tKind at H1
  go_wp2_with (first
    | (go_at_call 55; (with_reducible refine (H1 _).mono ?_); rintro e w2 ⟨rfl, hB2⟩; have hr := (hB2.block _ l1).trans f1; obtain ⟨⟨z0, z1, z2, z3⟩, y0, y1, y2, y3⟩ := cell_row4D hr))
  refine bodyPost_ret (results_cell_row (by rfl) _ _ (w.heap.size + 1) 38 _ _ _ (by rfl) (set4_rowD hr) Tryz.underlying38 (by rfl) infoRd) (by rfl) ?_
  obtain rfl := HDq.out
  have hBx := hBw.trans (hB2.mono hBw.size)
  exact ⟨rfl, ⟨p, c, ts, (hR.below hBx).set4 hr _ _ _ _⟩, below_set4 (hBx.mono hbw) (by omega) _ _ _ _⟩

set_option maxRecDepth 20000 in
set_option maxHeartbeats 4000000 in
theorem rCell_ok {base H : Nat} {S : List Om} {p : Option Addr} {c : Nat} {ts : List Po} (hR : Rh base w H S p c ts) (hbw : base ≤ w.heap.size) (h : Ask w p S) (v : Vl) (hf : fineP S [v]) {D : Dv} (hD : D = ⟨S ++ [cellO v], ⟨7, (S.length : Int) + 1⟩, ⟨#[]⟩, (wordsO (cellO v) : Nat)⟩) :
    Calls Tryz.prog 34 #[.pointer (some ⟨H, 0, none⟩), .agg #[.int .u8 v.k, .int .i64 v.n], .bool false] w fun e w' => e = .returned (.agg #[.int .u8 D.v.k, .int .i64 D.v.n, .string D.t, .int .i64 D.n]) ∧ (∃ p' c' ts', Rh base w' H D.S p' c' ts') ∧ Below base w w' := by
  have hB := below2' w (.cells #[.int .u8 v.k, .int .i64 v.n] 27) (.cells #[.int .u8 0, .int .i64 0, .string ⟨#[]⟩, .int .i64 0] 38)
  have e0 := (Below.heap_alloc _ (.cells #[.int .u8 0, .int .i64 0, .string ⟨#[]⟩, .int .i64 0] 38) w.heap.size (by simp)).trans (heap_alloc_new w (.cells #[.int .u8 v.k, .int .i64 v.n] 27))
  have e1 := heap_two w (.cells #[.int .u8 v.k, .int .i64 v.n] 27) (.cells #[.int .u8 0, .int .i64 0, .string ⟨#[]⟩, .int .i64 0] 38)
  obtain ⟨x0, x1⟩ := cell_row2 e0
  have HDq : Hid _ := hD
  clear hD
  go_enter Tryz.func34, Tryz.ntmps34
  go_wp2_with (first
    | (go_at_call 54; refine halt_here ?_))
  unfold Halted
  have hsz : ((w.alloc (.cells #[.int .u8 v.k, .int .i64 v.n] 27)).alloc (.cells #[.int .u8 0, .int .i64 0, .string ⟨#[]⟩, .int .i64 0] 38)).heap.size = w.heap.size + 1 + 1 := by simp
  generalize hW : (w.alloc (.cells #[.int .u8 v.k, .int .i64 v.n] 27)).alloc (.cells #[.int .u8 0, .int .i64 0, .string ⟨#[]⟩, .int .i64 0] 38) = W at *
  clear hW
  have hnew := heap_alloc_new W (.cells #[.int .u8 v.k, .int .i64 v.n] 27)
  have hBY := below1 W (.cells #[.int .u8 v.k, .int .i64 v.n] 27)
  rw [hsz] at hnew
  clear hsz
  have hB' := hB.trans (hBY.mono hB.size)
  have HM := Fine_in (h.below hB') c (hR.at_.below hB') (l := [v]) 1 (one_val hnew) (by simp) true (by simp [hf])
  refine Calls.mono HM ?_
  clear HM
  rintro e w1 ⟨rfl, hB1⟩
  have hB1' := hBY.trans (hB1.mono hBY.size)
  have hBw := hB.trans (hB1'.mono hB.size)
  have f0 := (hB1'.block _ (Array.getElem?_eq_some_iff.1 e0).1).trans e0
  have f1 := (hB1'.block _ (Array.getElem?_eq_some_iff.1 e1).1).trans e1
  clear x0 x1 e0 e1 hnew hB1 hB1' hBY hB'
  obtain ⟨x0, x1⟩ := cell_row2 f0
  have l1 := (Array.getElem?_eq_some_iff.1 f1).1
  have hBn := below1 w1 (.cells #[.int .u8 v.k, .int .i64 v.n] 27)
  have hnn := heap_alloc_new w1 (.cells #[.int .u8 v.k, .int .i64 v.n] 27)
  have hBw4 := hBw.trans (hBn.mono hBw.size)
  have f4 := (hBn.block _ l1).trans f1
  have l4 := (Array.getElem?_eq_some_iff.1 f4).1
  have hvt : VT (w1.alloc (.cells #[.int .u8 v.k, .int .i64 v.n] 27)) (some ⟨w1.heap.size, 0, none⟩) [v] := ⟨one_val hnn, fun ad ea => by cases ea; exact ⟨_, hnn⟩⟩
  have HMD := rmade_in (hR.below hBw4) (Nat.le_trans hbw hBw4.size) h.len (cellO v) (q := some ⟨w1.heap.size, 0, none⟩) (cq := 1) (fun e => by cases e) hvt (Size_cell (cellO v) rfl)
  simp only [show (cellO v).k = 7 from rfl, show (cellO v).s = ⟨#[]⟩ from rfl, show (cellO v).l = [v] from rfl, show (cellO v).room = 0 from rfl, show (cellO v).fn = 0 from rfl, show ((7 : Nat) : Int) = 7 from rfl, List.length_singleton] at HMD
  clear hvt hnn hf
  go_wp2_with (first
    | (go_at_call 68; (with_reducible refine HMD.mono ?_); clear HMD; rintro e w5 ⟨rfl, hR5, hB5, hfr⟩; have hr := (hfr _ _ l4 f4).trans f4; obtain ⟨⟨z0, z1, z2, z3⟩, y0, y1, y2, y3⟩ := cell_row4D hr))
  refine bodyPost_ret (results_cell_row (by rfl) _ _ (w.heap.size + 1) 38 _ _ _ (by rfl) (set4_rowD hr) Tryz.underlying38 (by rfl) infoRd) (by rfl) ?_
  obtain ⟨p', c', ts', hR5⟩ := hR5
  obtain rfl := HDq.out
  exact ⟨rfl, ⟨p', c', ts', hR5.set4 hr _ _ _ _⟩, below_set4 ((hBw4.mono hbw).trans hB5) (by omega) _ _ _ _⟩


end Go.Proofs.YtgokofomoachaaaGreatDoor
