/- The document's operations on values: small ones. -/
import Derived.Test.YtgokofomoachaaaGreatDoorPnOps
import Derived.Test.YtgokofomoachaaaGreatDoorShRefCheck
import Derived.Test.YtgokofomoachaaaGreatDoorPoSame
namespace Go.Proofs.YtgokofomoachaaaGreatDoor
set_option linter.unusedVariables false
set_option linter.unusedSimpArgs false
open Go.RowKit

variable {w : World}

theorem infoRd : (Tryz.prog.info? 38).map (·.size) = some 4 := by kernel_rfl

theorem cell_row4D {W : World} {g : Nat} {a b c d : Value} {t : TypeId} (h : W.heap[g]? = some (.cells #[a, b, c, d] t (0, 0))) : (W.cell? ⟨g, 0, none⟩ = some a ∧ W.cell? ⟨g, 1, none⟩ = some b ∧ W.cell? ⟨g, 2, none⟩ = some c ∧ W.cell? ⟨g, 3, none⟩ = some d) ∧ W.frozen? ⟨g, 0, none⟩ = false ∧ W.frozen? ⟨g, 1, none⟩ = false ∧ W.frozen? ⟨g, 2, none⟩ = false ∧ W.frozen? ⟨g, 3, none⟩ = false :=
  ⟨⟨by rw [cell_of_row W g 0 _ _ _ h]; rfl, by rw [cell_of_row W g 1 _ _ _ h]; rfl, by rw [cell_of_row W g 2 _ _ _ h]; rfl, by rw [cell_of_row W g 3 _ _ _ h]; rfl⟩, frozen_of_row W g 0 _ _ h, frozen_of_row W g 1 _ _ h, frozen_of_row W g 2 _ _ h, frozen_of_row W g 3 _ _ h⟩

theorem set4_rowD {W : World} {g : Nat} {a b c d x0 x1 x2 x3 : Value} {t : TypeId} (h : W.heap[g]? = some (.cells #[a, b, c, d] t (0, 0))) : ((((W.setCell ⟨g, 0, none⟩ x0).setCell ⟨g, 1, none⟩ x1).setCell ⟨g, 2, none⟩ x2).setCell ⟨g, 3, none⟩ x3).heap[g]? = some (.cells #[x0, x1, x2, x3] t (0, 0)) := by
  have h1 := heap_setCell_same W g 0 _ t x0 h
  have h2 := heap_setCell_same _ g 1 _ t x1 h1
  have h3 := heap_setCell_same _ g 2 _ t x2 h2
  have h4 := heap_setCell_same _ g 3 _ t x3 h3
  simpa using h4

theorem below_set4 {n : Nat} {w W : World} (h : Below n w W) {g : Nat} (hg : n ≤ g) (v0 v1 v2 v3 : Value) : Below n w ((((W.setCell ⟨g, 0, none⟩ v0).setCell ⟨g, 1, none⟩ v1).setCell ⟨g, 2, none⟩ v2).setCell ⟨g, 3, none⟩ v3) :=
  below_set (below_set (below_set (below_set h hg _) hg _) hg _) hg _

/-- What an operation of the document's comes to. -/
structure Rd where
  v : Vl := ⟨0, 0⟩
  t : ByteArray := ⟨#[]⟩
  n : Int := 0

def RdR (w : World) (d : Rd) (e : Ending) (w' : World) : Prop := e = .returned (.agg #[.int .u8 d.v.k, .int .i64 d.v.n, .string d.t, .int .i64 d.n]) ∧ Below w.heap.size w w'

theorem thrown_in (t : ByteArray) (w : World) {d : Rd} (hd : d = { t := t }) : Calls Tryz.prog 55 #[.string t] w (RdR w d) := by
  subst hd
  go_enter Tryz.func55, Tryz.ntmps55
  go_wp2
  refine bodyPost_ret (results_cell_row (by rfl) _ _ w.heap.size 38 _ _ _ (by rfl) (heap_alloc_new w _) Tryz.underlying38 (by rfl) infoRd) (by rfl) ?_
  exact ⟨rfl, below1 _ _⟩

theorem rInt_in (n : Int) (w : World) : Calls Tryz.prog 64 #[.int .i64 n] w fun e w' => e = .returned (.agg #[.int .u8 2, .int .i64 n]) ∧ Below w.heap.size w w' := by
  go_enter Tryz.func64, Tryz.ntmps64
  go_wp2
  refine bodyPost_ret (results_cell_row (by rfl) _ _ w.heap.size 27 _ _ _ (by rfl) (heap_alloc_new w _) Tryz.underlying27 (by rfl) infoVal2) (by rfl) ?_
  exact ⟨rfl, below1 _ _⟩

theorem rBool_in (b : Bool) (w : World) : Calls Tryz.prog 56 #[.bool b] w fun e w' => e = .returned (.agg #[.int .u8 (tru b).k, .int .i64 (tru b).n]) ∧ Below w.heap.size w w' := by
  cases b
  all_goals
    go_enter Tryz.func56, Tryz.ntmps56
    go_wp2
    refine bodyPost_ret (results_cell_row (by rfl) _ _ w.heap.size 27 _ _ _ (by rfl) (heap_alloc_new w _) Tryz.underlying27 (by rfl) infoVal2) (by rfl) ?_
    exact ⟨rfl, below1 _ _⟩

/-- The document's heap: where its store is found. -/
def RhAt (w : World) (H : Nat) (p : Option Addr) (n c : Nat) : Prop := w.heap[H]? = some (.cells #[.slice p n c] 106 (0, 0))

theorem RhAt.below {H : Nat} {p : Option Addr} {n c : Nat} (h : RhAt w H p n c) {w' : World} (hB : Below w.heap.size w w') : RhAt w' H p n c := (hB.block _ (Array.getElem?_eq_some_iff.1 h).1).trans h

theorem RhAt.cell {H : Nat} {p : Option Addr} {n c : Nat} (h : RhAt w H p n c) : w.cell? ⟨H, 0, none⟩ = some (.slice p n c) := by rw [cell_of_row w H 0 _ _ _ h]; rfl

set_option maxRecDepth 20000 in
set_option maxHeartbeats 4000000 in
theorem Fine_in {p : Option Addr} {S : List Om} (h : Ask w p S) (c : Nat) {H : Nat} (hH : RhAt w H p S.length c) {q : Option Addr} {l : List Vl} (cq : Nat) (hv : Vals w q l) (hl : l.length ≤ 100000) (b : Bool) (hb : b = true ↔ fineP S l) :
    Calls Tryz.prog 54 #[.pointer (some ⟨H, 0, none⟩), .slice q l.length cq] w fun e w' => e = .returned (.bool b) ∧ Below w.heap.size w w' := by
  go_enter Tryz.func54, Tryz.ntmps54
  go_wp2
  go_loopw [5] (fun k wr => ∃ j : Nat, k = .int .i64 j ∧ j ≤ l.length ∧ Hid (fineP S (l.take j)) ∧ Below w.heap.size w wr) (fun k _ => l.length - (intOf k).toNat)
  case atStart => exact ⟨0, rfl, by omega, (fun v hv => by simp at hv), Below.refl _ _⟩
  case round =>
    obtain ⟨j, rfl, hj, HF, hB⟩ := hrel
    have HB : Hid _ := hb
    clear hb
    have hsz := hB.size
    by_cases hjn : j < l.length
    · have hjn' : (j : Int) < (l.length : Int) := by omega
      obtain ⟨v, hvj⟩ : ∃ v, l[j]? = some v := ⟨l[j], by simp⟩
      obtain ⟨b0, off, rfl, c0, c1⟩ := (hv.below hB) j v hvj
      have HV : Hid _ := hvj
      clear hvj
      have hmem : v ∈ l := List.mem_of_getElem? HV.out
      have hc := (hH.below hB).cell
      by_cases h7 : v.k = 7
      · have hbf : b = false := b_false HB.out (fun hh => (hh v hmem).1 h7)
        subst hbf
        obtain ⟨vk, vn⟩ := v
        simp only at h7
        subst h7
        simp only [show ((7 : Nat) : Int) = 7 from rfl] at c0
        clear HB HF HV hmem
        go_wp2
        go_quiet (fail)
        go_wp2
        go_ret
        exact ⟨rfl, below_drewN' hB _⟩
      · have h7b : ((v.k : Int) == 7) = false := by simp; omega
        have h7n : ¬ ((v.k : Int) = 7) := by omega
        obtain ⟨bc, hbc⟩ := b_of (checkP S v)
        have hBd := below_drew hB
        have HC := rCheck_in c (h.st.below hBd) h.small v bc hbc
        have FCS : ∀ W', Below wr.heap.size wr W' → (W'.cell? ⟨b0, off + j * 2, none⟩ = some (.int .u8 v.k) ∧ W'.cell? ⟨b0, off + j * 2 + 1, none⟩ = some (.int .i64 v.n)) ∧ W'.cell? ⟨H, 0, none⟩ = some (.slice p S.length c) := fun W' hb => by
          have l0 := World.block_lt_of_cell? wr _ c0
          have l1 := World.block_lt_of_cell? wr _ hc
          exact ⟨⟨(hb.cell (p := ⟨b0, off + j * 2, none⟩) l0).trans c0, (hb.cell (p := ⟨b0, off + j * 2 + 1, none⟩) l0).trans c1⟩, (hb.cell (p := ⟨H, 0, none⟩) l1).trans hc⟩
        have hD := below_drew (Below.refl wr.heap.size wr)
        have S0 := FCS _ hD
        have SW := FCS _ (Below.refl _ _)
        have HK : Hid _ := And.intro h7 hbc
        clear h7 hbc
        go_wp2_with fail
        go_region_held3 (fun W => (W.cell? ⟨b0, off + j * 2, none⟩ = some (.int .u8 v.k) ∧ W.cell? ⟨b0, off + j * 2 + 1, none⟩ = some (.int .i64 v.n)) ∧ W.cell? ⟨H, 0, none⟩ = some (.slice p S.length c)) (first | with_reducible exact S0 | with_reducible exact SW | with_reducible exact S1 | go_keep)
          (first
            | (go_at_call 74; (with_reducible refine HC.mono ?_); clear HC; rintro e w1 ⟨rfl, hB1⟩; have hD1 := hD.trans (hB1.mono hD.size); have S1 := FCS _ hD1))
        have hB1' := hB.trans (hD1.mono hsz)
        cases bc with
        | false =>
          have hbf : b = false := b_false HB.out (fun hh => by have := HK.out.2.2 (hh v hmem).2; cases this)
          subst hbf
          clear FCS HB HF HV
          go_wp2
          go_ret
          exact ⟨rfl, hB1'⟩
        | true =>
          have hck := HK.out.2.1 rfl
          have HK2 : Hid _ := And.intro HK.out.1 hck
          clear FCS hck HK
          go_wp2
          go_roundw
          case rel =>
            refine ⟨j + 1, by simp, by omega, ?_, hB1'⟩
            rw [List.take_add_one, HV.out]
            intro x hx
            simp at hx
            rcases hx with hx | rfl
            · exact HF.out x hx
            · exact HK2.out
          case measure => simp [intOf]; omega
    · have hjn' : ¬ ((j : Int) < (l.length : Int)) := by omega
      have hbt : b = true := b_true HB.out (by have := HF.out; rw [List.take_of_length_le (by omega)] at this; exact this)
      subst hbt
      go_wp2
      go_ret
      exact ⟨rfl, hB⟩

set_option maxRecDepth 20000 in
set_option maxHeartbeats 2000000 in
theorem robj_in {p : Option Addr} {S : List Om} (h : Ask w p S) (c : Nat) {H : Nat} (hH : RhAt w H p S.length c) (v : Vl) {o : Om} (ho : leadO S v = some o) :
    Calls Tryz.prog 59 #[.pointer (some ⟨H, 0, none⟩), .agg #[.int .u8 v.k, .int .i64 v.n]] w fun e w' => ∃ q co, e = .returned (.agg #[.int .u8 o.k, .string o.s, .slice q o.l.length co, .int .i64 o.room, .int .i64 o.fn]) ∧ Vals w q o.l ∧ (q = none → co = 0) ∧ Below w.heap.size w w' := by
  obtain ⟨-, -, -, i, hn, hi, hS⟩ := leadO_some ho
  obtain ⟨k, n⟩ := v
  simp only at hn
  subst hn
  have hlen := h.len
  have hB := below2' w (.cells #[.int .u8 k, .int .i64 ((i : Int) + 1)] 27) (.cells #[.int .u8 0, .string ⟨#[]⟩, .slice none 0 0, .int .i64 0, .int .i64 0] 96)
  have hb0 := (Below.heap_alloc _ (.cells #[.int .u8 0, .string ⟨#[]⟩, .slice none 0 0, .int .i64 0, .int .i64 0] 96) w.heap.size (by simp)).trans (heap_alloc_new w (.cells #[.int .u8 k, .int .i64 ((i : Int) + 1)] 27))
  have hb1 := heap_two w (.cells #[.int .u8 k, .int .i64 ((i : Int) + 1)] 27) (.cells #[.int .u8 0, .string ⟨#[]⟩, .slice none 0 0, .int .i64 0, .int .i64 0] 96)
  obtain ⟨b0, off, rfl, d0, d1, ⟨q, co, d2, hvo, hqn⟩, d3, d4⟩ := h.st.look hB hS
  have hc := (hH.below hB).cell
  obtain ⟨x0, x1⟩ := cell_row2 hb0
  obtain ⟨⟨z0, z1, z2, z3, z4⟩, y0, y1, y2, y3, y4⟩ := cell_row5 hb1
  have hiS : (i : Int) < (S.length : Int) := by omega
  clear ho hS h
  go_enter Tryz.func59, Tryz.ntmps59
  go_wp2_with fail
  generalize hW : (w.alloc (.cells #[.int .u8 k, .int .i64 ((i : Int) + 1)] 27)).alloc (.cells #[.int .u8 0, .string ⟨#[]⟩, .slice none 0 0, .int .i64 0, .int .i64 0] 96) = W at *
  clear hW
  go_region
  go_wp2
  have hb1d : W.drew.heap[w.heap.size + 1]? = _ := hb1
  refine bodyPost_ret (results_cell_row (by rfl) _ _ (w.heap.size + 1) 96 _ _ _ (by rfl) (set5_rowD hb1) Tryz.underlying96 (by rfl) infoO) (by rfl) ?_
  exact ⟨q, co, rfl, hvo, hqn, below_drew (below_set5 hB (by omega) _ _ _ _ _)⟩

set_option maxRecDepth 20000 in
set_option maxHeartbeats 1000000 in
theorem rNeg_in (H : Nat) (v : Vl) (w : World) {d : Rd} (hd : d = if v.k = 2 then { v := ⟨2, wrap64 (-v.n)⟩ } else { t := tKind }) : Calls Tryz.prog 19 #[.pointer (some ⟨H, 0, none⟩), .agg #[.int .u8 v.k, .int .i64 v.n]] w (RdR w d) := by
  have hB := below2' w (.cells #[.int .u8 v.k, .int .i64 v.n] 27) (.cells #[.int .u8 0, .int .i64 0, .string ⟨#[]⟩, .int .i64 0] 38)
  have hb0 := (Below.heap_alloc _ (.cells #[.int .u8 0, .int .i64 0, .string ⟨#[]⟩, .int .i64 0] 38) w.heap.size (by simp)).trans (heap_alloc_new w (.cells #[.int .u8 v.k, .int .i64 v.n] 27))
  have hb := heap_two w (.cells #[.int .u8 v.k, .int .i64 v.n] 27) (.cells #[.int .u8 0, .int .i64 0, .string ⟨#[]⟩, .int .i64 0] 38)
  obtain ⟨x0, x1⟩ := cell_row2 hb0
  by_cases h2 : v.k = 2
  · rw [if_pos h2] at hd
    subst hd
    obtain ⟨vk, vn⟩ := v
    simp only at h2
    subst h2
    simp only [show ((2 : Nat) : Int) = 2 from rfl] at hB hb0 hb x0 x1 ⊢
    have H1 := rInt_in (wrap64 (-vn)) ((w.alloc (.cells #[.int .u8 2, .int .i64 vn] 27)).alloc (.cells #[.int .u8 0, .int .i64 0, .string ⟨#[]⟩, .int .i64 0] 38))
    go_enter Tryz.func19, Tryz.ntmps19
    go_wp2_with (first
      | (go_at_call 64; (with_reducible refine H1.mono ?_); clear H1; rintro e w1 ⟨rfl, hB1⟩; have hr := (hB1.block _ (Array.getElem?_eq_some_iff.1 hb).1).trans hb; obtain ⟨⟨z0, z1, z2, z3⟩, y0, y1, y2, y3⟩ := cell_row4D hr))
    refine bodyPost_ret (results_cell_row (by rfl) _ _ (w.heap.size + 1) 38 _ _ _ (by rfl) (set4_rowD hr) Tryz.underlying38 (by rfl) infoRd) (by rfl) ?_
    exact ⟨rfl, below_set4 (hB.trans (hB1.mono hB.size)) (by omega) _ _ _ _⟩
  · rw [if_neg h2] at hd
    have h2' : ¬ ((v.k : Int) = 2) := by omega
    have H1 := thrown_in tKind ((w.alloc (.cells #[.int .u8 v.k, .int .i64 v.n] 27)).alloc (.cells #[.int .u8 0, .int .i64 0, .string ⟨#[]⟩, .int .i64 0] 38)) hd
    unfold tKind at H1
    clear hd
    go_enter Tryz.func19, Tryz.ntmps19
    go_wp2_with (first
      | (go_at_call 55; (with_reducible refine H1.mono ?_); clear H1; rintro e w1 ⟨rfl, hB1⟩; have hr := (hB1.block _ (Array.getElem?_eq_some_iff.1 hb).1).trans hb; obtain ⟨⟨z0, z1, z2, z3⟩, y0, y1, y2, y3⟩ := cell_row4D hr))
    refine bodyPost_ret (results_cell_row (by rfl) _ _ (w.heap.size + 1) 38 _ _ _ (by rfl) (set4_rowD hr) Tryz.underlying38 (by rfl) infoRd) (by rfl) ?_
    exact ⟨rfl, below_set4 (hB.trans (hB1.mono hB.size)) (by omega) _ _ _ _⟩

/-- What Not and Len come to. -/
def notR (S : List Om) (v : Vl) (d : Rd) : Prop := (fineP S [v] ∧ v.k = 1 ∧ d = { v := tru (v.n == 0) }) ∨ (¬ (fineP S [v] ∧ v.k = 1) ∧ d = { t := tKind })

def lenR (S : List Om) (v : Vl) (d : Rd) : Prop := (fineP S [v] ∧ ∃ o, leadO S v = some o ∧ ((v.k = 3 ∧ d = { v := ⟨2, (o.s.size : Int)⟩ }) ∨ (v.k = 4 ∧ d = { v := ⟨2, (o.l.length : Int)⟩ }) ∨ (v.k = 5 ∧ d = { v := ⟨2, (o.l.length : Int) / 2⟩ }))) ∨ (¬ (fineP S [v] ∧ (v.k = 3 ∨ v.k = 4 ∨ v.k = 5)) ∧ d = { t := tKind })

set_option maxRecDepth 20000 in
set_option maxHeartbeats 2000000 in
theorem rNot_in {p : Option Addr} {S : List Om} (h : Ask w p S) (c : Nat) {H : Nat} (hH : RhAt w H p S.length c) (v : Vl) {d : Rd} (hd : notR S v d) : Calls Tryz.prog 17 #[.pointer (some ⟨H, 0, none⟩), .agg #[.int .u8 v.k, .int .i64 v.n]] w (RdR w d) := by
  have hB := below2' w (.cells #[.int .u8 v.k, .int .i64 v.n] 27) (.cells #[.int .u8 0, .int .i64 0, .string ⟨#[]⟩, .int .i64 0] 38)
  have e0 := (Below.heap_alloc _ (.cells #[.int .u8 0, .int .i64 0, .string ⟨#[]⟩, .int .i64 0] 38) w.heap.size (by simp)).trans (heap_alloc_new w (.cells #[.int .u8 v.k, .int .i64 v.n] 27))
  have e1 := heap_two w (.cells #[.int .u8 v.k, .int .i64 v.n] 27) (.cells #[.int .u8 0, .int .i64 0, .string ⟨#[]⟩, .int .i64 0] 38)
  obtain ⟨x0, x1⟩ := cell_row2 e0
  have HD : Hid _ := hd
  clear hd
  go_enter Tryz.func17, Tryz.ntmps17
  go_wp2_with (first
    | (go_at_call 54; refine halt_here ?_))
  unfold Halted
  have hsz : ((w.alloc (.cells #[.int .u8 v.k, .int .i64 v.n] 27)).alloc (.cells #[.int .u8 0, .int .i64 0, .string ⟨#[]⟩, .int .i64 0] 38)).heap.size = w.heap.size + 1 + 1 := by simp
  generalize hW : (w.alloc (.cells #[.int .u8 v.k, .int .i64 v.n] 27)).alloc (.cells #[.int .u8 0, .int .i64 0, .string ⟨#[]⟩, .int .i64 0] 38) = W at *
  clear hW
  have hnew := heap_alloc_new W (.cells #[.int .u8 v.k, .int .i64 v.n] 27)
  have hBY := below1 W (.cells #[.int .u8 v.k, .int .i64 v.n] 27)
  rw [hsz] at hnew
  clear hsz
  have hB' := hB.trans (hBY.mono hB.size)
  obtain ⟨bf, hbf⟩ := b_of (fineP S [v])
  have HM := Fine_in (h.below hB') c (hH.below hB') (l := [v]) 1 (one_val hnew) (by simp) bf hbf
  refine Calls.mono HM ?_
  clear HM
  rintro e w1 ⟨rfl, hB1⟩
  have hB1' := hBY.trans (hB1.mono hBY.size)
  have hBw := hB.trans (hB1'.mono hB.size)
  have f0 := (hB1'.block _ (Array.getElem?_eq_some_iff.1 e0).1).trans e0
  have f1 := (hB1'.block _ (Array.getElem?_eq_some_iff.1 e1).1).trans e1
  clear x0 x1 e0 e1 hnew hB1 hB1' hBY hB'
  obtain ⟨x0, x1⟩ := cell_row2 f0
  have l1 := (Array.getElem?_eq_some_iff.1 f1).1
  cases bf with
  | false =>
    have hd : d = { t := tKind } := by
      rcases HD.out with ⟨hf, -⟩ | ⟨-, hh⟩
      · have := hbf.2 hf; cases this
      · exact hh
    clear HD hbf
    have H1 := thrown_in tKind w1 hd
    unfold tKind at H1
    clear hd
    go_wp2_with (first
      | (go_at_call 55; (with_reducible refine H1.mono ?_); clear H1; rintro e w2 ⟨rfl, hB2⟩; have hr := (hB2.block _ (Array.getElem?_eq_some_iff.1 f1).1).trans f1; obtain ⟨⟨z0, z1, z2, z3⟩, y0, y1, y2, y3⟩ := cell_row4D hr))
    refine bodyPost_ret (results_cell_row (by rfl) _ _ (w.heap.size + 1) 38 _ _ _ (by rfl) (set4_rowD hr) Tryz.underlying38 (by rfl) infoRd) (by rfl) ?_
    exact ⟨rfl, below_set4 (hBw.trans (hB2.mono hBw.size)) (by omega) _ _ _ _⟩
  | true =>
    have hf := hbf.1 rfl
    by_cases h1 : v.k = 1
    · have hd : d = { v := tru (v.n == 0) } := by
        rcases HD.out with ⟨-, -, hh⟩ | ⟨hn, -⟩
        · exact hh
        · exact (hn ⟨hf, h1⟩).elim
      subst hd
      obtain ⟨vk, vn⟩ := v
      simp only at h1
      subst h1
      simp only [show ((1 : Nat) : Int) = 1 from rfl] at x0 x1
      have H1 := rBool_in (vn == 0) w1
      clear HD hbf hf
      go_wp2_with (first
        | (go_at_call 56; (with_reducible refine H1.mono ?_); clear H1; rintro e w2 ⟨rfl, hB2⟩; have hr := (hB2.block _ (Array.getElem?_eq_some_iff.1 f1).1).trans f1; obtain ⟨⟨z0, z1, z2, z3⟩, y0, y1, y2, y3⟩ := cell_row4D hr))
      refine bodyPost_ret (results_cell_row (by rfl) _ _ (w.heap.size + 1) 38 _ _ _ (by rfl) (set4_rowD hr) Tryz.underlying38 (by rfl) infoRd) (by rfl) ?_
      exact ⟨rfl, below_set4 (hBw.trans (hB2.mono hBw.size)) (by omega) _ _ _ _⟩
    · have hd : d = { t := tKind } := by
        rcases HD.out with ⟨-, hh, -⟩ | ⟨-, hh⟩
        · exact (h1 hh).elim
        · exact hh
      have h1' : ¬ ((v.k : Int) = 1) := by omega
      have H1 := thrown_in tKind w1 hd
      unfold tKind at H1
      clear hd
      clear HD hbf hf
      go_wp2_with (first
        | (go_at_call 55; (with_reducible refine H1.mono ?_); clear H1; rintro e w2 ⟨rfl, hB2⟩; have hr := (hB2.block _ (Array.getElem?_eq_some_iff.1 f1).1).trans f1; obtain ⟨⟨z0, z1, z2, z3⟩, y0, y1, y2, y3⟩ := cell_row4D hr))
      refine bodyPost_ret (results_cell_row (by rfl) _ _ (w.heap.size + 1) 38 _ _ _ (by rfl) (set4_rowD hr) Tryz.underlying38 (by rfl) infoRd) (by rfl) ?_
      exact ⟨rfl, below_set4 (hBw.trans (hB2.mono hBw.size)) (by omega) _ _ _ _⟩

set_option maxRecDepth 20000 in
set_option maxHeartbeats 4000000 in
theorem rLen_in {p : Option Addr} {S : List Om} (h : Ask w p S) (c : Nat) {H : Nat} (hH : RhAt w H p S.length c) (v : Vl) {d : Rd} (hd : lenR S v d) : Calls Tryz.prog 21 #[.pointer (some ⟨H, 0, none⟩), .agg #[.int .u8 v.k, .int .i64 v.n]] w (RdR w d) := by
  have hB := below2' w (.cells #[.int .u8 v.k, .int .i64 v.n] 27) (.cells #[.int .u8 0, .int .i64 0, .string ⟨#[]⟩, .int .i64 0] 38)
  have e0 := (Below.heap_alloc _ (.cells #[.int .u8 0, .int .i64 0, .string ⟨#[]⟩, .int .i64 0] 38) w.heap.size (by simp)).trans (heap_alloc_new w (.cells #[.int .u8 v.k, .int .i64 v.n] 27))
  have e1 := heap_two w (.cells #[.int .u8 v.k, .int .i64 v.n] 27) (.cells #[.int .u8 0, .int .i64 0, .string ⟨#[]⟩, .int .i64 0] 38)
  obtain ⟨x0, x1⟩ := cell_row2 e0
  have HD : Hid _ := hd
  clear hd
  go_enter Tryz.func21, Tryz.ntmps21
  go_wp2_with (first
    | (go_at_call 54; refine halt_here ?_))
  unfold Halted
  have hsz : ((w.alloc (.cells #[.int .u8 v.k, .int .i64 v.n] 27)).alloc (.cells #[.int .u8 0, .int .i64 0, .string ⟨#[]⟩, .int .i64 0] 38)).heap.size = w.heap.size + 1 + 1 := by simp
  generalize hW : (w.alloc (.cells #[.int .u8 v.k, .int .i64 v.n] 27)).alloc (.cells #[.int .u8 0, .int .i64 0, .string ⟨#[]⟩, .int .i64 0] 38) = W at *
  clear hW
  have hnew := heap_alloc_new W (.cells #[.int .u8 v.k, .int .i64 v.n] 27)
  have hBY := below1 W (.cells #[.int .u8 v.k, .int .i64 v.n] 27)
  rw [hsz] at hnew
  clear hsz
  have hB' := hB.trans (hBY.mono hB.size)
  obtain ⟨bf, hbf⟩ := b_of (fineP S [v])
  have HM := Fine_in (h.below hB') c (hH.below hB') (l := [v]) 1 (one_val hnew) (by simp) bf hbf
  refine Calls.mono HM ?_
  clear HM
  rintro e w1 ⟨rfl, hB1⟩
  have hB1' := hBY.trans (hB1.mono hBY.size)
  have hBw := hB.trans (hB1'.mono hB.size)
  have f0 := (hB1'.block _ (Array.getElem?_eq_some_iff.1 e0).1).trans e0
  have f1 := (hB1'.block _ (Array.getElem?_eq_some_iff.1 e1).1).trans e1
  clear x0 x1 e0 e1 hnew hB1 hB1' hBY hB'
  obtain ⟨x0, x1⟩ := cell_row2 f0
  have l1 := (Array.getElem?_eq_some_iff.1 f1).1
  cases bf with
  | false =>
    have hd : d = { t := tKind } := by
      rcases HD.out with ⟨hf, -⟩ | ⟨-, hh⟩
      · have := hbf.2 hf; cases this
      · exact hh
    clear HD hbf
    have H1 := thrown_in tKind w1 hd
    unfold tKind at H1
    clear hd
    go_wp2_with (first
      | (go_at_call 55; (with_reducible refine H1.mono ?_); clear H1; rintro e w2 ⟨rfl, hB2⟩; have hr := (hB2.block _ (Array.getElem?_eq_some_iff.1 f1).1).trans f1; obtain ⟨⟨z0, z1, z2, z3⟩, y0, y1, y2, y3⟩ := cell_row4D hr))
    refine bodyPost_ret (results_cell_row (by rfl) _ _ (w.heap.size + 1) 38 _ _ _ (by rfl) (set4_rowD hr) Tryz.underlying38 (by rfl) infoRd) (by rfl) ?_
    exact ⟨rfl, below_set4 (hBw.trans (hB2.mono hBw.size)) (by omega) _ _ _ _⟩
  | true =>
    have hf := hbf.1 rfl
    rcases HD.out with ⟨-, o, hlo0, ⟨hk, hdk⟩ | ⟨hk, hdk⟩ | ⟨hk, hdk⟩⟩ | ⟨hn, hd⟩
    · have hd : d = { v := ⟨2, (o.s.size : Int)⟩ } := hdk
      subst hd
      obtain ⟨vk, vn⟩ := v
      simp only at hk
      subst hk
      have hlo := h.vals o (leadO_mem hlo0)
      have hso := h.str o (leadO_mem hlo0)
      have HO := robj_in (h.below hBw) c (hH.below hBw) ⟨3, vn⟩ hlo0
      simp only [show ((3 : Nat) : Int) = 3 from rfl] at x0 x1 HO
      have HF := fldO1
      clear HD hbf hf hlo0
      go_wp2_with (first
        | (go_at_call 59; (with_reducible refine HO.mono ?_); clear HO; rintro e w3 ⟨qo, co, rfl, -, -, hB3⟩; have hBw3 := hBw.trans (hB3.mono hBw.size); have f3 := (hB3.block _ l1).trans f1; have H1 := rInt_in ((o.s.size : Int)) w3)
        | (go_at_call 64; (with_reducible refine H1.mono ?_); clear H1; rintro e w2 ⟨rfl, hB2⟩; have hr := (hB2.block _ (Array.getElem?_eq_some_iff.1 f3).1).trans f3; obtain ⟨⟨z0, z1, z2, z3⟩, y0, y1, y2, y3⟩ := cell_row4D hr))
      refine bodyPost_ret (results_cell_row (by rfl) _ _ (w.heap.size + 1) 38 _ _ _ (by rfl) (set4_rowD hr) Tryz.underlying38 (by rfl) infoRd) (by rfl) ?_
      exact ⟨rfl, below_set4 (hBw3.trans (hB2.mono hBw3.size)) (by omega) _ _ _ _⟩
    · have hd : d = { v := ⟨2, (o.l.length : Int)⟩ } := hdk
      subst hd
      obtain ⟨vk, vn⟩ := v
      simp only at hk
      subst hk
      have hlo := h.vals o (leadO_mem hlo0)
      have hso := h.str o (leadO_mem hlo0)
      have HO := robj_in (h.below hBw) c (hH.below hBw) ⟨4, vn⟩ hlo0
      simp only [show ((4 : Nat) : Int) = 4 from rfl] at x0 x1 HO
      have HF := fldO2
      clear HD hbf hf hlo0
      go_wp2_with (first
        | (go_at_call 59; (with_reducible refine HO.mono ?_); clear HO; rintro e w3 ⟨qo, co, rfl, -, -, hB3⟩; have hBw3 := hBw.trans (hB3.mono hBw.size); have f3 := (hB3.block _ l1).trans f1; have H1 := rInt_in ((o.l.length : Int)) w3)
        | (go_at_call 64; (with_reducible refine H1.mono ?_); clear H1; rintro e w2 ⟨rfl, hB2⟩; have hr := (hB2.block _ (Array.getElem?_eq_some_iff.1 f3).1).trans f3; obtain ⟨⟨z0, z1, z2, z3⟩, y0, y1, y2, y3⟩ := cell_row4D hr))
      refine bodyPost_ret (results_cell_row (by rfl) _ _ (w.heap.size + 1) 38 _ _ _ (by rfl) (set4_rowD hr) Tryz.underlying38 (by rfl) infoRd) (by rfl) ?_
      exact ⟨rfl, below_set4 (hBw3.trans (hB2.mono hBw3.size)) (by omega) _ _ _ _⟩
    · have hd : d = { v := ⟨2, (o.l.length : Int) / 2⟩ } := hdk
      subst hd
      obtain ⟨vk, vn⟩ := v
      simp only at hk
      subst hk
      have hlo := h.vals o (leadO_mem hlo0)
      have hso := h.str o (leadO_mem hlo0)
      have HO := robj_in (h.below hBw) c (hH.below hBw) ⟨5, vn⟩ hlo0
      simp only [show ((5 : Nat) : Int) = 5 from rfl] at x0 x1 HO
      have HF := fldO2
      clear HD hbf hf hlo0
      go_wp2_with (first
        | (go_at_call 59; (with_reducible refine HO.mono ?_); clear HO; rintro e w3 ⟨qo, co, rfl, -, -, hB3⟩; have hBw3 := hBw.trans (hB3.mono hBw.size); have f3 := (hB3.block _ l1).trans f1; have H1 := rInt_in ((o.l.length : Int) / 2) w3)
        | (go_at_call 64; (with_reducible refine H1.mono ?_); clear H1; rintro e w2 ⟨rfl, hB2⟩; have hr := (hB2.block _ (Array.getElem?_eq_some_iff.1 f3).1).trans f3; obtain ⟨⟨z0, z1, z2, z3⟩, y0, y1, y2, y3⟩ := cell_row4D hr))
      refine bodyPost_ret (results_cell_row (by rfl) _ _ (w.heap.size + 1) 38 _ _ _ (by rfl) (set4_rowD hr) Tryz.underlying38 (by rfl) infoRd) (by rfl) ?_
      exact ⟨rfl, below_set4 (hBw3.trans (hB2.mono hBw3.size)) (by omega) _ _ _ _⟩
    · have h3' : ¬ ((v.k : Int) = 3) := fun e => hn ⟨hf, by omega⟩
      have h4' : ¬ ((v.k : Int) = 4) := fun e => hn ⟨hf, by omega⟩
      have h5' : ¬ ((v.k : Int) = 5) := fun e => hn ⟨hf, by omega⟩
      have H1 := thrown_in tKind w1 hd
      unfold tKind at H1
      clear hd
      clear HD hbf hf hn
      go_wp2_with (first
        | (go_at_call 55; (with_reducible refine H1.mono ?_); clear H1; rintro e w2 ⟨rfl, hB2⟩; have hr := (hB2.block _ (Array.getElem?_eq_some_iff.1 f1).1).trans f1; obtain ⟨⟨z0, z1, z2, z3⟩, y0, y1, y2, y3⟩ := cell_row4D hr))
      refine bodyPost_ret (results_cell_row (by rfl) _ _ (w.heap.size + 1) 38 _ _ _ (by rfl) (set4_rowD hr) Tryz.underlying38 (by rfl) infoRd) (by rfl) ?_
      exact ⟨rfl, below_set4 (hBw.trans (hB2.mono hBw.size)) (by omega) _ _ _ _⟩


end Go.Proofs.YtgokofomoachaaaGreatDoor
