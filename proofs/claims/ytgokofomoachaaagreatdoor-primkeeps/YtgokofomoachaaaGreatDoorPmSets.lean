/- prim: which values may be; an object; what is the same. -/
import Derived.Test.YtgokofomoachaaaGreatDoorPnDeed
import Derived.Test.YtgokofomoachaaaGreatDoorShCheck
import Derived.Laws.StructEq
import Derived.BigQuiet
namespace Go.Proofs.YtgokofomoachaaaGreatDoor
set_option linter.unusedVariables false
set_option linter.unusedSimpArgs false
open Go.RowKit

variable {w : World}

/-- May these values be, none of them a cell? -/
def fineP (S : List Om) (l : List Vl) : Prop := ∀ v ∈ l, v.k ≠ 7 ∧ checkP S v

theorem Ask.small {p : Option Addr} {S : List Om} (h : Ask w p S) : Small S := ⟨h.len, h.vals, h.str⟩

theorem Ask.check {p : Option Addr} {S : List Om} (h : Ask w p S) (c : Nat) (v : Vl) (b : Bool) (hb : b = true ↔ checkP S v) :
    Calls Tryz.prog 43 #[.slice p S.length c, .agg #[.int .u8 v.k, .int .i64 v.n]] w fun e w' => e = .returned (.bool b) ∧ Below w.heap.size w w' :=
  Check_in c h.st h.small (fun o ho => (h.fit o ho).2.1) v b hb

/-- May these values be? -/
def mayL (S : List Om) (l : List Vl) : Prop := ∀ v ∈ l, checkP S v

set_option maxRecDepth 20000 in
set_option maxHeartbeats 2000000 in
theorem pmayBe_in {p : Option Addr} {S : List Om} (h : Ask w p S) (c : Nat) {q : Option Addr} {l : List Vl} (cq : Nat) (hv : Vals w q l) (hl : l.length ≤ 100000) (b : Bool) (hb : b = true ↔ mayL S l) :
    Calls Tryz.prog 49 #[.slice p S.length c, .slice q l.length cq] w fun e w' => e = .returned (.bool b) ∧ Below w.heap.size w w' := by
  go_enter Tryz.func49, Tryz.ntmps49
  go_wp2
  go_loopw [9] (fun k wr => ∃ j : Nat, k = .int .i64 j ∧ j ≤ l.length ∧ mayL S (l.take j) ∧ Below w.heap.size w wr) (fun k _ => l.length - (intOf k).toNat)
  case atStart => exact ⟨0, rfl, by omega, (fun v hv => by simp at hv), Below.refl _ _⟩
  case round =>
    obtain ⟨j, rfl, hj, hf, hB⟩ := hrel
    have HF : Hid _ := And.intro hf hb
    clear hf hb
    have hsz := hB.size
    by_cases hjn : j < l.length
    · have hjn' : (j : Int) < (l.length : Int) := by omega
      obtain ⟨v, hvj⟩ : ∃ v, l[j]? = some v := ⟨l[j], by simp⟩
      obtain ⟨b0, off, rfl, c0, c1⟩ := (hv.below hB) j v hvj
      have HV : Hid _ := hvj
      clear hvj
      have hmem : v ∈ l := List.mem_of_getElem? HV.out
      have hB1 : Below w.heap.size w (wr.alloc (.cells #[.int .u8 v.k, .int .i64 v.n] 27)) := hB.alloc hsz _
      obtain ⟨x0, x1⟩ := cell_row2 (heap_alloc_new wr (.cells #[.int .u8 v.k, .int .i64 v.n] 27))
      obtain ⟨bc, hbc⟩ := b_of (checkP S v)
      have HC := (h.below hB1).check c v bc hbc
      cases bc with
      | false =>
        have hbf : b = false := b_false HF.out.2 (fun hh => by have := hbc.2 (hh v hmem); cases this)
        subst hbf
        clear HF HV hbc
        go_wp2_with (first
          | (go_at_call 43; (with_reducible refine HC.mono ?_); clear HC; rintro e w2 ⟨rfl, hB2⟩))
        go_ret
        exact ⟨rfl, hB1.trans (hB2.mono hB1.size)⟩
      | true =>
        have HK : Hid _ := hbc.1 rfl
        clear hbc
        go_wp2_with (first
          | (go_at_call 43; (with_reducible refine HC.mono ?_); clear HC; rintro e w2 ⟨rfl, hB2⟩))
        go_roundw
        case rel =>
          refine ⟨j + 1, by simp, by omega, ?_, hB1.trans (hB2.mono hB1.size)⟩
          rw [List.take_add_one, HV.out]
          intro x hx
          simp at hx
          rcases hx with hx | rfl
          · exact HF.out.1 x hx
          · exact HK.out
        case measure => simp [intOf]; omega
    · have hjn' : ¬ ((j : Int) < (l.length : Int)) := by omega
      have hbt : b = true := b_true HF.out.2 (by have := HF.out.1; rw [List.take_of_length_le (by omega)] at this; exact this)
      subst hbt
      go_wp2
      go_ret
      exact ⟨rfl, hB⟩

set_option maxRecDepth 20000 in
set_option maxHeartbeats 1000000 in
theorem object_in {p : Option Addr} {S : List Om} (h : Ask w p S) (c : Nat) (v : Vl) {o : Om} (ho : leadO S v = some o) :
    Calls Tryz.prog 175 #[.slice p S.length c, .agg #[.int .u8 v.k, .int .i64 v.n]] w fun e w' => ∃ q co, e = .returned (.agg #[.int .u8 o.k, .string o.s, .slice q o.l.length co, .int .i64 o.room, .int .i64 o.fn]) ∧ Vals w q o.l ∧ (q = none → co = 0) ∧ Below w.heap.size w w' := by
  obtain ⟨-, -, -, i, hn, hi, hS⟩ := leadO_some ho
  obtain ⟨k, n⟩ := v
  simp only at hn
  subst hn
  obtain ⟨b0, off, rfl, c0, c1, ⟨q, co, c2, hvo, hqn⟩, c3, c4⟩ := h.st i o hS
  have hlen := h.len
  have hlt := World.block_lt_of_cell? w _ c0
  have hne : b0 ≠ w.heap.size := by have : b0 < w.heap.size := hlt; omega
  have hne1 : b0 ≠ w.heap.size + 1 := by have : b0 < w.heap.size := hlt; omega
  have hB := below2' w (.cells #[.int .u8 k, .int .i64 ((i : Int) + 1)] 27) (.cells #[.int .u8 0, .string ⟨#[]⟩, .slice none 0 0, .int .i64 0, .int .i64 0] 96)
  have hb0 := (Below.heap_alloc _ (.cells #[.int .u8 0, .string ⟨#[]⟩, .slice none 0 0, .int .i64 0, .int .i64 0] 96) w.heap.size (by simp)).trans (heap_alloc_new w (.cells #[.int .u8 k, .int .i64 ((i : Int) + 1)] 27))
  have hb1 := heap_two w (.cells #[.int .u8 k, .int .i64 ((i : Int) + 1)] 27) (.cells #[.int .u8 0, .string ⟨#[]⟩, .slice none 0 0, .int .i64 0, .int .i64 0] 96)
  obtain ⟨b0', off', e', d0, d1, ⟨q', co', d2, -⟩, d3, d4⟩ := h.st.look hB hS
  cases e'
  have hq := (hB.cell (p := ⟨b0, off + i * 5 + 2, none⟩) hlt).trans c2
  rw [d2] at hq
  cases hq
  have hiS : (i : Int) < (S.length : Int) := by omega
  clear ho hS h
  go_enter Tryz.func175, Tryz.ntmps175
  go_wp2
  refine bodyPost_ret (results_cell_row (by rfl) _ _ (w.heap.size + 1) 96 _ _ _ (by rfl) (heap_two w _ _) Tryz.underlying96 (by rfl) infoO) (by rfl) ?_
  exact ⟨_, _, rfl, hvo, hqn, below2' _ _ _⟩

/-- One of all values that are the same. -/
structure Ess where
  k : Nat
  n : Int
  s : ByteArray

def essP (S : List Om) (v : Vl) : Ess := if v.k = 3 then ⟨3, 0, match leadO S v with | some o => o.s | none => ⟨#[]⟩⟩ else ⟨v.k, v.n, ⟨#[]⟩⟩

def Ess.V (e : Ess) : Value := .agg #[.int .u8 e.k, .int .i64 e.n, .string e.s]

theorem infoEss : (Tryz.prog.info? 324).map (·.size) = some 3 := by kernel_rfl

theorem set3_row {W : World} {g : Nat} {a b c x0 x1 x2 : Value} {t : TypeId} (h : W.heap[g]? = some (.cells #[a, b, c] t (0, 0))) : (((W.setCell ⟨g, 0, none⟩ x0).setCell ⟨g, 1, none⟩ x1).setCell ⟨g, 2, none⟩ x2).heap[g]? = some (.cells #[x0, x1, x2] t (0, 0)) := by
  have h1 := heap_setCell_same W g 0 _ t x0 h
  have h2 := heap_setCell_same _ g 1 _ t x1 h1
  have h3 := heap_setCell_same _ g 2 _ t x2 h2
  simpa using h3

theorem cell_row3P {W : World} {g : Nat} {a b c : Value} {t : TypeId} (h : W.heap[g]? = some (.cells #[a, b, c] t (0, 0))) : (W.cell? ⟨g, 0, none⟩ = some a ∧ W.cell? ⟨g, 1, none⟩ = some b ∧ W.cell? ⟨g, 2, none⟩ = some c) ∧ W.frozen? ⟨g, 0, none⟩ = false ∧ W.frozen? ⟨g, 1, none⟩ = false ∧ W.frozen? ⟨g, 2, none⟩ = false :=
  ⟨⟨by rw [cell_of_row W g 0 _ _ _ h]; rfl, by rw [cell_of_row W g 1 _ _ _ h]; rfl, by rw [cell_of_row W g 2 _ _ _ h]; rfl⟩, frozen_of_row W g 0 _ _ h, frozen_of_row W g 1 _ _ h, frozen_of_row W g 2 _ _ h⟩

theorem fldO1 (W : World) (a c d e : Value) (s : ByteArray) : (Instr.field 96 (.agg #[a, .string s, c, d, e]) 1).run Tryz.prog W = .ok (.string s) W := by kernel_rfl

theorem fldO2 (W : World) (a b d e : Value) (q : Option Addr) (n c : Nat) : (Instr.field 96 (.agg #[a, b, .slice q n c, d, e]) 2).run Tryz.prog W = .ok (.slice q n c) W := by kernel_rfl

set_option maxRecDepth 20000 in
set_option maxHeartbeats 1000000 in
theorem essenceOf_in {p : Option Addr} {S : List Om} (h : Ask w p S) (c : Nat) (v : Vl) (ht : v.k = 3 → leadO S v ≠ none) :
    Calls Tryz.prog 252 #[.slice p S.length c, .agg #[.int .u8 v.k, .int .i64 v.n]] w fun e w' => e = .returned (essP S v).V ∧ Below w.heap.size w w' := by
  have hB := below2' w (.cells #[.int .u8 v.k, .int .i64 v.n] 27) (.cells #[.int .u8 0, .int .i64 0, .string ⟨#[]⟩] 324)
  have hb0 := (Below.heap_alloc _ (.cells #[.int .u8 0, .int .i64 0, .string ⟨#[]⟩] 324) w.heap.size (by simp)).trans (heap_alloc_new w (.cells #[.int .u8 v.k, .int .i64 v.n] 27))
  have hb1 := heap_two w (.cells #[.int .u8 v.k, .int .i64 v.n] 27) (.cells #[.int .u8 0, .int .i64 0, .string ⟨#[]⟩] 324)
  by_cases h3 : v.k = 3
  · obtain ⟨o, ho⟩ := Option.ne_none_iff_exists'.1 (ht h3)
    have he : essP S v = ⟨3, 0, o.s⟩ := by unfold essP; rw [if_pos h3, ho]
    rw [he]
    unfold Ess.V
    have H1 := object_in (h.below hB) c v ho
    have HF := fldO1
    obtain ⟨k, n⟩ := v
    simp only at h3
    subst h3
    simp only [show ((3 : Nat) : Int) = 3 from rfl] at H1 hb0 hb1 hB
    clear ht he ho
    go_enter Tryz.func252, Tryz.ntmps252
    go_wp2_with (first
      | (go_at_call 175; (with_reducible refine H1.mono ?_); clear H1; rintro e w1 ⟨q, co, rfl, -, -, hB1⟩; have hr := (hB1.block _ (Array.getElem?_eq_some_iff.1 hb1).1).trans hb1; obtain ⟨⟨z0, z1, z2⟩, y0, y1, y2⟩ := cell_row3P hr))
    refine bodyPost_ret (results_cell_row (by rfl) _ _ (w.heap.size + 1) 324 _ _ _ (by rfl) (set3_row hr) Tryz.underlying324 (by rfl) infoEss) (by rfl) ?_
    exact ⟨rfl, below_set (below_set (below_set (hB.trans (hB1.mono hB.size)) (by omega) _) (by omega) _) (by omega) _⟩
  · have he : essP S v = ⟨v.k, v.n, ⟨#[]⟩⟩ := by unfold essP; rw [if_neg h3]
    rw [he]
    unfold Ess.V
    have h3' : ((v.k : Int) == 3) = false := by simp; omega
    have h3n : ¬ ((v.k : Int) = 3) := by omega
    clear ht he h3
    go_enter Tryz.func252, Tryz.ntmps252
    go_wp2
    refine bodyPost_ret (results_cell_row (by rfl) _ _ (w.heap.size + 1) 324 _ _ _ (by rfl) (heap_two w _ _) Tryz.underlying324 (by rfl) infoEss) (by rfl) ?_
    exact ⟨rfl, below2' _ _ _⟩

theorem eqlVal (w : World) (a b : Vl) (r : Bool) (hr : r = true ↔ a = b) : (binOp .eql 27 (.agg #[.int .u8 a.k, .int .i64 a.n]) (.agg #[.int .u8 b.k, .int .i64 b.n])).run Tryz.prog w = .ok (.bool r) w := by
  obtain ⟨k, n⟩ := a
  obtain ⟨k', n'⟩ := b
  go_simp
  cases r with
  | true =>
    have := hr.1 rfl
    cases this
    simp
  | false =>
    have hn : ¬ (k = k' ∧ n = n') := fun ⟨h1, h2⟩ => by subst h1 h2; have := hr.2 rfl; cases this
    by_cases h1 : k = k'
    · have h2 : ¬ n = n' := fun h => hn ⟨h1, h⟩
      rw [if_pos (by rw [h1]), if_neg h2]
    · rw [if_neg (by omega)]

theorem essP_plain {S : List Om} {a b : Vl} (h : ¬ (a.k = 3 ∧ b.k = 3)) : essP S a = essP S b ↔ a = b := by
  obtain ⟨k, n⟩ := a
  obtain ⟨k', n'⟩ := b
  simp only at h
  unfold essP
  by_cases h1 : k = 3
  · have h2 : ¬ k' = 3 := fun e => h ⟨h1, e⟩
    subst h1
    rw [if_pos rfl, if_neg h2]
    constructor
    · intro e
      have := congrArg Ess.k e
      exact (h2 this.symm).elim
    · intro e
      have := congrArg Vl.k e
      exact (h2 this.symm).elim
  · rw [if_neg h1]
    by_cases h2 : k' = 3
    · subst h2
      rw [if_pos rfl]
      constructor
      · intro e; have := congrArg Ess.k e; exact (h1 this).elim
      · intro e; have := congrArg Vl.k e; exact (h1 this).elim
    · rw [if_neg h2]
      constructor
      · intro e; injection e with e1 e2; subst e1 e2; rfl
      · intro e; injection e with e1 e2; subst e1 e2; rfl

set_option maxRecDepth 20000 in
set_option maxHeartbeats 2000000 in
theorem psame_in {p : Option Addr} {S : List Om} (h : Ask w p S) (c : Nat) (a b : Vl) (ha : a.k = 3 → leadO S a ≠ none) (hb : b.k = 3 → leadO S b ≠ none) (r : Bool) (hr : r = true ↔ essP S a = essP S b) :
    Calls Tryz.prog 172 #[.slice p S.length c, .agg #[.int .u8 a.k, .int .i64 a.n], .agg #[.int .u8 b.k, .int .i64 b.n]] w fun e w' => e = .returned (.bool r) ∧ Below w.heap.size w w' := by
  have hB := below2' w (.cells #[.int .u8 a.k, .int .i64 a.n] 27) (.cells #[.int .u8 b.k, .int .i64 b.n] 27)
  have hb0 := (Below.heap_alloc _ (.cells #[.int .u8 b.k, .int .i64 b.n] 27) w.heap.size (by simp)).trans (heap_alloc_new w (.cells #[.int .u8 a.k, .int .i64 a.n] 27))
  have hb1 := heap_two w (.cells #[.int .u8 a.k, .int .i64 a.n] 27) (.cells #[.int .u8 b.k, .int .i64 b.n] 27)
  by_cases h33 : a.k = 3 ∧ b.k = 3
  · obtain ⟨k, n⟩ := a
    obtain ⟨k', n'⟩ := b
    simp only at h33
    obtain ⟨e1, e2⟩ := h33
    subst e1 e2
    obtain ⟨oa, hoa⟩ := Option.ne_none_iff_exists'.1 (ha rfl)
    obtain ⟨ob, hob⟩ := Option.ne_none_iff_exists'.1 (hb rfl)
    have hq : r = true ↔ oa.s = ob.s := by
      rw [hr]
      unfold essP
      rw [if_pos rfl, if_pos rfl, hoa, hob]
      simp
    obtain rfl : r = (oa.s.toList == ob.s.toList) := by
      rw [Bool.eq_iff_iff, hq, beq_iff_eq]
      exact ⟨fun h => by rw [h], fun h => by
        rw [ByteArray.toList_eq, ByteArray.toList_eq] at h
        revert h
        generalize oa.s = sa
        generalize ob.s = sb
        intro h
        obtain ⟨⟨x⟩⟩ := sa
        obtain ⟨⟨y⟩⟩ := sb
        simp only at h
        subst h; rfl⟩
    have H1 := fun (W : World) (hB : Below w.heap.size w W) => object_in (h.below hB) c ⟨3, n⟩ hoa
    have H2 := fun (W : World) (hB : Below w.heap.size w W) => object_in (h.below hB) c ⟨3, n'⟩ hob
    have HF := fldO1
    simp only [show ((3 : Nat) : Int) = 3 from rfl] at H1 H2 hb0 hb1 hB ⊢
    clear ha hb hr hq hoa hob
    obtain ⟨x0, x1⟩ := cell_row2 hb0
    obtain ⟨y0, y1⟩ := cell_row2 hb1
    go_enter Tryz.func172, Tryz.ntmps172
    go_wp2_with fail
    generalize hW : (w.alloc (.cells #[.int .u8 3, .int .i64 n] 27)).alloc (.cells #[.int .u8 3, .int .i64 n'] 27) = W at *
    clear hW
    have hl0 := (Array.getElem?_eq_some_iff.1 hb0).1
    have hl1 := (Array.getElem?_eq_some_iff.1 hb1).1
    have FCS : ∀ W', Below W.heap.size W W' → (W'.cell? ⟨w.heap.size, 0, none⟩ = some (.int .u8 3) ∧ W'.cell? ⟨w.heap.size, 1, none⟩ = some (.int .i64 n)) ∧ W'.cell? ⟨w.heap.size + 1, 0, none⟩ = some (.int .u8 3) ∧ W'.cell? ⟨w.heap.size + 1, 1, none⟩ = some (.int .i64 n') := fun W' hb => ⟨cell_row2 ((hb.block _ hl0).trans hb0), cell_row2 ((hb.block _ hl1).trans hb1)⟩
    have hD := below_drew (Below.refl W.heap.size W)
    have hBd : Below w.heap.size w W.drew := hB.trans (hD.mono hB.size)
    have S0 := FCS _ hD
    have SW := FCS _ (Below.refl _ _)
    go_region_held3 (fun W => (W.cell? ⟨w.heap.size, 0, none⟩ = some (.int .u8 3) ∧ W.cell? ⟨w.heap.size, 1, none⟩ = some (.int .i64 n)) ∧ W.cell? ⟨w.heap.size + 1, 0, none⟩ = some (.int .u8 3) ∧ W.cell? ⟨w.heap.size + 1, 1, none⟩ = some (.int .i64 n')) (first | with_reducible exact S0 | with_reducible exact SW | with_reducible exact S1 | with_reducible exact S2 | go_keep)
      (first
        | (go_at_call 175; (with_reducible refine (H1 W.drew hBd).mono ?_); rintro e w1 ⟨q1, co1, rfl, -, -, hB1⟩; have hD1 := hD.trans (hB1.mono hD.size); have S1 := FCS _ hD1; have hB1' := hB.trans (hD1.mono hB.size))
        | (go_at_call 175; (with_reducible refine (H2 w1 hB1').mono ?_); rintro e w2 ⟨q2, co2, rfl, -, -, hB2⟩; have hD2 := hD1.trans (hB2.mono hD1.size); have S2 := FCS _ hD2))
    all_goals
      go_wp2
      go_ret
      exact ⟨rfl, hB.trans (hD2.mono hB.size)⟩
  · rw [essP_plain h33] at hr
    have HQ := fun (W : World) => eqlVal W a b r hr
    obtain ⟨x0, x1⟩ := cell_row2 hb0
    obtain ⟨y0, y1⟩ := cell_row2 hb1
    clear ha hb hr
    by_cases h1 : a.k = 3
    · have h2 : ¬ b.k = 3 := fun e => h33 ⟨h1, e⟩
      obtain ⟨ka, na⟩ := a
      simp only at h1
      subst h1
      have h2' : ¬ (b.k : Int) = 3 := by omega
      simp only [show ((3 : Nat) : Int) = 3 from rfl] at hB hb0 hb1 x0 x1 y0 y1 HQ ⊢
      clear h33
      go_enter Tryz.func172, Tryz.ntmps172
      go_wp2
      go_ret
      exact ⟨rfl, hB⟩
    · have h1' : ¬ (a.k : Int) = 3 := by omega
      clear h33
      go_enter Tryz.func172, Tryz.ntmps172
      go_wp2
      go_ret
      exact ⟨rfl, hB⟩

end Go.Proofs.YtgokofomoachaaaGreatDoor

namespace Go.Proofs.YtgokofomoachaaaGreatDoor
set_option linter.unusedVariables false
set_option linter.unusedSimpArgs false
open Go.RowKit

variable {w : World}

/-- Texts among values lead to objects. -/
def TextOk (S : List Om) (l : List Vl) : Prop := ∀ v ∈ l, v.k = 3 → leadO S v ≠ none

/-- Where a key stands first. -/
def KeyAt (S : List Om) (l : List Vl) (k : Vl) : Option Nat → Prop
  | some i => i % 2 = 0 ∧ (∃ x, l[i]? = some x ∧ essP S x = essP S k) ∧ ∀ (j : Nat) y, j < i → j % 2 = 0 → l[j]? = some y → essP S y ≠ essP S k
  | none => ∀ (j : Nat) y, j % 2 = 0 → l[j]? = some y → essP S y ≠ essP S k

theorem keyAt_ex (S : List Om) (l : List Vl) (k : Vl) : ∃ r, KeyAt S l k r := by
  by_cases h : ∃ i : Nat, i % 2 = 0 ∧ ∃ x, l[i]? = some x ∧ essP S x = essP S k
  · have key : ∀ n : Nat, (∃ i : Nat, i ≤ n ∧ i % 2 = 0 ∧ ∃ x, l[i]? = some x ∧ essP S x = essP S k) → ∃ i : Nat, i % 2 = 0 ∧ (∃ x, l[i]? = some x ∧ essP S x = essP S k) ∧ ∀ (j : Nat) y, j < i → j % 2 = 0 → l[j]? = some y → essP S y ≠ essP S k := by
      intro n
      induction n with
      | zero =>
        rintro ⟨i, hi, h1, h2⟩
        have : i = 0 := by omega
        subst this
        exact ⟨0, h1, h2, fun j y hj => by omega⟩
      | succ n ih =>
        rintro ⟨i, hi, h1, h2⟩
        by_cases hs : ∃ i : Nat, i ≤ n ∧ i % 2 = 0 ∧ ∃ x, l[i]? = some x ∧ essP S x = essP S k
        · exact ih hs
        · exact ⟨i, h1, h2, fun j y hj hj2 hy e => hs ⟨j, by omega, hj2, y, hy, e⟩⟩
    obtain ⟨i, h1, h2⟩ := h
    obtain ⟨i, hh⟩ := key i ⟨i, Nat.le_refl _, h1, h2⟩
    exact ⟨some i, hh⟩
  · exact ⟨none, fun j y hj hy e => h ⟨j, hj, y, hy, e⟩⟩

set_option maxRecDepth 20000 in
set_option maxHeartbeats 2000000 in
theorem keyAt_in {p : Option Addr} {S : List Om} (h : Ask w p S) (c : Nat) {q : Option Addr} {l : List Vl} (cq : Nat) (hv : Vals w q l) (hl : l.length ≤ 1000000) (ht : TextOk S l) (k : Vl) (hk : k.k = 3 → leadO S k ≠ none) (r : Option Nat) (hr : KeyAt S l k r) :
    Calls Tryz.prog 257 #[.slice p S.length c, .slice q l.length cq, .agg #[.int .u8 k.k, .int .i64 k.n]] w fun e w' => e = .returned (.tuple #[.int .i64 (r.getD 0 : Nat), .bool r.isSome]) ∧ Below w.heap.size w w' := by
  have hB0 := below1 w (.cells #[.int .u8 k.k, .int .i64 k.n] 27)
  have hb0 := heap_alloc_new w (.cells #[.int .u8 k.k, .int .i64 k.n] 27)
  go_enter Tryz.func257, Tryz.ntmps257
  go_wp2
  go_loopw [8] (fun s8 wr => ∃ j : Nat, s8 = .int .i64 j ∧ j % 2 = 0 ∧ j ≤ l.length + 1 ∧ (∀ (i : Nat) y, i < j → i % 2 = 0 → l[i]? = some y → essP S y ≠ essP S k) ∧ Below w.heap.size w wr ∧ wr.heap[w.heap.size]? = some (.cells #[.int .u8 k.k, .int .i64 k.n] 27 (0, 0))) (fun s8 _ => l.length + 1 - (intOf s8).toNat)
  case atStart => exact ⟨0, rfl, rfl, by omega, (fun i y hi => by omega), hB0, hb0⟩
  case round =>
    obtain ⟨j, rfl, hj2, hj, hno, hB, hbx⟩ := hrel
    have hsz := hB.size
    have hbl := (Array.getElem?_eq_some_iff.1 hbx).1
    have HN : Hid _ := And.intro hno (And.intro hr hj2)
    clear hno hr hj2
    by_cases hjl : j < l.length
    · have hjl' : (j : Int) < (l.length : Int) := by omega
      obtain ⟨x, hx⟩ : ∃ x, l[j]? = some x := ⟨l[j], by simp⟩
      have hxm := List.mem_of_getElem? hx
      obtain ⟨bq, off, rfl, c0, c1⟩ := hv j x hx
      have hbq : bq < w.heap.size := World.block_lt_of_cell? w _ c0
      obtain ⟨rs, hrs⟩ := b_of (essP S x = essP S k)
      have H1 := fun (W : World) (hB : Below w.heap.size w W) => psame_in (h.below hB) c x k (ht x hxm) hk rs hrs
      have FCS : ∀ W', Below wr.heap.size wr W' → (W'.cell? ⟨bq, off + j * 2, none⟩ = some (.int .u8 x.k) ∧ W'.cell? ⟨bq, off + j * 2 + 1, none⟩ = some (.int .i64 x.n)) ∧ W'.cell? ⟨w.heap.size, 0, none⟩ = some (.int .u8 k.k) ∧ W'.cell? ⟨w.heap.size, 1, none⟩ = some (.int .i64 k.n) := fun W' hb => by
        have hBw := hB.trans (hb.mono hsz)
        exact ⟨⟨(hBw.cell (p := ⟨bq, off + j * 2, none⟩) hbq).trans c0, (hBw.cell (p := ⟨bq, off + j * 2 + 1, none⟩) hbq).trans c1⟩, cell_row2 ((hb.block _ hbl).trans hbx)⟩
      have HX : Hid _ := And.intro hx hrs
      clear hx hrs hxm
      have hD := below_drew (Below.refl wr.heap.size wr)
      have hBd : Below w.heap.size w wr.drew := hB.trans (hD.mono hsz)
      have S0 := FCS _ hD
      have SW := FCS _ (Below.refl _ _)
      have H1d := H1 wr.drew hBd
      clear H1
      go_wp2_with fail
      go_region_held3 (fun W => (W.cell? ⟨bq, off + j * 2, none⟩ = some (.int .u8 x.k) ∧ W.cell? ⟨bq, off + j * 2 + 1, none⟩ = some (.int .i64 x.n)) ∧ W.cell? ⟨w.heap.size, 0, none⟩ = some (.int .u8 k.k) ∧ W.cell? ⟨w.heap.size, 1, none⟩ = some (.int .i64 k.n)) (first | with_reducible exact S0 | with_reducible exact SW | with_reducible exact S1 | go_keep)
        (first
          | (go_at_call 172; (with_reducible refine H1d.mono ?_); rintro e w1 ⟨rfl, hB1⟩; have hD1 := hD.trans (hB1.mono hD.size); have S1 := FCS _ hD1))
      have hB1' := hB.trans (hD1.mono hsz)
      have hbx1 := (hD1.block _ hbl).trans hbx
      cases rs with
      | true =>
        have hrj : r = some j := by
          have he := HX.out.2.1 rfl
          cases r with
          | none => exact (HN.out.2.1 j x HN.out.2.2 HX.out.1 he).elim
          | some i =>
            obtain ⟨h1, ⟨y, hy, hye⟩, h2⟩ := HN.out.2.1
            have : i = j := by
              rcases Nat.lt_trichotomy i j with hlt | heq | hgt
              · exact (HN.out.1 i y hlt h1 hy hye).elim
              · exact heq
              · exact (h2 j x hgt HN.out.2.2 HX.out.1 he).elim
            rw [this]
        subst hrj
        clear HN HX FCS
        go_wp2
        go_ret2
        exact ⟨rfl, hB1'⟩
      | false =>
        clear FCS
        go_wp2
        go_roundw
        case rel =>
          refine ⟨j + 2, by simp, by have := HN.out.2.2; omega, by omega, ?_, hB1', hbx1⟩
          intro i y hi hi2 hy
          by_cases hij : i < j
          · exact HN.out.1 i y hij hi2 hy
          · have : i = j := by have := HN.out.2.2; omega
            subst this
            rw [HX.out.1] at hy; cases hy
            intro e
            have := HX.out.2.2 e; cases this
        case measure => simp [intOf]; omega
    · have hjl' : ¬ ((j : Int) < (l.length : Int)) := by omega
      have hrn : r = none := by
        cases r with
        | none => rfl
        | some i =>
          obtain ⟨h1, ⟨y, hy, hye⟩, h2⟩ := HN.out.2.1
          have := (List.getElem?_eq_some_iff.1 hy).1
          exact (HN.out.1 i y (by omega) h1 hy hye).elim
      subst hrn
      clear HN
      go_wp2
      go_ret2
      exact ⟨rfl, hB⟩

/-- The value of a key. -/
def mval (l : List Vl) : Option Nat → Vl
  | some i => l.getD (i + 1) ⟨0, 0⟩
  | none => ⟨0, 0⟩

theorem set2P {W : World} {g : Nat} {a b x0 x1 : Value} {t : TypeId} (h : W.heap[g]? = some (.cells #[a, b] t (0, 0))) : ((W.setCell ⟨g, 0, none⟩ x0).setCell ⟨g, 1, none⟩ x1).heap[g]? = some (.cells #[x0, x1] t (0, 0)) := by
  have h1 := heap_setCell_same W g 0 _ t x0 h
  have h2 := heap_setCell_same _ g 1 _ t x1 h1
  simpa using h2

set_option maxRecDepth 20000 in
set_option maxHeartbeats 2000000 in
theorem valueOf_in {p : Option Addr} {S : List Om} (h : Ask w p S) (c : Nat) {q : Option Addr} {l : List Vl} (cq : Nat) (hv : Vals w q l) (hl : l.length ≤ 1000000) (hl2 : l.length % 2 = 0) (ht : TextOk S l) (k : Vl) (hk : k.k = 3 → leadO S k ≠ none) (r : Option Nat) (hr : KeyAt S l k r) (x : Vl) (hx : x = mval l r) :
    Calls Tryz.prog 233 #[.slice p S.length c, .slice q l.length cq, .agg #[.int .u8 k.k, .int .i64 k.n]] w fun e w' => e = .returned (.agg #[.int .u8 x.k, .int .i64 x.n]) ∧ Below w.heap.size w w' := by
  have hB := below2' w (.cells #[.int .u8 k.k, .int .i64 k.n] 27) (.cells #[.int .u8 0, .int .i64 0] 27)
  have hb0 := (Below.heap_alloc _ (.cells #[.int .u8 0, .int .i64 0] 27) w.heap.size (by simp)).trans (heap_alloc_new w (.cells #[.int .u8 k.k, .int .i64 k.n] 27))
  have hb1 := heap_two w (.cells #[.int .u8 k.k, .int .i64 k.n] 27) (.cells #[.int .u8 0, .int .i64 0] 27)
  have H1 := keyAt_in (h.below hB) c cq (hv.below hB) hl ht k hk r hr
  obtain ⟨x0, x1⟩ := cell_row2 hb0
  cases r with
  | none =>
    simp only [mval] at hx
    subst hx
    clear hr
    simp only [Option.getD_none, Option.isSome_none] at H1
    go_enter Tryz.func233, Tryz.ntmps233
    go_wp2_with (first
      | (go_at_call 257; (with_reducible refine H1.mono ?_); clear H1; rintro e w1 ⟨rfl, hB1⟩; have hr1 := (hB1.block _ (Array.getElem?_eq_some_iff.1 hb1).1).trans hb1; obtain ⟨z0, z1⟩ := cell_row2 hr1; have y0 := frozen_of_row w1 _ 0 _ _ hr1; have y1 := frozen_of_row w1 _ 1 _ _ hr1))
    refine bodyPost_ret (results_cell_row (by rfl) _ _ (w.heap.size + 1) 27 _ _ _ (by rfl) (set2P hr1) Tryz.underlying27 (by rfl) infoVal2) (by rfl) ?_
    exact ⟨rfl, below_set (below_set (hB.trans (hB1.mono hB.size)) (by omega) _) (by omega) _⟩
  | some i =>
    have hi2 := hr.1
    obtain ⟨y, hy, hye⟩ := hr.2.1
    simp only [mval] at hx
    have hil := (List.getElem?_eq_some_iff.1 hy).1
    have hi1 : i + 1 < l.length := by omega
    have hx' : l[i + 1]? = some x := by
      rw [hx]; simp [List.getD, hi1]
    obtain ⟨bq, off, rfl, c0, c1⟩ := hv (i + 1) x hx'
    have hbq : bq < w.heap.size := World.block_lt_of_cell? w _ c0
    have hi1' : ((i : Int) + 1) < (l.length : Int) := by omega
    clear hr hx hx' hy hye
    simp only [Option.getD_some, Option.isSome_some] at H1
    have e1 : ((i : Int) + 1).toNat = i + 1 := by omega
    go_enter Tryz.func233, Tryz.ntmps233
    go_wp2_with (first
      | (go_at_call 257; (with_reducible refine H1.mono ?_); clear H1; rintro e w1 ⟨rfl, hB1⟩; have hr1 := (hB1.block _ (Array.getElem?_eq_some_iff.1 hb1).1).trans hb1; obtain ⟨z0, z1⟩ := cell_row2 hr1; have y0 := frozen_of_row w1 _ 0 _ _ hr1; have y1 := frozen_of_row w1 _ 1 _ _ hr1
         have hBw := hB.trans (hB1.mono hB.size)
         have d0 := (hBw.cell (p := ⟨bq, off + (i + 1) * 2, none⟩) hbq).trans c0
         have d1 := (hBw.cell (p := ⟨bq, off + (i + 1) * 2 + 1, none⟩) hbq).trans c1))
    refine bodyPost_ret (results_cell_row (by rfl) _ _ (w.heap.size + 1) 27 _ _ _ (by rfl) (set2P hr1) Tryz.underlying27 (by rfl) infoVal2) (by rfl) ?_
    exact ⟨rfl, below_set (below_set (hB.trans (hB1.mono hB.size)) (by omega) _) (by omega) _⟩

end Go.Proofs.YtgokofomoachaaaGreatDoor

namespace Go.Proofs.YtgokofomoachaaaGreatDoor
set_option linter.unusedVariables false
set_option linter.unusedSimpArgs false
open Go.RowKit

variable {w : World}

theorem OwnSt.upd {base : Nat} {v : Value} {ts : List Po} {w w' : World} (h : OwnSt base v ts w) {i : Nat} {x : Po} (hx : ts[i]? = some x) (y : Po) (hrow : w'.ownsRow base 96 5 v ts.length (pcells (ts.set i y))) (hy : w'.ownsRow base 27 2 y.lv y.o.l.length (vcells y.o.l))
    (hoth : ∀ (k j : Nat) (z : Po), j ≠ i → ts[j]? = some z → z.lv.ownBlock = some k → w'.heap[k]? = w.heap[k]?) (hne : ∀ k, y.lv.ownBlock = some k → x.lv.ownBlock = some k ∨ w.heap.size ≤ k) : OwnSt base v (ts.set i y) w' := by
  have hi := (List.getElem?_eq_some_iff.1 hx).1
  have hcase : ∀ (j : Nat) (z : Po), (ts.set i y)[j]? = some z → (j = i ∧ z = y) ∨ (j ≠ i ∧ ts[j]? = some z) := fun j z hz => by
    by_cases hj : j = i
    · subst hj
      rw [List.getElem?_set_self hi] at hz
      cases hz
      exact .inl ⟨rfl, rfl⟩
    · rw [List.getElem?_set_ne (fun e => hj e.symm)] at hz
      exact .inr ⟨hj, hz⟩
  refine ⟨by rw [List.length_set]; exact hrow, ?_, ?_⟩
  · intro z hz
    obtain ⟨j, hj⟩ := List.getElem?_of_mem hz
    rcases hcase j z hj with ⟨-, rfl⟩ | ⟨hji, hzj⟩
    · exact hy
    · exact row_kept (h.lst z (List.mem_of_getElem? hzj)) (fun k e => hoth k j z hji hzj e)
  · have hold : ∀ (j : Nat) (z : Po) (k : Nat), j ≠ i → ts[j]? = some z → z.lv.ownBlock = some k → y.lv.ownBlock = some k → False := fun j z k hji hz h1 h2 => by
      rcases hne k h2 with h3 | h3
      · exact hji (h.one j i z x k hz hx h1 h3)
      · have := ((h.lst z (List.mem_of_getElem? hz)).lt k h1).2; omega
    intro a b z z' k hz hz' h1 h2
    rcases hcase a z hz with ⟨rfl, e1⟩ | ⟨ha, hza⟩ <;> rcases hcase b z' hz' with ⟨e, e2⟩ | ⟨hb, hzb⟩
    · exact e.symm
    · rw [e1] at h1; exact (hold b z' k hb hzb h2 h1).elim
    · rw [e2] at h2; subst e; exact (hold a z k ha hza h1 h2).elim
    · exact h.one a b z z' k hza hzb h1 h2

theorem pcells_same {ts : List Po} {i : Nat} {x y : Po} (hx : ts[i]? = some x) (he : pcell y = pcell x) : pcells (ts.set i y) = pcells ts := by
  apply List.ext_getElem?
  intro j
  by_cases hj : j < ts.length * 5
  · have hd : j / 5 < ts.length := by omega
    obtain ⟨z, hz⟩ : ∃ z, ts[j / 5]? = some z := ⟨ts[j / 5], by simp⟩
    have e1 := pcells_get ts (j / 5) z hz (j % 5) (by omega)
    rw [show j / 5 * 5 + j % 5 = j by omega] at e1
    by_cases hij : j / 5 = i
    · subst hij
      rw [hx] at hz; cases hz
      have e2 := pcells_get (ts.set (j / 5) y) (j / 5) y (List.getElem?_set_self hd) (j % 5) (by omega)
      rw [show j / 5 * 5 + j % 5 = j by omega] at e2
      rw [e1, e2, he]
    · have e2 := pcells_get (ts.set i y) (j / 5) z (by rw [List.getElem?_set_ne (by omega)]; exact hz) (j % 5) (by omega)
      rw [show j / 5 * 5 + j % 5 = j by omega] at e2
      rw [e1, e2]
  · have e1 : (pcells (ts.set i y))[j]? = none := by rw [List.getElem?_eq_none_iff, pcells_len, List.length_set]; omega
    have e2 : (pcells ts)[j]? = none := by rw [List.getElem?_eq_none_iff, pcells_len]; omega
    rw [e1, e2]

theorem vcells_put : ∀ (l : List Vl) (j : Nat) (u : Vl), j < l.length → ((vcells l).set (j * 2) (.int .u8 u.k)).set (j * 2 + 1) (.int .i64 u.n) = vcells (l.set j u)
  | [], j, u, h => by simp at h
  | v :: r, 0, u, _ => by simp [vcells]
  | v :: r, j + 1, u, h => by
    have := vcells_put r j u (by simpa using h)
    rw [show (j + 1) * 2 = j * 2 + 2 by omega]
    simpa [vcells] using this

/-- A value of a list is another one. -/
theorem OwnSt.put {base : Nat} {v : Value} {ts : List Po} {w : World} (h : OwnSt base v ts w) {i : Nat} {x : Po} (hx : ts[i]? = some x) {gl cl : Nat} (hlv : x.lv = .slice (some ⟨gl, 0, none⟩) x.o.l.length cl) {j : Nat} (hj : j < x.o.l.length) (u : Vl) :
    OwnSt base v (ts.set i ⟨{ x.o with l := x.o.l.set j u }, x.lv⟩) ((w.setCell ⟨gl, j * 2, none⟩ (.int .u8 u.k)).setCell ⟨gl, j * 2 + 1, none⟩ (.int .i64 u.n)) := by
  have hk : ∀ k, k ≠ gl → ((w.setCell ⟨gl, j * 2, none⟩ (.int .u8 u.k)).setCell ⟨gl, j * 2 + 1, none⟩ (.int .i64 u.n)).heap[k]? = w.heap[k]? := fun k hk => by
    rw [heap_setCell_other _ ⟨gl, j * 2 + 1, none⟩ _ _ hk, heap_setCell_other _ ⟨gl, j * 2, none⟩ _ _ hk]
  have hl := h.lst x (List.mem_of_getElem? hx)
  have hgl : x.lv.ownBlock = some gl := by rw [hlv]; rfl
  refine h.upd hx _ ?_ ?_ ?_ ?_
  · rw [pcells_same hx (by rfl)]
    refine row_kept h.row (fun k e => hk k (fun e2 => ?_))
    obtain ⟨c1, h1⟩ := row_obj h.row e
    obtain ⟨c2, h2⟩ := row_obj hl hgl
    subst e2
    rw [h1] at h2; cases h2
  · dsimp only
    rw [hlv] at hl ⊢
    have := rowSet (rowSet hl (j := j * 2) (by omega) (.int .u8 u.k)) (j := j * 2 + 1) (by omega) (.int .i64 u.n)
    rw [vcells_put _ _ _ hj] at this
    rw [List.length_set]
    exact this
  · intro k a z ha hz e
    refine hk k (fun e2 => ha ?_)
    subst e2
    exact h.one a i z x k hz hx e hgl
  · intro k e
    exact .inl e

/-- What a store that is one's own says of an object. -/
theorem OwnSt.at_ {base : Nat} {v : Value} {ts : List Po} {S : List Om} (h : OwnSt base v ts w) (hm : ts.map Po.o = S) {i : Nat} {o : Om} (hi : S[i]? = some o) : ∃ x g n c, ts[i]? = some x ∧ x.o = o ∧ v = .slice (some ⟨g, 0, none⟩) n c ∧ n = S.length ∧ w.cell? ⟨g, i * 5 + 2, none⟩ = some x.lv ∧ w.cell? ⟨g, i * 5 + 3, none⟩ = some (.int .i64 o.room) ∧ (∃ q cl, x.lv = .slice q o.l.length cl ∧ (0 < o.l.length → ∃ gl, q = some ⟨gl, 0, none⟩)) := by
  have hlen : ts.length = S.length := by rw [← hm]; simp
  rw [← hm, List.getElem?_map] at hi
  cases hx : ts[i]? with
  | none => rw [hx] at hi; simp at hi
  | some x =>
    rw [hx] at hi; simp at hi
    have hlt := (List.getElem?_eq_some_iff.1 hx).1
    obtain ⟨p, c, hv, -, hg, -⟩ := own_slice h.row
    obtain ⟨g, rfl⟩ := hg (by omega)
    have hr := h.row
    rw [hv] at hr
    obtain ⟨c0, c1, c2, c3, c4⟩ := cell_pcells hr rfl hx
    obtain ⟨q, cl, hq, -, hg2, -⟩ := own_slice (h.lst x (List.mem_of_getElem? hx))
    exact ⟨x, g, _, c, rfl, hi, hv, hlen, c2, by rw [← hi]; exact c3, q, cl, by rw [← hi]; exact hq, by rw [← hi]; exact hg2⟩

end Go.Proofs.YtgokofomoachaaaGreatDoor

namespace Go.Proofs.YtgokofomoachaaaGreatDoor
set_option linter.unusedVariables false
set_option linter.unusedSimpArgs false
open Go.RowKit

variable {w : World}

theorem map_set_o {ts : List Po} {S : List Om} (hm : ts.map Po.o = S) (i : Nat) (y : Po) : (ts.set i y).map Po.o = S.set i y.o := by
  rw [List.map_set, hm]

end Go.Proofs.YtgokofomoachaaaGreatDoor
