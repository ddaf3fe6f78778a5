/- prim: which values may be; an object; what is the same. -/
import Derived.Test.YtgokofomoachaabPnDeed
import Derived.Test.YtgokofomoachaabShCheck
import Derived.Laws.StructEq
import Derived.BigQuiet
namespace Go.Proofs.Ytgokofomoachaab
set_option linter.unusedVariables false
set_option linter.unusedSimpArgs false
open Go.RowKit

variable {w : World}

/-- May these values be, none of them a cell? -/
def fineP (S : List Om) (l : List Vl) : Prop := ∀ v ∈ l, v.k ≠ 7 ∧ checkP S v

theorem Ask.small {p : Option Addr} {S : List Om} (h : Ask w p S) : Small S := ⟨h.len, h.vals, h.str⟩

theorem Ask.check {p : Option Addr} {S : List Om} (h : Ask w p S) (c : Nat) (v : Vl) (b : Bool) (hb : b = true ↔ checkP S v) :
    Calls Try.prog 32 #[.slice p S.length c, .agg #[.int .u8 v.k, .int .i64 v.n]] w fun e w' => e = .returned (.bool b) ∧ Below w.heap.size w w' :=
  Check_in c h.st h.small (fun o ho => (h.fit o ho).2.1) v b hb

/-- May these values be? -/
def mayL (S : List Om) (l : List Vl) : Prop := ∀ v ∈ l, checkP S v

set_option maxRecDepth 20000 in
set_option maxHeartbeats 2000000 in
theorem pmayBe_in {p : Option Addr} {S : List Om} (h : Ask w p S) (c : Nat) {q : Option Addr} {l : List Vl} (cq : Nat) (hv : Vals w q l) (hl : l.length ≤ 100000) (b : Bool) (hb : b = true ↔ mayL S l) :
    Calls Try.prog 16 #[.slice p S.length c, .slice q l.length cq] w fun e w' => e = .returned (.bool b) ∧ Below w.heap.size w w' := by
  go_enter Try.func16, Try.ntmps16
  go_wp2
  go_loopw [9] (fun k wr => ∃ j : Nat, k = .int .i64 j ∧ j ≤ l.length ∧ mayL S (l.take j) ∧ Below w.heap.size w wr) (fun k _ => l.length - (intOf k).toNat)
  case atStart => exact ⟨0, rfl, by omega, (fun v hv => by simp at hv), Below.refl _ _⟩
  case round =>
    obtain ⟨j, rfl, hj, hf, hB⟩ := hrel
    have HF : Hid _ := And.intro hf hb
    clear hf hb
    have hsz := hB.size
    by_cases hjn : j < l.length
    · have hjn' : (j : Int) < (l.length : Int) := by omega
      obtain ⟨v, hvj⟩ : ∃ v, l[j]? = some v := ⟨l[j], by simp⟩
      obtain ⟨b0, off, rfl, c0, c1⟩ := (hv.below hB) j v hvj
      have HV : Hid _ := hvj
      clear hvj
      have hmem : v ∈ l := List.mem_of_getElem? HV.out
      have hB1 : Below w.heap.size w (wr.alloc (.cells #[.int .u8 v.k, .int .i64 v.n] 28)) := hB.alloc hsz _
      obtain ⟨x0, x1⟩ := cell_row2 (heap_alloc_new wr (.cells #[.int .u8 v.k, .int .i64 v.n] 28))
      obtain ⟨bc, hbc⟩ := b_of (checkP S v)
      have HC := (h.below hB1).check c v bc hbc
      cases bc with
      | false =>
        have hbf : b = false := b_false HF.out.2 (fun hh => by have := hbc.2 (hh v hmem); cases this)
        subst hbf
        clear HF HV hbc
        go_wp2_with (first
          | (go_at_call 32; (with_reducible refine HC.mono ?_); clear HC; rintro e w2 ⟨rfl, hB2⟩))
        go_ret
        exact ⟨rfl, hB1.trans (hB2.mono hB1.size)⟩
      | true =>
        have HK : Hid _ := hbc.1 rfl
        clear hbc
        go_wp2_with (first
          | (go_at_call 32; (with_reducible refine HC.mono ?_); clear HC; rintro e w2 ⟨rfl, hB2⟩))
        go_roundw
        case rel =>
          refine ⟨j + 1, by simp, by omega, ?_, hB1.trans (hB2.mono hB1.size)⟩
          rw [List.take_add_one, HV.out]
          intro x hx
          simp at hx
          rcases hx with hx | rfl
          · exact HF.out.1 x hx
          · exact HK.out
        case measure => simp [intOf]; omega
    · have hjn' : ¬ ((j : Int) < (l.length : Int)) := by omega
      have hbt : b = true := b_true HF.out.2 (by have := HF.out.1; rw [List.take_of_length_le (by omega)] at this; exact this)
      subst hbt
      go_wp2
      go_ret
      exact ⟨rfl, hB⟩

set_option maxRecDepth 20000 in
set_option maxHeartbeats 1000000 in
theorem object_in {p : Option Addr} {S : List Om} (h : Ask w p S) (c : Nat) (v : Vl) {o : Om} (ho : leadO S v = some o) :
    Calls Try.prog 36 #[.slice p S.length c, .agg #[.int .u8 v.k, .int .i64 v.n]] w fun e w' => ∃ q co, e = .returned (.agg #[.int .u8 o.k, .string o.s, .slice q o.l.length co, .int .i64 o.room, .int .i64 o.fn]) ∧ Vals w q o.l ∧ (q = none → co = 0) ∧ Below w.heap.size w w' := by
  obtain ⟨-, -, -, i, hn, hi, hS⟩ := leadO_some ho
  obtain ⟨k, n⟩ := v
  simp only at hn
  subst hn
  obtain ⟨b0, off, rfl, c0, c1, ⟨q, co, c2, hvo, hqn⟩, c3, c4⟩ := h.st i o hS
  have hlen := h.len
  have hlt := World.block_lt_of_cell? w _ c0
  have hne : b0 ≠ w.heap.size := by have : b0 < w.heap.size := hlt; omega
  have hne1 : b0 ≠ w.heap.size + 1 := by have : b0 < w.heap.size := hlt; omega
  have hB := below2' w (.cells #[.int .u8 k, .int .i64 ((i : Int) + 1)] 28) (.cells #[.int .u8 0, .string ⟨#[]⟩, .slice none 0 0, .int .i64 0, .int .i64 0] 46)
  have hb0 := (Below.heap_alloc _ (.cells #[.int .u8 0, .string ⟨#[]⟩, .slice none 0 0, .int .i64 0, .int .i64 0] 46) w.heap.size (by simp)).trans (heap_alloc_new w (.cells #[.int .u8 k, .int .i64 ((i : Int) + 1)] 28))
  have hb1 := heap_two w (.cells #[.int .u8 k, .int .i64 ((i : Int) + 1)] 28) (.cells #[.int .u8 0, .string ⟨#[]⟩, .slice none 0 0, .int .i64 0, .int .i64 0] 46)
  obtain ⟨b0', off', e', d0, d1, ⟨q', co', d2, -⟩, d3, d4⟩ := h.st.look hB hS
  cases e'
  have hq := (hB.cell (p := ⟨b0, off + i * 5 + 2, none⟩) hlt).trans c2
  rw [d2] at hq
  cases hq
  have hiS : (i : Int) < (S.length : Int) := by omega
  clear ho hS h
  go_enter Try.func36, Try.ntmps36
  go_wp2
  refine bodyPost_ret (results_cell_row (by rfl) _ _ (w.heap.size + 1) 46 _ _ _ (by rfl) (heap_two w _ _) Try.underlying46 (by rfl) infoO) (by rfl) ?_
  exact ⟨_, _, rfl, hvo, hqn, below2' _ _ _⟩

/-- One of all values that are the same. -/
structure Ess where
  k : Nat
  n : Int
  s : ByteArray

def essP (S : List Om) (v : Vl) : Ess := if v.k = 3 then ⟨3, 0, match leadO S v with | some o => o.s | none => ⟨#[]⟩⟩ else ⟨v.k, v.n, ⟨#[]⟩⟩

def Ess.V (e : Ess) : Value := .agg #[.int .u8 e.k, .int .i64 e.n, .string e.s]

theorem infoEss : (Try.prog.info? 96).map (·.size) = some 3 := by kernel_rfl

theorem set3_row {W : World} {g : Nat} {a b c x0 x1 x2 : Value} {t : TypeId} (h : W.heap[g]? = some (.cells #[a, b, c] t (0, 0))) : (((W.setCell ⟨g, 0, none⟩ x0).setCell ⟨g, 1, none⟩ x1).setCell ⟨g, 2, none⟩ x2).heap[g]? = some (.cells #[x0, x1, x2] t (0, 0)) := by
  have h1 := heap_setCell_same W g 0 _ t x0 h
  have h2 := heap_setCell_same _ g 1 _ t x1 h1
  have h3 := heap_setCell_same _ g 2 _ t x2 h2
  simpa using h3

theorem cell_row3P {W : World} {g : Nat} {a b c : Value} {t : TypeId} (h : W.heap[g]? = some (.cells #[a, b, c] t (0, 0))) : (W.cell? ⟨g, 0, none⟩ = some a ∧ W.cell? ⟨g, 1, none⟩ = some b ∧ W.cell? ⟨g, 2, none⟩ = some c) ∧ W.frozen? ⟨g, 0, none⟩ = false ∧ W.frozen? ⟨g, 1, none⟩ = false ∧ W.frozen? ⟨g, 2, none⟩ = false :=
  ⟨⟨by rw [cell_of_row W g 0 _ _ _ h]; rfl, by rw [cell_of_row W g 1 _ _ _ h]; rfl, by rw [cell_of_row W g 2 _ _ _ h]; rfl⟩, frozen_of_row W g 0 _ _ h, frozen_of_row W g 1 _ _ h, frozen_of_row W g 2 _ _ h⟩

theorem fldO1 (W : World) (a c d e : Value) (s : ByteArray) : (Instr.field 46 (.agg #[a, .string s, c, d, e]) 1).run Try.prog W = .ok (.string s) W := by kernel_rfl

theorem fldO2 (W : World) (a b d e : Value) (q : Option Addr) (n c : Nat) : (Instr.field 46 (.agg #[a, b, .slice q n c, d, e]) 2).run Try.prog W = .ok (.slice q n c) W := by kernel_rfl

set_option maxRecDepth 20000 in
set_option maxHeartbeats 1000000 in
theorem essenceOf_in {p : Option Addr} {S : List Om} (h : Ask w p S) (c : Nat) (v : Vl) (ht : v.k = 3 → leadO S v ≠ none) :
    Calls Try.prog 63 #[.slice p S.length c, .agg #[.int .u8 v.k, .int .i64 v.n]] w fun e w' => e = .returned (essP S v).V ∧ Below w.heap.size w w' := by
  have hB := below2' w (.cells #[.int .u8 v.k, .int .i64 v.n] 28) (.cells #[.int .u8 0, .int .i64 0, .string ⟨#[]⟩] 96)
  have hb0 := (Below.heap_alloc _ (.cells #[.int .u8 0, .int .i64 0, .string ⟨#[]⟩] 96) w.heap.size (by simp)).trans (heap_alloc_new w (.cells #[.int .u8 v.k, .int .i64 v.n] 28))
  have hb1 := heap_two w (.cells #[.int .u8 v.k, .int .i64 v.n] 28) (.cells #[.int .u8 0, .int .i64 0, .string ⟨#[]⟩] 96)
  by_cases h3 : v.k = 3
  · obtain ⟨o, ho⟩ := Option.ne_none_iff_exists'.1 (ht h3)
    have he : essP S v = ⟨3, 0, o.s⟩ := by unfold essP; rw [if_pos h3, ho]
    rw [he]
    unfold Ess.V
    have H1 := object_in (h.below hB) c v ho
    have HF := fldO1
    obtain ⟨k, n⟩ := v
    simp only at h3
    subst h3
    simp only [show ((3 : Nat) : Int) = 3 from rfl] at H1 hb0 hb1 hB
    clear ht he ho
    go_enter Try.func63, Try.ntmps63
    go_wp2_with (first
      | (go_at_call 36; (with_reducible refine H1.mono ?_); clear H1; rintro e w1 ⟨q, co, rfl, -, -, hB1⟩; have hr := (hB1.block _ (Array.getElem?_eq_some_iff.1 hb1).1).trans hb1; obtain ⟨⟨z0, z1, z2⟩, y0, y1, y2⟩ := cell_row3P hr))
    refine bodyPost_ret (results_cell_row (by rfl) _ _ (w.heap.size + 1) 96 _ _ _ (by rfl) (set3_row hr) Try.underlying96 (by rfl) infoEss) (by rfl) ?_
    exact ⟨rfl, below_set (below_set (below_set (hB.trans (hB1.mono hB.size)) (by omega) _) (by omega) _) (by omega) _⟩
  · have he : essP S v = ⟨v.k, v.n, ⟨#[]⟩⟩ := by unfold essP; rw [if_neg h3]
    rw [he]
    unfold Ess.V
    have h3' : ((v.k : Int) == 3) = false := by simp; omega
    have h3n : ¬ ((v.k : Int) = 3) := by omega
    clear ht he h3
    go_enter Try.func63, Try.ntmps63
    go_wp2
    refine bodyPost_ret (results_cell_row (by rfl) _ _ (w.heap.size + 1) 96 _ _ _ (by rfl) (heap_two w _ _) Try.underlying96 (by rfl) infoEss) (by rfl) ?_
    exact ⟨rfl, below2' _ _ _⟩

theorem eqlEss (w : World) (a b : Ess) (r : Bool) (hr : r = true ↔ a = b) : (binOp .eql 96 (.agg #[.int .u8 a.k, .int .i64 a.n, .string a.s]) (.agg #[.int .u8 b.k, .int .i64 b.n, .string b.s])).run Try.prog w = .ok (.bool r) w := by
  obtain ⟨k, n, s⟩ := a
  obtain ⟨k', n', s'⟩ := b
  go_simp
  have hs : s.toList = s'.toList ↔ s = s' := ⟨fun h => by
    rw [ByteArray.toList_eq, ByteArray.toList_eq] at h
    obtain ⟨⟨x⟩⟩ := s
    obtain ⟨⟨y⟩⟩ := s'
    simp only at h
    subst h; rfl, fun h => by rw [h]⟩
  cases r with
  | true =>
    have := hr.1 rfl
    cases this
    simp
  | false =>
    have hn : ¬ (k = k' ∧ n = n' ∧ s = s') := fun ⟨h1, h2, h3⟩ => by subst h1 h2 h3; have := hr.2 rfl; cases this
    by_cases h1 : k = k'
    · by_cases h2 : n = n'
      · have h3 : ¬ s.toList = s'.toList := fun h => hn ⟨h1, h2, hs.1 h⟩
        rw [if_pos (by rw [h1]), if_pos h2, if_neg h3]
      · rw [if_pos (by rw [h1]), if_neg h2]
    · rw [if_neg (by omega)]

theorem eqlVal (w : World) (a b : Vl) (r : Bool) (hr : r = true ↔ a = b) : (binOp .eql 28 (.agg #[.int .u8 a.k, .int .i64 a.n]) (.agg #[.int .u8 b.k, .int .i64 b.n])).run Try.prog w = .ok (.bool r) w := by
  obtain ⟨k, n⟩ := a
  obtain ⟨k', n'⟩ := b
  go_simp
  cases r with
  | true =>
    have := hr.1 rfl
    cases this
    simp
  | false =>
    have hn : ¬ (k = k' ∧ n = n') := fun ⟨h1, h2⟩ => by subst h1 h2; have := hr.2 rfl; cases this
    by_cases h1 : k = k'
    · have h2 : ¬ n = n' := fun h => hn ⟨h1, h⟩
      rw [if_pos (by rw [h1]), if_neg h2]
    · rw [if_neg (by omega)]

theorem essP_plain {S : List Om} {a b : Vl} (h : ¬ (a.k = 3 ∧ b.k = 3)) : essP S a = essP S b ↔ a = b := by
  obtain ⟨k, n⟩ := a
  obtain ⟨k', n'⟩ := b
  simp only at h
  unfold essP
  by_cases h1 : k = 3
  · have h2 : ¬ k' = 3 := fun e => h ⟨h1, e⟩
    subst h1
    rw [if_pos rfl, if_neg h2]
    constructor
    · intro e
      have := congrArg Ess.k e
      exact (h2 this.symm).elim
    · intro e
      have := congrArg Vl.k e
      exact (h2 this.symm).elim
  · rw [if_neg h1]
    by_cases h2 : k' = 3
    · subst h2
      rw [if_pos rfl]
      constructor
      · intro e; have := congrArg Ess.k e; exact (h1 this).elim
      · intro e; have := congrArg Vl.k e; exact (h1 this).elim
    · rw [if_neg h2]
      constructor
      · intro e; injection e with e1 e2; subst e1 e2; rfl
      · intro e; injection e with e1 e2; subst e1 e2; rfl

set_option maxRecDepth 20000 in
set_option maxHeartbeats 2000000 in
theorem psame_in {p : Option Addr} {S : List Om} (h : Ask w p S) (c : Nat) (a b : Vl) (ha : a.k = 3 → leadO S a ≠ none) (hb : b.k = 3 → leadO S b ≠ none) (r : Bool) (hr : r = true ↔ essP S a = essP S b) :
    Calls Try.prog 55 #[.slice p S.length c, .agg #[.int .u8 a.k, .int .i64 a.n], .agg #[.int .u8 b.k, .int .i64 b.n]] w fun e w' => e = .returned (.bool r) ∧ Below w.heap.size w w' := by
  have hB := below2' w (.cells #[.int .u8 a.k, .int .i64 a.n] 28) (.cells #[.int .u8 b.k, .int .i64 b.n] 28)
  have hb0 := (Below.heap_alloc _ (.cells #[.int .u8 b.k, .int .i64 b.n] 28) w.heap.size (by simp)).trans (heap_alloc_new w (.cells #[.int .u8 a.k, .int .i64 a.n] 28))
  have hb1 := heap_two w (.cells #[.int .u8 a.k, .int .i64 a.n] 28) (.cells #[.int .u8 b.k, .int .i64 b.n] 28)
  by_cases h33 : a.k = 3 ∧ b.k = 3
  · obtain ⟨k, n⟩ := a
    obtain ⟨k', n'⟩ := b
    simp only at h33
    obtain ⟨e1, e2⟩ := h33
    subst e1 e2
    obtain ⟨oa, hoa⟩ := Option.ne_none_iff_exists'.1 (ha rfl)
    obtain ⟨ob, hob⟩ := Option.ne_none_iff_exists'.1 (hb rfl)
    have hq : r = true ↔ oa.s = ob.s := by
      rw [hr]
      unfold essP
      rw [if_pos rfl, if_pos rfl, hoa, hob]
      simp
    obtain rfl : r = (oa.s.toList == ob.s.toList) := by
      rw [Bool.eq_iff_iff, hq, beq_iff_eq]
      exact ⟨fun h => by rw [h], fun h => by
        rw [ByteArray.toList_eq, ByteArray.toList_eq] at h
        revert h
        generalize oa.s = sa
        generalize ob.s = sb
        intro h
        obtain ⟨⟨x⟩⟩ := sa
        obtain ⟨⟨y⟩⟩ := sb
        simp only at h
        subst h; rfl⟩
    have H1 := fun (W : World) (hB : Below w.heap.size w W) => object_in (h.below hB) c ⟨3, n⟩ hoa
    have H2 := fun (W : World) (hB : Below w.heap.size w W) => object_in (h.below hB) c ⟨3, n'⟩ hob
    have HF := fldO1
    simp only [show ((3 : Nat) : Int) = 3 from rfl] at H1 H2 hb0 hb1 hB ⊢
    clear ha hb hr hq hoa hob
    obtain ⟨x0, x1⟩ := cell_row2 hb0
    obtain ⟨y0, y1⟩ := cell_row2 hb1
    go_enter Try.func55, Try.ntmps55
    go_wp2_with fail
    generalize hW : (w.alloc (.cells #[.int .u8 3, .int .i64 n] 28)).alloc (.cells #[.int .u8 3, .int .i64 n'] 28) = W at *
    clear hW
    have hl0 := (Array.getElem?_eq_some_iff.1 hb0).1
    have hl1 := (Array.getElem?_eq_some_iff.1 hb1).1
    have FCS : ∀ W', Below W.heap.size W W' → (W'.cell? ⟨w.heap.size, 0, none⟩ = some (.int .u8 3) ∧ W'.cell? ⟨w.heap.size, 1, none⟩ = some (.int .i64 n)) ∧ W'.cell? ⟨w.heap.size + 1, 0, none⟩ = some (.int .u8 3) ∧ W'.cell? ⟨w.heap.size + 1, 1, none⟩ = some (.int .i64 n') := fun W' hb => ⟨cell_row2 ((hb.block _ hl0).trans hb0), cell_row2 ((hb.block _ hl1).trans hb1)⟩
    have hD := below_drew (Below.refl W.heap.size W)
    have hBd : Below w.heap.size w W.drew := hB.trans (hD.mono hB.size)
    have S0 := FCS _ hD
    have SW := FCS _ (Below.refl _ _)
    go_region_held3 (fun W => (W.cell? ⟨w.heap.size, 0, none⟩ = some (.int .u8 3) ∧ W.cell? ⟨w.heap.size, 1, none⟩ = some (.int .i64 n)) ∧ W.cell? ⟨w.heap.size + 1, 0, none⟩ = some (.int .u8 3) ∧ W.cell? ⟨w.heap.size + 1, 1, none⟩ = some (.int .i64 n')) (first | with_reducible exact S0 | with_reducible exact SW | with_reducible exact S1 | with_reducible exact S2 | go_keep)
      (first
        | (go_at_call 36; (with_reducible refine (H1 W.drew hBd).mono ?_); rintro e w1 ⟨q1, co1, rfl, -, -, hB1⟩; have hD1 := hD.trans (hB1.mono hD.size); have S1 := FCS _ hD1; have hB1' := hB.trans (hD1.mono hB.size))
        | (go_at_call 36; (with_reducible refine (H2 w1 hB1').mono ?_); rintro e w2 ⟨q2, co2, rfl, -, -, hB2⟩; have hD2 := hD1.trans (hB2.mono hD1.size); have S2 := FCS _ hD2))
    all_goals
      go_wp2
      go_ret
      exact ⟨rfl, hB.trans (hD2.mono hB.size)⟩
  · rw [essP_plain h33] at hr
    have HQ := fun (W : World) => eqlVal W a b r hr
    obtain ⟨x0, x1⟩ := cell_row2 hb0
    obtain ⟨y0, y1⟩ := cell_row2 hb1
    clear ha hb hr
    by_cases h1 : a.k = 3
    · have h2 : ¬ b.k = 3 := fun e => h33 ⟨h1, e⟩
      obtain ⟨ka, na⟩ := a
      simp only at h1
      subst h1
      have h2' : ¬ (b.k : Int) = 3 := by omega
      simp only [show ((3 : Nat) : Int) = 3 from rfl] at hB hb0 hb1 x0 x1 y0 y1 HQ ⊢
      clear h33
      go_enter Try.func55, Try.ntmps55
      go_wp2
      go_ret
      exact ⟨rfl, hB⟩
    · have h1' : ¬ (a.k : Int) = 3 := by omega
      clear h33
      go_enter Try.func55, Try.ntmps55
      go_wp2
      go_ret
      exact ⟨rfl, hB⟩

end Go.Proofs.Ytgokofomoachaab
