/- prim: where a key stands among a map's values. -/
import Derived.Test.YtgokofomoachaaaPmMay
namespace Go.Proofs.Ytgokofomoachaaa
set_option linter.unusedVariables false
set_option linter.unusedSimpArgs false
open Go.RowKit

variable {w : World}

/-- Texts among values lead to objects. -/
def TextOk (S : List Om) (l : List Vl) : Prop := ∀ v ∈ l, v.k = 3 → leadO S v ≠ none

/-- Where a key stands first. -/
def KeyAt (S : List Om) (l : List Vl) (k : Vl) : Option Nat → Prop
  | some i => i % 2 = 0 ∧ (∃ x, l[i]? = some x ∧ essP S x = essP S k) ∧ ∀ (j : Nat) y, j < i → j % 2 = 0 → l[j]? = some y → essP S y ≠ essP S k
  | none => ∀ (j : Nat) y, j % 2 = 0 → l[j]? = some y → essP S y ≠ essP S k

theorem keyAt_ex (S : List Om) (l : List Vl) (k : Vl) : ∃ r, KeyAt S l k r := by
  by_cases h : ∃ i : Nat, i % 2 = 0 ∧ ∃ x, l[i]? = some x ∧ essP S x = essP S k
  · have key : ∀ n : Nat, (∃ i : Nat, i ≤ n ∧ i % 2 = 0 ∧ ∃ x, l[i]? = some x ∧ essP S x = essP S k) → ∃ i : Nat, i % 2 = 0 ∧ (∃ x, l[i]? = some x ∧ essP S x = essP S k) ∧ ∀ (j : Nat) y, j < i → j % 2 = 0 → l[j]? = some y → essP S y ≠ essP S k := by
      intro n
      induction n with
      | zero =>
        rintro ⟨i, hi, h1, h2⟩
        have : i = 0 := by omega
        subst this
        exact ⟨0, h1, h2, fun j y hj => by omega⟩
      | succ n ih =>
        rintro ⟨i, hi, h1, h2⟩
        by_cases hs : ∃ i : Nat, i ≤ n ∧ i % 2 = 0 ∧ ∃ x, l[i]? = some x ∧ essP S x = essP S k
        · exact ih hs
        · exact ⟨i, h1, h2, fun j y hj hj2 hy e => hs ⟨j, by omega, hj2, y, hy, e⟩⟩
    obtain ⟨i, h1, h2⟩ := h
    obtain ⟨i, hh⟩ := key i ⟨i, Nat.le_refl _, h1, h2⟩
    exact ⟨some i, hh⟩
  · exact ⟨none, fun j y hj hy e => h ⟨j, hj, y, hy, e⟩⟩

set_option maxRecDepth 20000 in
set_option maxHeartbeats 2000000 in
theorem keyAt_in {p : Option Addr} {S : List Om} (h : Ask w p S) (c : Nat) {q : Option Addr} {l : List Vl} (cq : Nat) (hv : Vals w q l) (hl : l.length ≤ 1000000) (ht : TextOk S l) (k : Vl) (hk : k.k = 3 → leadO S k ≠ none) (r : Option Nat) (hr : KeyAt S l k r) :
    Calls Try.prog 68 #[.slice p S.length c, .slice q l.length cq, .agg #[.int .u8 k.k, .int .i64 k.n]] w fun e w' => e = .returned (.tuple #[.int .i64 (r.getD 0 : Nat), .bool r.isSome]) ∧ Below w.heap.size w w' := by
  have hB0 := below1 w (.cells #[.int .u8 k.k, .int .i64 k.n] 26)
  have hb0 := heap_alloc_new w (.cells #[.int .u8 k.k, .int .i64 k.n] 26)
  go_enter Try.func68, Try.ntmps68
  go_wp2
  go_loopw [8] (fun s8 wr => ∃ j : Nat, s8 = .int .i64 j ∧ j % 2 = 0 ∧ j ≤ l.length + 1 ∧ (∀ (i : Nat) y, i < j → i % 2 = 0 → l[i]? = some y → essP S y ≠ essP S k) ∧ Below w.heap.size w wr ∧ wr.heap[w.heap.size]? = some (.cells #[.int .u8 k.k, .int .i64 k.n] 26 (0, 0))) (fun s8 _ => l.length + 1 - (intOf s8).toNat)
  case atStart => exact ⟨0, rfl, rfl, by omega, (fun i y hi => by omega), hB0, hb0⟩
  case round =>
    obtain ⟨j, rfl, hj2, hj, hno, hB, hbx⟩ := hrel
    have hsz := hB.size
    have hbl := (Array.getElem?_eq_some_iff.1 hbx).1
    have HN : Hid _ := And.intro hno (And.intro hr hj2)
    clear hno hr hj2
    by_cases hjl : j < l.length
    · have hjl' : (j : Int) < (l.length : Int) := by omega
      obtain ⟨x, hx⟩ : ∃ x, l[j]? = some x := ⟨l[j], by simp⟩
      have hxm := List.mem_of_getElem? hx
      obtain ⟨bq, off, rfl, c0, c1⟩ := hv j x hx
      have hbq : bq < w.heap.size := World.block_lt_of_cell? w _ c0
      obtain ⟨rs, hrs⟩ := b_of (essP S x = essP S k)
      have H1 := fun (W : World) (hB : Below w.heap.size w W) => psame_in (h.below hB) c x k (ht x hxm) hk rs hrs
      have FCS : ∀ W', Below wr.heap.size wr W' → (W'.cell? ⟨bq, off + j * 2, none⟩ = some (.int .u8 x.k) ∧ W'.cell? ⟨bq, off + j * 2 + 1, none⟩ = some (.int .i64 x.n)) ∧ W'.cell? ⟨w.heap.size, 0, none⟩ = some (.int .u8 k.k) ∧ W'.cell? ⟨w.heap.size, 1, none⟩ = some (.int .i64 k.n) := fun W' hb => by
        have hBw := hB.trans (hb.mono hsz)
        exact ⟨⟨(hBw.cell (p := ⟨bq, off + j * 2, none⟩) hbq).trans c0, (hBw.cell (p := ⟨bq, off + j * 2 + 1, none⟩) hbq).trans c1⟩, cell_row2 ((hb.block _ hbl).trans hbx)⟩
      have HX : Hid _ := And.intro hx hrs
      clear hx hrs hxm
      have hD := below_drew (Below.refl wr.heap.size wr)
      have hBd : Below w.heap.size w wr.drew := hB.trans (hD.mono hsz)
      have S0 := FCS _ hD
      have SW := FCS _ (Below.refl _ _)
      have H1d := H1 wr.drew hBd
      clear H1
      go_wp2_with fail
      go_region_held3 (fun W => (W.cell? ⟨bq, off + j * 2, none⟩ = some (.int .u8 x.k) ∧ W.cell? ⟨bq, off + j * 2 + 1, none⟩ = some (.int .i64 x.n)) ∧ W.cell? ⟨w.heap.size, 0, none⟩ = some (.int .u8 k.k) ∧ W.cell? ⟨w.heap.size, 1, none⟩ = some (.int .i64 k.n)) (first | with_reducible exact S0 | with_reducible exact SW | with_reducible exact S1 | go_keep)
        (first
          | (go_at_call 35; (with_reducible refine H1d.mono ?_); rintro e w1 ⟨rfl, hB1⟩; have hD1 := hD.trans (hB1.mono hD.size); have S1 := FCS _ hD1))
      have hB1' := hB.trans (hD1.mono hsz)
      have hbx1 := (hD1.block _ hbl).trans hbx
      cases rs with
      | true =>
        have hrj : r = some j := by
          have he := HX.out.2.1 rfl
          cases r with
          | none => exact (HN.out.2.1 j x HN.out.2.2 HX.out.1 he).elim
          | some i =>
            obtain ⟨h1, ⟨y, hy, hye⟩, h2⟩ := HN.out.2.1
            have : i = j := by
              rcases Nat.lt_trichotomy i j with hlt | heq | hgt
              · exact (HN.out.1 i y hlt h1 hy hye).elim
              · exact heq
              · exact (h2 j x hgt HN.out.2.2 HX.out.1 he).elim
            rw [this]
        subst hrj
        clear HN HX FCS
        go_wp2
        go_ret2
        exact ⟨rfl, hB1'⟩
      | false =>
        clear FCS
        go_wp2
        go_roundw
        case rel =>
          refine ⟨j + 2, by simp, by have := HN.out.2.2; omega, by omega, ?_, hB1', hbx1⟩
          intro i y hi hi2 hy
          by_cases hij : i < j
          · exact HN.out.1 i y hij hi2 hy
          · have : i = j := by have := HN.out.2.2; omega
            subst this
            rw [HX.out.1] at hy; cases hy
            intro e
            have := HX.out.2.2 e; cases this
        case measure => simp [intOf]; omega
    · have hjl' : ¬ ((j : Int) < (l.length : Int)) := by omega
      have hrn : r = none := by
        cases r with
        | none => rfl
        | some i =>
          obtain ⟨h1, ⟨y, hy, hye⟩, h2⟩ := HN.out.2.1
          have := (List.getElem?_eq_some_iff.1 hy).1
          exact (HN.out.1 i y (by omega) h1 hy hye).elim
      subst hrn
      clear HN
      go_wp2
      go_ret2
      exact ⟨rfl, hB⟩

/-- The value of a key. -/
def mval (l : List Vl) : Option Nat → Vl
  | some i => l.getD (i + 1) ⟨0, 0⟩
  | none => ⟨0, 0⟩

theorem set2P {W : World} {g : Nat} {a b x0 x1 : Value} {t : TypeId} (h : W.heap[g]? = some (.cells #[a, b] t (0, 0))) : ((W.setCell ⟨g, 0, none⟩ x0).setCell ⟨g, 1, none⟩ x1).heap[g]? = some (.cells #[x0, x1] t (0, 0)) := by
  have h1 := heap_setCell_same W g 0 _ t x0 h
  have h2 := heap_setCell_same _ g 1 _ t x1 h1
  simpa using h2

set_option maxRecDepth 20000 in
set_option maxHeartbeats 2000000 in
theorem valueOf_in {p : Option Addr} {S : List Om} (h : Ask w p S) (c : Nat) {q : Option Addr} {l : List Vl} (cq : Nat) (hv : Vals w q l) (hl : l.length ≤ 1000000) (hl2 : l.length % 2 = 0) (ht : TextOk S l) (k : Vl) (hk : k.k = 3 → leadO S k ≠ none) (r : Option Nat) (hr : KeyAt S l k r) (x : Vl) (hx : x = mval l r) :
    Calls Try.prog 57 #[.slice p S.length c, .slice q l.length cq, .agg #[.int .u8 k.k, .int .i64 k.n]] w fun e w' => e = .returned (.agg #[.int .u8 x.k, .int .i64 x.n]) ∧ Below w.heap.size w w' := by
  have hB := below2' w (.cells #[.int .u8 k.k, .int .i64 k.n] 26) (.cells #[.int .u8 0, .int .i64 0] 26)
  have hb0 := (Below.heap_alloc _ (.cells #[.int .u8 0, .int .i64 0] 26) w.heap.size (by simp)).trans (heap_alloc_new w (.cells #[.int .u8 k.k, .int .i64 k.n] 26))
  have hb1 := heap_two w (.cells #[.int .u8 k.k, .int .i64 k.n] 26) (.cells #[.int .u8 0, .int .i64 0] 26)
  have H1 := keyAt_in (h.below hB) c cq (hv.below hB) hl ht k hk r hr
  obtain ⟨x0, x1⟩ := cell_row2 hb0
  cases r with
  | none =>
    simp only [mval] at hx
    subst hx
    clear hr
    simp only [Option.getD_none, Option.isSome_none] at H1
    go_enter Try.func57, Try.ntmps57
    go_wp2_with (first
      | (go_at_call 68; (with_reducible refine H1.mono ?_); clear H1; rintro e w1 ⟨rfl, hB1⟩; have hr1 := (hB1.block _ (Array.getElem?_eq_some_iff.1 hb1).1).trans hb1; obtain ⟨z0, z1⟩ := cell_row2 hr1; have y0 := frozen_of_row w1 _ 0 _ _ hr1; have y1 := frozen_of_row w1 _ 1 _ _ hr1))
    refine bodyPost_ret (results_cell_row (by rfl) _ _ (w.heap.size + 1) 26 _ _ _ (by rfl) (set2P hr1) Try.underlying26 (by rfl) infoVal2) (by rfl) ?_
    exact ⟨rfl, below_set (below_set (hB.trans (hB1.mono hB.size)) (by omega) _) (by omega) _⟩
  | some i =>
    have hi2 := hr.1
    obtain ⟨y, hy, hye⟩ := hr.2.1
    simp only [mval] at hx
    have hil := (List.getElem?_eq_some_iff.1 hy).1
    have hi1 : i + 1 < l.length := by omega
    have hx' : l[i + 1]? = some x := by
      rw [hx]; simp [List.getD, hi1]
    obtain ⟨bq, off, rfl, c0, c1⟩ := hv (i + 1) x hx'
    have hbq : bq < w.heap.size := World.block_lt_of_cell? w _ c0
    have hi1' : ((i : Int) + 1) < (l.length : Int) := by omega
    clear hr hx hx' hy hye
    simp only [Option.getD_some, Option.isSome_some] at H1
    have e1 : ((i : Int) + 1).toNat = i + 1 := by omega
    go_enter Try.func57, Try.ntmps57
    go_wp2_with (first
      | (go_at_call 68; (with_reducible refine H1.mono ?_); clear H1; rintro e w1 ⟨rfl, hB1⟩; have hr1 := (hB1.block _ (Array.getElem?_eq_some_iff.1 hb1).1).trans hb1; obtain ⟨z0, z1⟩ := cell_row2 hr1; have y0 := frozen_of_row w1 _ 0 _ _ hr1; have y1 := frozen_of_row w1 _ 1 _ _ hr1
         have hBw := hB.trans (hB1.mono hB.size)
         have d0 := (hBw.cell (p := ⟨bq, off + (i + 1) * 2, none⟩) hbq).trans c0
         have d1 := (hBw.cell (p := ⟨bq, off + (i + 1) * 2 + 1, none⟩) hbq).trans c1))
    refine bodyPost_ret (results_cell_row (by rfl) _ _ (w.heap.size + 1) 26 _ _ _ (by rfl) (set2P hr1) Try.underlying26 (by rfl) infoVal2) (by rfl) ?_
    exact ⟨rfl, below_set (below_set (hB.trans (hB1.mono hB.size)) (by omega) _) (by omega) _⟩

end Go.Proofs.Ytgokofomoachaaa
