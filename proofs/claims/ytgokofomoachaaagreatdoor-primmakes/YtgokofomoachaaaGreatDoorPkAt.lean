/- The document's Same, and where a key stands. -/
import Derived.Test.YtgokofomoachaaaGreatDoorPoText
namespace Go.Proofs.YtgokofomoachaaaGreatDoor
set_option linter.unusedVariables false
set_option linter.unusedSimpArgs false
open Go.RowKit

variable {w : World}

theorem ess_plain {S : List Om} {v : Vl} (h : v.k ≠ 3) : essP S v = ⟨v.k, v.n, ⟨#[]⟩⟩ := by unfold essP; rw [if_neg h]

theorem ess_text {S : List Om} {v : Vl} {o : Om} (h : v.k = 3) (ho : leadO S v = some o) : essP S v = ⟨3, 0, o.s⟩ := by unfold essP; rw [if_pos h, ho]

theorem ess_k (S : List Om) (v : Vl) : (essP S v).k = v.k := by
  by_cases h : v.k = 3
  · unfold essP; rw [if_pos h, h]
  · rw [ess_plain h]

theorem bytes_eq (s t : ByteArray) : s.toList = t.toList ↔ s = t := ⟨fun h => by
    rw [ByteArray.toList_eq, ByteArray.toList_eq] at h
    obtain ⟨⟨x⟩⟩ := s
    obtain ⟨⟨y⟩⟩ := t
    simp at h
    rw [h], fun h => by rw [h]⟩

/-- A value that Same may be asked about. -/
def SameOk (S : List Om) (v : Vl) : Prop := (v.k = 3 → leadO S v ≠ none) ∧ (v.k = 0 → v.n = 0)


set_option maxRecDepth 20000 in
set_option maxHeartbeats 4000000 in
theorem rhSame_in {p : Option Addr} {S : List Om} (h : Ask w p S) (c : Nat) {H : Nat} (hH : RhAt w H p S.length c) (a b : Vl) (ha : SameOk S a) (hb : SameOk S b) (r : Bool) (hr : r = true ↔ essP S a = essP S b) :
    Calls Tryz.prog 57 #[.pointer (some ⟨H, 0, none⟩), .agg #[.int .u8 a.k, .int .i64 a.n], .agg #[.int .u8 b.k, .int .i64 b.n]] w fun e w' => e = .returned (.bool r) ∧ Below w.heap.size w w' := by
  have hB := below2' w (.cells #[.int .u8 a.k, .int .i64 a.n] 27) (.cells #[.int .u8 b.k, .int .i64 b.n] 27)
  have e0 := (Below.heap_alloc _ (.cells #[.int .u8 b.k, .int .i64 b.n] 27) w.heap.size (by simp)).trans (heap_alloc_new w (.cells #[.int .u8 a.k, .int .i64 a.n] 27))
  have e1 := heap_two w (.cells #[.int .u8 a.k, .int .i64 a.n] 27) (.cells #[.int .u8 b.k, .int .i64 b.n] 27)
  obtain ⟨x0, x1⟩ := cell_row2 e0
  obtain ⟨y0, y1⟩ := cell_row2 e1
  by_cases hk : a.k = b.k
  · by_cases h3 : a.k = 3
    · obtain ⟨oa, hoa⟩ := Option.ne_none_iff_exists'.1 (ha.1 h3)
      obtain ⟨ob, hob⟩ := Option.ne_none_iff_exists'.1 (hb.1 (by omega))
      rw [ess_text h3 hoa, ess_text (by omega) hob] at hr
      have hr' : r = (oa.s.toList == ob.s.toList) := by
        rw [Bool.eq_iff_iff, hr]
        simp [bytes_eq]
      have H1 := fun (W : World) (hb : Below w.heap.size w W) => robj_in (h.below hb) c (hH.below hb) a hoa
      have H2 := fun (W : World) (hb : Below w.heap.size w W) => robj_in (h.below hb) c (hH.below hb) b hob
      have HF := fldO1
      have HR : Hid _ := hr'
      have FCS : ∀ W', Below ((w.alloc (.cells #[.int .u8 a.k, .int .i64 a.n] 27)).alloc (.cells #[.int .u8 b.k, .int .i64 b.n] 27)).heap.size ((w.alloc (.cells #[.int .u8 a.k, .int .i64 a.n] 27)).alloc (.cells #[.int .u8 b.k, .int .i64 b.n] 27)) W' → (W'.cell? ⟨w.heap.size, 0, none⟩ = some (.int .u8 a.k) ∧ W'.cell? ⟨w.heap.size, 1, none⟩ = some (.int .i64 a.n)) ∧ (W'.cell? ⟨w.heap.size + 1, 0, none⟩ = some (.int .u8 b.k) ∧ W'.cell? ⟨w.heap.size + 1, 1, none⟩ = some (.int .i64 b.n)) := fun W' hb =>
        ⟨cell_row2 ((hb.block _ (by simp; omega)).trans e0), cell_row2 ((hb.block _ (by simp)).trans e1)⟩
      obtain ⟨ak, an⟩ := a
      obtain ⟨bk, bn⟩ := b
      simp only at hk h3
      subst h3
      subst hk
      simp only [show ((3 : Nat) : Int) = 3 from rfl] at *
      clear hr hr' ha hb hoa hob e0 e1
      go_enter Tryz.func57, Tryz.ntmps57
      go_wp2_with fail
      generalize hW : (w.alloc (.cells #[.int .u8 3, .int .i64 an] 27)).alloc (.cells #[.int .u8 3, .int .i64 bn] 27) = W at *
      clear hW
      have hD := below_drew (Below.refl W.heap.size W)
      have S0 := FCS _ hD
      have SW := FCS _ (Below.refl _ _)
      have H1' := H1 W.drew (below_drew hB)
      go_region_held3 (fun W' => (W'.cell? ⟨w.heap.size, 0, none⟩ = some (.int .u8 3) ∧ W'.cell? ⟨w.heap.size, 1, none⟩ = some (.int .i64 an)) ∧ (W'.cell? ⟨w.heap.size + 1, 0, none⟩ = some (.int .u8 3) ∧ W'.cell? ⟨w.heap.size + 1, 1, none⟩ = some (.int .i64 bn))) (first | with_reducible exact S0 | with_reducible exact SW | with_reducible exact S1 | with_reducible exact S2 | go_keep)
        (first
          | (go_at_call 59; (with_reducible refine H1'.mono ?_); clear H1'; rintro e w1 ⟨q1, c1, rfl, -, -, hB1⟩; have hD1 := hD.trans (hB1.mono hD.size); have S1 := FCS _ hD1; have H2' := H2 w1 (hB.trans (hD1.mono hB.size)))
          | (go_at_call 59; (with_reducible refine H2'.mono ?_); clear H2'; rintro e w2 ⟨q2, c2, rfl, -, -, hB2⟩; have hD2 := hD1.trans (hB2.mono hD1.size); have S2 := FCS _ hD2))
      all_goals
        go_wp2
        go_ret
        exact ⟨by rw [HR.out]; first | rfl | (congr 2; rw [Bool.eq_iff_iff]; simp), hB.trans (hD2.mono hB.size)⟩
    · have h3b : b.k ≠ 3 := by omega
      rw [ess_plain h3, ess_plain h3b] at hr
      have hk' : (a.k : Int) = (b.k : Int) := by omega
      have h3n : ¬ ((a.k : Int) = 3) := by omega
      have h3b' : ((a.k : Int) == 3) = false := by simp; omega
      by_cases h0 : a.k = 0
      · have hrt : r = true := hr.2 (by rw [hk, ha.2 h0, hb.2 (by omega)])
        subst hrt
        obtain ⟨ak, an⟩ := a
        obtain ⟨bk, bn⟩ := b
        simp only at hk h0
        subst h0
        subst hk
        simp only [show ((0 : Nat) : Int) = 0 from rfl] at x0 x1 y0 y1 hB
        clear hr ha hb h3 h3b hk' h3n h3b' e0 e1
        go_enter Tryz.func57, Tryz.ntmps57
        go_wp2
        go_ret
        exact ⟨rfl, hB⟩
      · have h0n : ¬ ((a.k : Int) = 0) := by omega
        have h0b : ((a.k : Int) == 0) = false := by simp; omega
        have hr' : r = (a.n == b.n) := by
          rw [Bool.eq_iff_iff, hr]
          simp [hk]
        have HR : Hid _ := hr'
        obtain ⟨ak, an⟩ := a
        obtain ⟨bk, bn⟩ := b
        simp only at hk
        subst hk
        clear hr hr' ha hb h3b hk' e0 e1
        go_enter Tryz.func57, Tryz.ntmps57
        go_wp2
        go_ret
        exact ⟨by rw [HR.out]; first | rfl | (congr 2; rw [Bool.eq_iff_iff]; simp), hB⟩
  · have hrf : r = false := by
      cases r with
      | false => rfl
      | true => exact (hk (by rw [← ess_k S a, ← ess_k S b, hr.1 rfl])).elim
    subst hrf
    have hkn : ¬ ((a.k : Int) = (b.k : Int)) := by omega
    have hkb : ((a.k : Int) == (b.k : Int)) = false := by simp; omega
    clear hr ha hb e0 e1
    go_enter Tryz.func57, Tryz.ntmps57
    go_wp2
    go_ret
    exact ⟨rfl, hB⟩


end Go.Proofs.YtgokofomoachaaaGreatDoor

namespace Go.Proofs.YtgokofomoachaaaGreatDoor
set_option linter.unusedVariables false
set_option linter.unusedSimpArgs false
open Go.RowKit

variable {w : World}

/-- A place, or -1. -/
def atI : Option Nat → Int
  | some i => i
  | none => -1

set_option maxRecDepth 20000 in
set_option maxHeartbeats 2000000 in
theorem rAt_in {p : Option Addr} {S : List Om} (h : Ask w p S) (c : Nat) {H : Nat} (hH : RhAt w H p S.length c) {q : Option Addr} {l : List Vl} (cq : Nat) (hv : Vals w q l) (hl : l.length ≤ 1000000) (ht : ∀ x ∈ l, SameOk S x) (k : Vl) (hk : SameOk S k) (r : Option Nat) (hr : KeyAt S l k r) :
    Calls Tryz.prog 69 #[.pointer (some ⟨H, 0, none⟩), .slice q l.length cq, .agg #[.int .u8 k.k, .int .i64 k.n]] w fun e w' => e = .returned (.int .i64 (atI r)) ∧ Below w.heap.size w w' := by
  have hB0 := below1 w (.cells #[.int .u8 k.k, .int .i64 k.n] 27)
  have hb0 := heap_alloc_new w (.cells #[.int .u8 k.k, .int .i64 k.n] 27)
  go_enter Tryz.func69, Tryz.ntmps69
  go_wp2
  go_loopw [7] (fun s8 wr => ∃ j : Nat, s8 = .int .i64 j ∧ j % 2 = 0 ∧ j ≤ l.length + 1 ∧ (∀ (i : Nat) y, i < j → i % 2 = 0 → l[i]? = some y → essP S y ≠ essP S k) ∧ Below w.heap.size w wr ∧ wr.heap[w.heap.size]? = some (.cells #[.int .u8 k.k, .int .i64 k.n] 27 (0, 0))) (fun s8 _ => l.length + 1 - (intOf s8).toNat)
  case atStart => exact ⟨0, rfl, rfl, by omega, (fun i y hi => by omega), hB0, hb0⟩
  case round =>
    obtain ⟨j, rfl, hj2, hj, hno, hB, hbx⟩ := hrel
    have hsz := hB.size
    have hbl := (Array.getElem?_eq_some_iff.1 hbx).1
    have HN : Hid _ := And.intro hno (And.intro hr hj2)
    clear hno hr hj2
    by_cases hjl : j < l.length
    · have hjl' : (j : Int) < (l.length : Int) := by omega
      obtain ⟨x, hx⟩ : ∃ x, l[j]? = some x := ⟨l[j], by simp⟩
      have hxm := List.mem_of_getElem? hx
      obtain ⟨bq, off, rfl, c0, c1⟩ := hv j x hx
      have hbq : bq < w.heap.size := World.block_lt_of_cell? w _ c0
      obtain ⟨rs, hrs⟩ := b_of (essP S x = essP S k)
      have H1 := fun (W : World) (hB : Below w.heap.size w W) => rhSame_in (h.below hB) c (hH.below hB) x k (ht x hxm) hk rs hrs
      have FCS : ∀ W', Below wr.heap.size wr W' → (W'.cell? ⟨bq, off + j * 2, none⟩ = some (.int .u8 x.k) ∧ W'.cell? ⟨bq, off + j * 2 + 1, none⟩ = some (.int .i64 x.n)) ∧ W'.cell? ⟨w.heap.size, 0, none⟩ = some (.int .u8 k.k) ∧ W'.cell? ⟨w.heap.size, 1, none⟩ = some (.int .i64 k.n) := fun W' hb => by
        have hBw := hB.trans (hb.mono hsz)
        exact ⟨⟨(hBw.cell (p := ⟨bq, off + j * 2, none⟩) hbq).trans c0, (hBw.cell (p := ⟨bq, off + j * 2 + 1, none⟩) hbq).trans c1⟩, cell_row2 ((hb.block _ hbl).trans hbx)⟩
      have HX : Hid _ := And.intro hx hrs
      clear hx hrs hxm
      have hD := below_drew (Below.refl wr.heap.size wr)
      have hBd : Below w.heap.size w wr.drew := hB.trans (hD.mono hsz)
      have S0 := FCS _ hD
      have SW := FCS _ (Below.refl _ _)
      have H1d := H1 wr.drew hBd
      clear H1
      go_wp2_with fail
      go_region_held3 (fun W => (W.cell? ⟨bq, off + j * 2, none⟩ = some (.int .u8 x.k) ∧ W.cell? ⟨bq, off + j * 2 + 1, none⟩ = some (.int .i64 x.n)) ∧ W.cell? ⟨w.heap.size, 0, none⟩ = some (.int .u8 k.k) ∧ W.cell? ⟨w.heap.size, 1, none⟩ = some (.int .i64 k.n)) (first | with_reducible exact S0 | with_reducible exact SW | with_reducible exact S1 | go_keep)
        (first
          | (go_at_call 57; (with_reducible refine H1d.mono ?_); rintro e w1 ⟨rfl, hB1⟩; have hD1 := hD.trans (hB1.mono hD.size); have S1 := FCS _ hD1))
      have hB1' := hB.trans (hD1.mono hsz)
      have hbx1 := (hD1.block _ hbl).trans hbx
      cases rs with
      | true =>
        have hrj : r = some j := by
          have he := HX.out.2.1 rfl
          cases r with
          | none => exact (HN.out.2.1 j x HN.out.2.2 HX.out.1 he).elim
          | some i =>
            obtain ⟨h1, ⟨y, hy, hye⟩, h2⟩ := HN.out.2.1
            have : i = j := by
              rcases Nat.lt_trichotomy i j with hlt | heq | hgt
              · exact (HN.out.1 i y hlt h1 hy hye).elim
              · exact heq
              · exact (h2 j x hgt HN.out.2.2 HX.out.1 he).elim
            rw [this]
        subst hrj
        clear HN HX FCS
        go_wp2
        go_ret
        exact ⟨rfl, hB1'⟩
      | false =>
        clear FCS
        go_wp2
        go_roundw
        case rel =>
          refine ⟨j + 2, by simp, by have := HN.out.2.2; omega, by omega, ?_, hB1', hbx1⟩
          intro i y hi hi2 hy
          by_cases hij : i < j
          · exact HN.out.1 i y hij hi2 hy
          · have : i = j := by have := HN.out.2.2; omega
            subst this
            rw [HX.out.1] at hy; cases hy
            intro e
            have := HX.out.2.2 e; cases this
        case measure => simp [intOf]; omega
    · have hjl' : ¬ ((j : Int) < (l.length : Int)) := by omega
      have hrn : r = none := by
        cases r with
        | none => rfl
        | some i =>
          obtain ⟨h1, ⟨y, hy, hye⟩, h2⟩ := HN.out.2.1
          have := (List.getElem?_eq_some_iff.1 hy).1
          exact (HN.out.1 i y (by omega) h1 hy hye).elim
      subst hrn
      clear HN
      go_wp2
      go_ret
      exact ⟨rfl, hB⟩



end Go.Proofs.YtgokofomoachaaaGreatDoor
