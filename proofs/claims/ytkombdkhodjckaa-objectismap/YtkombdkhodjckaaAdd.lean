/- add, has, cut: the arena grows at its end, is asked, is cut. -/
import Derived.Test.YtkombdkhodjckaaFlat
namespace Go.Proofs.Ytkombdkhodjckaa
open Go.RowKit

variable {n₀ b : Nat} {vw vb : Value} {w : World} {A : Ar}

theorem info29 : (Try.prog.info? 81).map (fun i => (i.zero, i.size, i.bytes)) = some (some (.int .u64 0), 1, 8) := by kernel_rfl

theorem info4 : (Try.prog.info? 4).map (fun i => (i.zero, i.size, i.bytes)) = some (some (.bool false), 1, 1) := by kernel_rfl

set_option maxHeartbeats 1000000 in
theorem has_in (h : IsAr n₀ b vw vb w A) (hl : A.bs.length = A.ws.length) (i : Int) :
    Calls Try.prog 87 #[.pointer (some ⟨b, 0, none⟩), .int .i64 i] w fun e w' => e = .returned (.bool (decide (0 ≤ i) && A.bs.getD i.toNat false)) ∧ w' = w := by
  have he := end_in h
  have hle := h.le
  have hlim := h.lim
  by_cases h0 : 0 ≤ i
  · obtain ⟨j, rfl⟩ : ∃ j : Nat, i = j := ⟨i.toNat, by omega⟩
    by_cases h1 : j < A.ws.length
    · obtain ⟨x, hx⟩ : ∃ x, A.bs[j]? = some x := ⟨A.bs[j]'(by omega), by simp [hl, h1]⟩
      obtain ⟨g, c, hvb, hcell, _⟩ := h.mark hx
      have hc2 := h.c2
      rw [hvb, hl] at hc2
      have e : (decide (0 ≤ (j : Int)) && A.bs.getD (j : Int).toNat false) = x := by simp [List.getD, hx]
      rw [e]
      clear h hx e hvb
      obtain ⟨n, hn⟩ : ∃ n, A.ws.length = n := ⟨_, rfl⟩
      rw [hn] at *
      clear hn hl
      go_enter Try.func87, Try.ntmps87
      go_wp2_with (go_at_call 25; refine he.mono ?_; clear he; rintro e w' ⟨rfl, rfl⟩)
      go_ret
      exact ⟨rfl, rfl⟩
    · have e : (decide (0 ≤ (j : Int)) && A.bs.getD (j : Int).toNat false) = false := by simp [List.getD, hl, h1]
      rw [e]
      clear h e
      obtain ⟨n, hn⟩ : ∃ n, A.ws.length = n := ⟨_, rfl⟩
      rw [hn] at *
      clear hn hl
      go_enter Try.func87, Try.ntmps87
      go_wp2_with (go_at_call 25; refine he.mono ?_; clear he; rintro e w' ⟨rfl, rfl⟩)
      go_ret
      exact ⟨rfl, rfl⟩
  · have e : (decide (0 ≤ i) && A.bs.getD i.toNat false) = false := by simp [h0]
    rw [e]
    clear h e he hl hle hlim
    go_enter Try.func87, Try.ntmps87
    go_wp2
    go_ret
    exact ⟨rfl, rfl⟩

theorem grown_cell {w w1 : World} {row : Option Nat} (hg : w.grownBy w1 row) {k : Nat} (hk : k < w.heap.size) (hne : row ≠ some k) (j : Nat) : w1.cell? ⟨k, j, none⟩ = w.cell? ⟨k, j, none⟩ :=
  World.cell?_of_block (a := ⟨k, j, none⟩) (hg.block k hk (fun e => hne e.symm))

theorem grown_frozen {w w1 : World} {row : Option Nat} (hg : w.grownBy w1 row) {k : Nat} (hk : k < w.heap.size) (hne : row ≠ some k) (j : Nat) : w1.frozen? ⟨k, j, none⟩ = w.frozen? ⟨k, j, none⟩ :=
  World.frozen?_of_block (a := ⟨k, j, none⟩) (hg.block k hk (fun e => hne e.symm))

theorem mark_new {n₀ b g2 N k2 m : Nat} {v : Value} {w2 : World} {A : Ar} {W : List Nat} (h : IsAr n₀ b v (.slice (some ⟨g2, 0, none⟩) N k2) w2 { A with ws := W, bs := A.bs ++ List.replicate (m + 1) false }) (j : Nat) (hj : j = A.bs.length) :
    w2.cell? ⟨g2, j, none⟩ = some (.bool false) ∧ w2.frozen? ⟨g2, j, none⟩ = false := by
  obtain ⟨gm, cm, hvm, hcm, hfm⟩ := h.mark (i := j) (x := false) (by rw [List.getElem?_append_right (by omega)]; simp [hj])
  simp only [Value.slice.injEq, Option.some.injEq, Addr.mk.injEq, and_true] at hvm
  obtain ⟨rfl, _, _⟩ := hvm
  exact ⟨hcm, hfm⟩

/-- The arena behind 'add'. -/
def addA (A : Ar) (k size : Nat) : Ar :=
  let A1 : Ar := { A with ws := A.ws ++ List.replicate (size + 1) 0, bs := (A.bs ++ List.replicate (size + 1) false).set A.ws.length true }
  let A3 := setW (setW A1 A.ws.length 0 size) A.ws.length 3 k
  tieA (tieA A3 A.last (some A.ws.length)) (some A.ws.length) none

theorem tieA_len (A : Ar) (x y : Option Nat) : (tieA A x y).ws.length = A.ws.length := by
  cases x <;> cases y <;> simp [tieA]

theorem tieA_bs (A : Ar) (x y : Option Nat) : (tieA A x y).bs = A.bs := by
  cases x <;> cases y <;> simp [tieA]

theorem tieA_limit (A : Ar) (x y : Option Nat) : (tieA A x y).limit = A.limit := by
  cases x <;> cases y <;> simp [tieA]

set_option maxHeartbeats 1000000 in
theorem add_in (h : IsAr n₀ b vw vb w A) (hl : A.bs.length = A.ws.length) (hlast : ∀ i, A.last = some i → i < A.ws.length) (k size : Nat) (hk : k < 16) (hs : A.ws.length + size + 1 ≤ A.limit) :
    Calls Try.prog 65 #[.pointer (some ⟨b, 0, none⟩), .int .u8 k, .int .i64 size] w fun e w' => e = .returned (.int .i64 A.ws.length) ∧
      ∃ vw' vb', IsAr n₀ b vw' vb' w' (addA A k size) ∧ Step b vw vb w vw' vb' w' := by
  have he := end_in h
  have hle := h.le
  have hlim := h.lim
  have hbase : n₀ ≤ w.heap.size := Nat.le_trans h.base (Nat.le_of_lt h.lt)
  obtain ⟨i0, hi, hz0, hz1, hz2⟩ := info_parts info29
  obtain ⟨j0, hj, hy0, hy1, hy2⟩ := info_parts info4
  have hc1 := h.c1
  have hc2 := h.c2
  have hc3 := h.c3
  obtain ⟨p, c, rfl, _, _⟩ := IsAr.row_form h.rw
  obtain ⟨p2, c2, rfl, _, _⟩ := IsAr.row_form h.rb
  have HL : Hid (A.bs.length = A.ws.length) := hl
  have hbl : A.bs.length + size + 1 ≤ A.limit := by omega
  have hbq : A.ws.length < A.bs.length + (size + 1) := by omega
  clear hl
  go_enter Try.func65, Try.ntmps65
  go_wp2_with (first
    | (go_at_call 25; refine he.mono ?_; clear he; rintro e w' ⟨rfl, rfl⟩)
    | (at_builtin; refine wpList_append_zeros _ rfl _ _ 83 3 rfl n₀ 81 .i64 i0 (.int .u64 0) 8 Try.underlying83 Try.underlying3 hi hz0 hz1 hz2 rfl rfl _ _ _ rfl h.rw (size + 1) (by go_num) (by omega) (by unfold maxLen; omega) (by omega) hbase ?_; intro v' w1 hown1 hgrow1 hfr1
       obtain ⟨hA1, hS1⟩ := h.grownWords hown1 hgrow1 hfr1 (by omega)
       have d0 := grown_cell hgrow1 h.lt h.nw
       have d1 := grown_frozen hgrow1 h.lt h.nw
       have f1 := d1 1
       have f2 := d1 2
       have f3 := d1 3
       rw [h.f] at f1 f2 f3
       have e1 := (d0 1).trans hc1
       have e2 := (d0 2).trans hc2
       have e3 := (d0 3).trans hc3
       clear d0 d1
       obtain ⟨g1, k1, rfl, _, _⟩ := IsAr.row_some hown1 (by omega)
       clear hown1 hgrow1 hfr1 h hc1 hc2 hc3)
    | (at_builtin; refine wpList_append_zeros _ rfl _ _ 84 3 rfl n₀ 4 .i64 j0 (.bool false) 1 Try.underlying84 Try.underlying3 hj hy0 hy1 hy2 rfl rfl _ A.bs.length (A.bs.map Value.bool) rfl hA1.rb (size + 1) (by go_num) (by omega) (by unfold maxLen; omega) (by omega) (Nat.le_trans hbase hS1.size) ?_; intro v' w2 hown2 hgrow2 hfr2
       obtain ⟨hA2, hS2⟩ := hA1.grownMarks hown2 hgrow2 hfr2 (by dsimp only; omega)
       have d0 := grown_cell hgrow2 hA1.lt hA1.nb
       have d1 := grown_frozen hgrow2 hA1.lt hA1.nb
       have f1' := d1 1
       have f2' := d1 2
       have f3' := d1 3
       rw [hA1.f] at f1' f2' f3'
       have e1' := (d0 1).trans hA1.c1
       have e2' := (d0 2).trans hA1.c2
       have e3' := (d0 3).trans hA1.c3
       clear d0 d1
       obtain ⟨g2, k2, rfl, _, _⟩ := IsAr.row_some hown2 (by omega)
       clear hown2 hgrow2 hfr2 hA1 f1 f2 f3 e1 e2 e3
       obtain ⟨hcm, hfm⟩ := mark_new hA2 A.ws.length HL.out.symm
       have hgb : ¬ g2 = b := fun e => hA2.nb (by rw [e]; rfl)
       have hgb' : ¬ b = g2 := fun e => hgb e.symm
       have hA3 := hA2.setMark (g := g2) (c := k2) (i := A.ws.length) (y := true) (by simp)
       have hc3x := hA2.c3
       have hc2x := hA2.c2))
  have hS12 := hS1.trans (hS2.trans hA3.2)
  have hA3' := hA3.1
  have hx := setField_at hA3' A.ws.length 0 size (by simp) (by omega) (by omega)
  clear hA3 hA2 hS1 hS2 hcm hfm hc3x hc2x f1' f2' f3' e1' e2' e3' hA3'
  refine hx.mono ?_
  rintro e w4 ⟨rfl, hA4, hS4⟩
  clear hx
  have hS14 := hS12.trans hS4
  have hx := setField_at hA4 A.ws.length 3 k (by simp) (by omega) (by omega)
  clear hS12 hS4 hA4
  go_wp2_with (first
    | (go_at_call 78; refine hx.mono ?_; clear hx; rintro e w5 ⟨rfl, hA5, hS5⟩; have hc5 := hA5.c3; have hy := tie_in hA5 A.last (some A.ws.length) (fun i hi => ⟨by have := hlast i hi; simp; omega, fun _ => by have := hlast i hi; omega⟩) (fun i hi => by cases hi; simp))
    | (go_at_call 79; refine hy.mono ?_; clear hy; rintro e w6 ⟨rfl, hA6, hS6⟩; have hz := tie_in hA6 (some A.ws.length) none (fun i hi => ⟨by cases hi; simp [tieA_len], fun h => (h rfl).elim⟩) (fun i hi => by cases hi))
    | (go_at_call 79; refine hz.mono ?_; clear hz; rintro e w7 ⟨rfl, hA7, hS7⟩))
  go_ret
  exact ⟨rfl, _, _, hA7, hS14.trans (hS5.trans (hS6.trans hS7))⟩

end Go.Proofs.Ytkombdkhodjckaa
