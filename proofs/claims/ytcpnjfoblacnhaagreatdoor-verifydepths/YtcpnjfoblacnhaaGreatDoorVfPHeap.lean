/- container/heap over the program's places. -/
import Derived.Test.YtcpnjfoblacnhaaGreatDoorVfDep
import Derived.Test.YtcpnjfoblacnhaaGreatDoorVfQMath
import Derived.BigQuiet
namespace Go.Proofs.YtcpnjfoblacnhaaGreatDoor
set_option linter.unusedVariables false
set_option linter.unusedSimpArgs false
open Go.RowKit

variable {w : World}

theorem getD_int {l : List Int} {i : Nat} (h : i < l.length) : l[i]? = some (l.getD i 0) := by
  rw [List.getD_eq_getElem?_getD]; simp [h]

theorem plen_in (p : Option Addr) (n c : Nat) : Calls Tryz.prog 211 #[.slice p n c] w fun e w' => e = .returned (.int .i64 n) ∧ w' = w := by
  go_enter Tryz.func211, Tryz.ntmps211
  go_wp2
  go_ret
  exact ⟨rfl, rfl⟩

set_option maxRecDepth 20000 in
theorem pless_in {base g c : Nat} {l : List Int} (h : NumRow base g c l w) {i j : Nat} (hi : i < l.length) (hj : j < l.length) :
    Calls Tryz.prog 212 #[.slice (some ⟨g, 0, none⟩) l.length c, .int .i64 i, .int .i64 j] w fun e w' => e = .returned (.bool (decide (l.getD i 0 < l.getD j 0))) ∧ Below w.heap.size w w' := by
  have c1 := h.at (getD_int hi)
  have c2 := h.at (getD_int hj)
  have hi' : (i : Int) < (l.length : Int) := by omega
  have hj' : (j : Int) < (l.length : Int) := by omega
  generalize l.getD i 0 = x at c1 ⊢
  generalize l.getD j 0 = y at c2 ⊢
  clear h
  go_enter Tryz.func212, Tryz.ntmps212
  go_wp2
  go_quiet (fail)
  go_wp2
  go_ret
  exact ⟨rfl, below_drewN (Below.refl _ _) _⟩

set_option maxRecDepth 20000 in
theorem pswap_in {base g c : Nat} {l : List Int} (h : NumRow base g c l w) {i j : Nat} (hi : i < l.length) (hj : j < l.length) :
    Calls Tryz.prog 213 #[.slice (some ⟨g, 0, none⟩) l.length c, .int .i64 i, .int .i64 j] w fun e w' => e = .returned (.tuple #[]) ∧ NumRow base g c (swp l i j) w' ∧ But2 g g w w' := by
  have c1 := h.at (getD_int hi)
  have c2 := h.at (getD_int hj)
  have f1 := h.frozen i
  have f2 := h.frozen j
  have hi' : (i : Int) < (l.length : Int) := by omega
  have hj' : (j : Int) < (l.length : Int) := by omega
  have hset := h.set hi (l.getD j 0)
  have hset2 := hset.set (j := j) (by simpa using hj) (l.getD i 0)
  obtain ⟨z, c3⟩ : ∃ z, (w.setCell ⟨g, i, none⟩ (.int .i64 (l.getD j 0))).cell? ⟨g, j, none⟩ = some (.int .i64 z) := ⟨_, hset.at (getD_int (by simpa using hj))⟩
  have f3 := hset.frozen j
  unfold swp
  generalize hx : l.getD i 0 = x at *
  generalize hy : l.getD j 0 = y at *
  have H : Hid _ := hset2
  clear h hx hy hset hset2
  go_enter Tryz.func213, Tryz.ntmps213
  go_wp2
  go_region
  go_wp2
  go_end0
  refine ⟨rfl, ?_, ?_⟩
  · have := H.out
    simp only [NumRow, List.length_set] at this ⊢
    exact row_kept this (fun k e => rfl)
  · refine ⟨rfl, rfl, rfl, by simp [World.setCell], fun k hk h1 h2 => ?_⟩
    exact (heap_setCell_other _ ⟨g, j, none⟩ k _ h1).trans (heap_setCell_other w ⟨g, i, none⟩ k _ h1)

/-- A row that the program's heap holds, by a pointer to it. -/
structure Qh (base bw g c : Nat) (l : List Int) (W : World) : Prop where
  cell : W.cell? ⟨bw, 1, none⟩ = some (.slice (some ⟨g, 0, none⟩) l.length c)
  row : NumRow base g c l W
  lt : bw < W.heap.size
  ne : bw ≠ g

def pls (bw : Nat) : Value := .iface 251 (.pointer (some ⟨bw, 1, none⟩))

theorem wrap_ok (ts : Array TypeId) (t : TypeId) (a : Addr) (x y : String) : Builtin.ssaWrapNilChk_ ts t #[.pointer (some a), strVal x, strVal y] = pure (.pointer (some a)) := rfl

theorem m_find {name : String} {f : FuncId} (h : (Tryz.t251.methods.find? (fun x => x.name == name)).map (fun m => (m.path, m.func)) = some (#[], some (f, false))) : ∃ m, Tryz.t251.methods.find? (fun x => x.name == name) = some m ∧ m.path = #[] ∧ m.func = some (f, false) := by
  obtain ⟨m, h3, h4⟩ := Option.map_eq_some_iff.1 h
  simp only [Prod.mk.injEq] at h4
  exact ⟨m, h3, h4.1, h4.2⟩

theorem m_any {name : String} {f : FuncId} (k : Nat) (W : World) (a : Addr) (p : Option Addr) (n c : Nat) (h : W.cell? a = some (.slice p n c)) (hm : (Tryz.t251.methods.find? (fun x => x.name == name)).map (fun m => (m.path, m.func)) = some (#[], some (f, false))) : Sem.run Tryz.prog (method (k + 1) 251 (.pointer (some a)) name) W = .ok (f, .slice p n c) W := by
  obtain ⟨m, h2, h3, h4⟩ := m_find hm
  unfold method
  go_simp
  unfold follow
  go_simp
  unfold receiverAt
  go_simp
  unfold Place.get
  go_simp
  rw [wrap_ok]
  go_simp

theorem m_len {bw : Nat} {W : World} {p : Option Addr} {n c : Nat} (h : W.cell? ⟨bw, 1, none⟩ = some (.slice p n c)) (k : Nat) : Sem.run Tryz.prog (method (k + 1) 251 (.pointer (some ⟨bw, 1, none⟩)) "Len") W = .ok (211, .slice p n c) W := m_any k W _ p n c h (by kernel_rfl)

theorem m_less {bw : Nat} {W : World} {p : Option Addr} {n c : Nat} (h : W.cell? ⟨bw, 1, none⟩ = some (.slice p n c)) (k : Nat) : Sem.run Tryz.prog (method (k + 1) 251 (.pointer (some ⟨bw, 1, none⟩)) "Less") W = .ok (212, .slice p n c) W := m_any k W _ p n c h (by kernel_rfl)

theorem m_swap {bw : Nat} {W : World} {p : Option Addr} {n c : Nat} (h : W.cell? ⟨bw, 1, none⟩ = some (.slice p n c)) (k : Nat) : Sem.run Tryz.prog (method (k + 1) 251 (.pointer (some ⟨bw, 1, none⟩)) "Swap") W = .ok (213, .slice p n c) W := m_any k W _ p n c h (by kernel_rfl)

theorem m_push (W : World) (a : Addr) (k : Nat) : Sem.run Tryz.prog (method (k + 1) 251 (.pointer (some a)) "Push") W = .ok (215, .pointer (some a)) W := by
  kernel_rfl

theorem m_pop (W : World) (a : Addr) (k : Nat) : Sem.run Tryz.prog (method (k + 1) 251 (.pointer (some a)) "Pop") W = .ok (214, .pointer (some a)) W := by
  kernel_rfl

theorem Qh.kept {base bw g c : Nat} {l : List Int} {W W' : World} (h : Qh base bw g c l W) (hB : Below W.heap.size W W') : Qh base bw g c l W' :=
  ⟨(hB.cell (p := ⟨bw, 1, none⟩) h.lt).trans h.cell, h.row.kept (hB.block _ h.row.lt.2), Nat.lt_of_lt_of_le h.lt hB.size, h.ne⟩

theorem Qh.swap {base bw g c : Nat} {l : List Int} {W W' : World} {i j : Nat} (h : Qh base bw g c l W) (hr : NumRow base g c (swp l i j) W') (hb : But2 g g W W') : Qh base bw g c (swp l i j) W' :=
  ⟨(World.cell?_of_block (a := ⟨bw, 1, none⟩) (hb.block bw h.lt h.ne h.ne)).trans (by rw [swp_len]; exact h.cell), hr, Nat.lt_of_lt_of_le h.lt hb.size, h.ne⟩

set_option maxRecDepth 20000 in
set_option maxHeartbeats 2000000 in
theorem up_in {base bw g c : Nat} {l : List Int} (h : Qh base bw g c l w) {j : Nat} (hj : j < l.length) (hl : l.length ≤ 1048576) (hu : UpI l j) :
    Calls Tryz.prog 178 #[.iface 251 (.pointer (some ⟨bw, 1, none⟩)), .int .i64 j] w fun e w' => e = .returned (.tuple #[]) ∧ ∃ m : List Int, m.Perm l ∧ HpN m m.length ∧ Qh base bw g c m w' ∧ But2 g g w w' := by
  go_enter Tryz.func178, Tryz.ntmps178
  go_wp2
  go_loopw [1] (fun k wr => ∃ (i : Nat) (m : List Int), k = .int .i64 i ∧ i < l.length ∧ m.Perm l ∧ UpI m i ∧ Qh base bw g c m wr ∧ But2 g g w wr) (fun k _ => (intOf k).toNat)
  case atStart => exact ⟨j, l, rfl, hj, .refl _, hu, h, .refl _ _ _⟩
  case round =>
    clear h hj hu
    obtain ⟨i, m, rfl, hi, hp, hu, h, hb⟩ := hrel
    have hml := hp.length_eq
    have him : i < m.length := by omega
    clear hml
    by_cases h0 : i = 0
    · subst h0
      have HH : Hid _ := And.intro hp (And.intro hu (And.intro h hb))
      clear hp hu h hb
      go_wp2
      go_end0
      obtain ⟨hp, hu, h, hb⟩ := HH.out
      exact ⟨rfl, m, hp, hu.done (.inl rfl), h, hb⟩
    · obtain ⟨q, hq⟩ : ∃ q, par i = q := ⟨_, rfl⟩
      have hqi : q < i := by rw [← hq]; unfold par; omega
      have hq' : ((i : Int) - 1) / 2 = (q : Int) := by rw [← hq]; unfold par; omega
      have hne : ((q : Int) == (i : Int)) = false := by simp; omega
      have hL := m_less h.cell
      have HL := pless_in h.row (i := i) (j := q) (by omega) (by omega)
      by_cases hlt : m.getD i 0 < m.getD q 0
      · have hst := hu.step (by omega) (by omega) (by rw [hq]; exact hlt)
        rw [hq] at hst
        have hsp := swp_perm (l := m) (i := q) (j := i) (by omega) (by omega)
        have HS := fun (W : World) (hB : Below wr.heap.size wr W) => pswap_in (h.kept hB).row (i := q) (j := i) (by omega) (by omega)
        have HM := fun (W : World) (hB : Below wr.heap.size wr W) => m_swap (h.kept hB).cell
        have HH : Hid _ := And.intro hp (And.intro h hb)
        rw [decide_eq_true hlt] at HL
        clear hp h hb hu hq
        go_wp2_with (first
          | (go_at_call 212; (with_reducible refine HL.mono ?_); clear HL; rintro e w1 ⟨rfl, hB1⟩; have hS1 := HM _ hB1)
          | (go_at_call 213; (with_reducible refine (HS _ hB1).mono ?_); clear HS; rintro e w2 ⟨rfl, hr2, hb2⟩))
        go_roundw
        case rel =>
          obtain ⟨hp, h, hb⟩ := HH.out
          exact ⟨q, swp m q i, rfl, by omega, hsp.trans hp, hst, (h.kept hB1).swap hr2 hb2, hb.trans ((But2.of_below hB1).trans hb2)⟩
        case measure => simp [intOf]; omega
      · have hdn := hu.done (.inr (by rw [hq]; exact hlt))
        have HH : Hid _ := And.intro hp (And.intro h hb)
        rw [decide_eq_false hlt] at HL
        clear hp h hb hu hq
        go_wp2_with (first
          | (go_at_call 212; (with_reducible refine HL.mono ?_); clear HL; rintro e w1 ⟨rfl, hB1⟩))
        go_end0
        obtain ⟨hp, h, hb⟩ := HH.out
        exact ⟨rfl, m, hp, hdn, h.kept hB1, hb.trans (But2.of_below hB1)⟩

end Go.Proofs.YtcpnjfoblacnhaaGreatDoor
