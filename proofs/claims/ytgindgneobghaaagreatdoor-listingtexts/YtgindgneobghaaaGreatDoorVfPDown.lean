/- container/heap over the program's places. -/
import Derived.Test.YtgindgneobghaaaGreatDoorVfDep
import Derived.Test.YtgindgneobghaaaGreatDoorVfQMath
import Derived.BigQuiet
namespace Go.Proofs.YtgindgneobghaaaGreatDoor
set_option linter.unusedVariables false
set_option linter.unusedSimpArgs false
open Go.RowKit

variable {w : World}

theorem getD_int {l : List Int} {i : Nat} (h : i < l.length) : l[i]? = some (l.getD i 0) := by
  rw [List.getD_eq_getElem?_getD]; simp [h]

theorem plen_in (p : Option Addr) (n c : Nat) : Calls Tryz.prog 128 #[.slice p n c] w fun e w' => e = .returned (.int .i64 n) ∧ w' = w := by
  go_enter Tryz.func128, Tryz.ntmps128
  go_wp2
  go_ret
  exact ⟨rfl, rfl⟩

set_option maxRecDepth 20000 in
theorem pless_in {base g c : Nat} {l : List Int} (h : NumRow base g c l w) {i j : Nat} (hi : i < l.length) (hj : j < l.length) :
    Calls Tryz.prog 129 #[.slice (some ⟨g, 0, none⟩) l.length c, .int .i64 i, .int .i64 j] w fun e w' => e = .returned (.bool (decide (l.getD i 0 < l.getD j 0))) ∧ Below w.heap.size w w' := by
  have c1 := h.at (getD_int hi)
  have c2 := h.at (getD_int hj)
  have hi' : (i : Int) < (l.length : Int) := by omega
  have hj' : (j : Int) < (l.length : Int) := by omega
  generalize l.getD i 0 = x at c1 ⊢
  generalize l.getD j 0 = y at c2 ⊢
  clear h
  go_enter Tryz.func129, Tryz.ntmps129
  go_wp2
  go_quiet (fail)
  go_wp2
  go_ret
  exact ⟨rfl, below_drewN (Below.refl _ _) _⟩

set_option maxRecDepth 20000 in
theorem pswap_in {base g c : Nat} {l : List Int} (h : NumRow base g c l w) {i j : Nat} (hi : i < l.length) (hj : j < l.length) :
    Calls Tryz.prog 130 #[.slice (some ⟨g, 0, none⟩) l.length c, .int .i64 i, .int .i64 j] w fun e w' => e = .returned (.tuple #[]) ∧ NumRow base g c (swp l i j) w' ∧ But2 g g w w' := by
  have c1 := h.at (getD_int hi)
  have c2 := h.at (getD_int hj)
  have f1 := h.frozen i
  have f2 := h.frozen j
  have hi' : (i : Int) < (l.length : Int) := by omega
  have hj' : (j : Int) < (l.length : Int) := by omega
  have hset := h.set hi (l.getD j 0)
  have hset2 := hset.set (j := j) (by simpa using hj) (l.getD i 0)
  obtain ⟨z, c3⟩ : ∃ z, (w.setCell ⟨g, i, none⟩ (.int .i64 (l.getD j 0))).cell? ⟨g, j, none⟩ = some (.int .i64 z) := ⟨_, hset.at (getD_int (by simpa using hj))⟩
  have f3 := hset.frozen j
  unfold swp
  generalize hx : l.getD i 0 = x at *
  generalize hy : l.getD j 0 = y at *
  have H : Hid _ := hset2
  clear h hx hy hset hset2
  go_enter Tryz.func130, Tryz.ntmps130
  go_wp2
  go_region
  go_wp2
  go_end0
  refine ⟨rfl, ?_, ?_⟩
  · have := H.out
    simp only [NumRow, List.length_set] at this ⊢
    exact row_kept this (fun k e => rfl)
  · refine ⟨rfl, rfl, rfl, by simp [World.setCell], fun k hk h1 h2 => ?_⟩
    exact (heap_setCell_other _ ⟨g, j, none⟩ k _ h1).trans (heap_setCell_other w ⟨g, i, none⟩ k _ h1)

/-- A row that the program's heap holds, by a pointer to it. -/
structure Qh (base bw g c : Nat) (l : List Int) (W : World) : Prop where
  cell : W.cell? ⟨bw, 1, none⟩ = some (.slice (some ⟨g, 0, none⟩) l.length c)
  row : NumRow base g c l W
  lt : bw < W.heap.size
  ne : bw ≠ g

def pls (bw : Nat) : Value := .iface 161 (.pointer (some ⟨bw, 1, none⟩))

theorem wrap_ok (ts : Array TypeId) (t : TypeId) (a : Addr) (x y : String) : Builtin.ssaWrapNilChk_ ts t #[.pointer (some a), strVal x, strVal y] = pure (.pointer (some a)) := rfl

theorem m_find {name : String} {f : FuncId} (h : (Tryz.t161.methods.find? (fun x => x.name == name)).map (fun m => (m.path, m.func)) = some (#[], some (f, false))) : ∃ m, Tryz.t161.methods.find? (fun x => x.name == name) = some m ∧ m.path = #[] ∧ m.func = some (f, false) := by
  obtain ⟨m, h3, h4⟩ := Option.map_eq_some_iff.1 h
  simp only [Prod.mk.injEq] at h4
  exact ⟨m, h3, h4.1, h4.2⟩

theorem m_any {name : String} {f : FuncId} (k : Nat) (W : World) (a : Addr) (p : Option Addr) (n c : Nat) (h : W.cell? a = some (.slice p n c)) (hm : (Tryz.t161.methods.find? (fun x => x.name == name)).map (fun m => (m.path, m.func)) = some (#[], some (f, false))) : Sem.run Tryz.prog (method (k + 1) 161 (.pointer (some a)) name) W = .ok (f, .slice p n c) W := by
  obtain ⟨m, h2, h3, h4⟩ := m_find hm
  unfold method
  go_simp
  unfold follow
  go_simp
  unfold receiverAt
  go_simp
  unfold Place.get
  go_simp
  rw [wrap_ok]
  go_simp

theorem m_len {bw : Nat} {W : World} {p : Option Addr} {n c : Nat} (h : W.cell? ⟨bw, 1, none⟩ = some (.slice p n c)) (k : Nat) : Sem.run Tryz.prog (method (k + 1) 161 (.pointer (some ⟨bw, 1, none⟩)) "Len") W = .ok (128, .slice p n c) W := m_any k W _ p n c h (by kernel_rfl)

theorem m_less {bw : Nat} {W : World} {p : Option Addr} {n c : Nat} (h : W.cell? ⟨bw, 1, none⟩ = some (.slice p n c)) (k : Nat) : Sem.run Tryz.prog (method (k + 1) 161 (.pointer (some ⟨bw, 1, none⟩)) "Less") W = .ok (129, .slice p n c) W := m_any k W _ p n c h (by kernel_rfl)

theorem m_swap {bw : Nat} {W : World} {p : Option Addr} {n c : Nat} (h : W.cell? ⟨bw, 1, none⟩ = some (.slice p n c)) (k : Nat) : Sem.run Tryz.prog (method (k + 1) 161 (.pointer (some ⟨bw, 1, none⟩)) "Swap") W = .ok (130, .slice p n c) W := m_any k W _ p n c h (by kernel_rfl)

theorem m_push (W : World) (a : Addr) (k : Nat) : Sem.run Tryz.prog (method (k + 1) 161 (.pointer (some a)) "Push") W = .ok (132, .pointer (some a)) W := by
  kernel_rfl

theorem m_pop (W : World) (a : Addr) (k : Nat) : Sem.run Tryz.prog (method (k + 1) 161 (.pointer (some a)) "Pop") W = .ok (131, .pointer (some a)) W := by
  kernel_rfl

theorem Qh.kept {base bw g c : Nat} {l : List Int} {W W' : World} (h : Qh base bw g c l W) (hB : Below W.heap.size W W') : Qh base bw g c l W' :=
  ⟨(hB.cell (p := ⟨bw, 1, none⟩) h.lt).trans h.cell, h.row.kept (hB.block _ h.row.lt.2), Nat.lt_of_lt_of_le h.lt hB.size, h.ne⟩

theorem Qh.swap {base bw g c : Nat} {l : List Int} {W W' : World} {i j : Nat} (h : Qh base bw g c l W) (hr : NumRow base g c (swp l i j) W') (hb : But2 g g W W') : Qh base bw g c (swp l i j) W' :=
  ⟨(World.cell?_of_block (a := ⟨bw, 1, none⟩) (hb.block bw h.lt h.ne h.ne)).trans (by rw [swp_len]; exact h.cell), hr, Nat.lt_of_lt_of_le h.lt hb.size, h.ne⟩

set_option maxRecDepth 20000 in
set_option maxHeartbeats 2000000 in
theorem up_in {base bw g c : Nat} {l : List Int} (h : Qh base bw g c l w) {j : Nat} (hj : j < l.length) (hl : l.length ≤ 1048576) (hu : UpI l j) :
    Calls Tryz.prog 100 #[.iface 161 (.pointer (some ⟨bw, 1, none⟩)), .int .i64 j] w fun e w' => e = .returned (.tuple #[]) ∧ ∃ m : List Int, m.Perm l ∧ HpN m m.length ∧ Qh base bw g c m w' ∧ But2 g g w w' := by
  go_enter Tryz.func100, Tryz.ntmps100
  go_wp2
  go_loopw [1] (fun k wr => ∃ (i : Nat) (m : List Int), k = .int .i64 i ∧ i < l.length ∧ m.Perm l ∧ UpI m i ∧ Qh base bw g c m wr ∧ But2 g g w wr) (fun k _ => (intOf k).toNat)
  case atStart => exact ⟨j, l, rfl, hj, .refl _, hu, h, .refl _ _ _⟩
  case round =>
    clear h hj hu
    obtain ⟨i, m, rfl, hi, hp, hu, h, hb⟩ := hrel
    have hml := hp.length_eq
    have him : i < m.length := by omega
    clear hml
    by_cases h0 : i = 0
    · subst h0
      have HH : Hid _ := And.intro hp (And.intro hu (And.intro h hb))
      clear hp hu h hb
      go_wp2
      go_end0
      obtain ⟨hp, hu, h, hb⟩ := HH.out
      exact ⟨rfl, m, hp, hu.done (.inl rfl), h, hb⟩
    · obtain ⟨q, hq⟩ : ∃ q, par i = q := ⟨_, rfl⟩
      have hqi : q < i := by rw [← hq]; unfold par; omega
      have hq' : ((i : Int) - 1) / 2 = (q : Int) := by rw [← hq]; unfold par; omega
      have hne : ((q : Int) == (i : Int)) = false := by simp; omega
      have hL := m_less h.cell
      have HL := pless_in h.row (i := i) (j := q) (by omega) (by omega)
      by_cases hlt : m.getD i 0 < m.getD q 0
      · have hst := hu.step (by omega) (by omega) (by rw [hq]; exact hlt)
        rw [hq] at hst
        have hsp := swp_perm (l := m) (i := q) (j := i) (by omega) (by omega)
        have HS := fun (W : World) (hB : Below wr.heap.size wr W) => pswap_in (h.kept hB).row (i := q) (j := i) (by omega) (by omega)
        have HM := fun (W : World) (hB : Below wr.heap.size wr W) => m_swap (h.kept hB).cell
        have HH : Hid _ := And.intro hp (And.intro h hb)
        rw [decide_eq_true hlt] at HL
        clear hp h hb hu hq
        go_wp2_with (first
          | (go_at_call 129; (with_reducible refine HL.mono ?_); clear HL; rintro e w1 ⟨rfl, hB1⟩; have hS1 := HM _ hB1)
          | (go_at_call 130; (with_reducible refine (HS _ hB1).mono ?_); clear HS; rintro e w2 ⟨rfl, hr2, hb2⟩))
        go_roundw
        case rel =>
          obtain ⟨hp, h, hb⟩ := HH.out
          exact ⟨q, swp m q i, rfl, by omega, hsp.trans hp, hst, (h.kept hB1).swap hr2 hb2, hb.trans ((But2.of_below hB1).trans hb2)⟩
        case measure => simp [intOf]; omega
      · have hdn := hu.done (.inr (by rw [hq]; exact hlt))
        have HH : Hid _ := And.intro hp (And.intro h hb)
        rw [decide_eq_false hlt] at HL
        clear hp h hb hu hq
        go_wp2_with (first
          | (go_at_call 129; (with_reducible refine HL.mono ?_); clear HL; rintro e w1 ⟨rfl, hB1⟩))
        go_end0
        obtain ⟨hp, h, hb⟩ := HH.out
        exact ⟨rfl, m, hp, hdn, h.kept hB1, hb.trans (But2.of_below hB1)⟩

end Go.Proofs.YtgindgneobghaaaGreatDoor

namespace Go.Proofs.YtgindgneobghaaaGreatDoor
set_option linter.unusedVariables false
set_option linter.unusedSimpArgs false
open Go.RowKit

variable {w : World}

theorem least_left {m : List Int} {n i : Nat} (h1 : 2 * i + 1 < n) (h2 : ¬ (2 * i + 2 < n ∧ m.getD (2 * i + 2) 0 < m.getD (2 * i + 1) 0)) : Least m n i (2 * i + 1) := by
  refine ⟨h1, .inl rfl, fun k k0 kn kp => ?_⟩
  have : k = 2 * i + 1 ∨ k = 2 * i + 2 := by unfold par at kp; omega
  rcases this with rfl | rfl
  · omega
  · omega

theorem least_right {m : List Int} {n i : Nat} (h1 : 2 * i + 2 < n) (h2 : m.getD (2 * i + 2) 0 < m.getD (2 * i + 1) 0) : Least m n i (2 * i + 2) := by
  refine ⟨h1, .inr rfl, fun k k0 kn kp => ?_⟩
  have : k = 2 * i + 1 ∨ k = 2 * i + 2 := by unfold par at kp; omega
  rcases this with rfl | rfl
  · omega
  · omega

set_option maxRecDepth 20000 in
set_option maxHeartbeats 4000000 in
theorem down_in {base bw g c : Nat} {l : List Int} (h : Qh base bw g c l w) {n : Nat} (hn : n ≤ l.length) (hl : l.length ≤ 1048576) (hu : DownI l n 0) :
    Calls Tryz.prog 101 #[.iface 161 (.pointer (some ⟨bw, 1, none⟩)), .int .i64 (0 : Int), .int .i64 n] w fun e w' => ∃ b, e = .returned (.bool b) ∧ ∃ m : List Int, m.Perm l ∧ HpN m n ∧ (∀ k, n ≤ k → m.getD k 0 = l.getD k 0) ∧ Qh base bw g c m w' ∧ But2 g g w w' := by
  go_enter Tryz.func101, Tryz.ntmps101
  go_wp2
  go_loopw [7] (fun k wr => ∃ (i : Nat) (m : List Int), k = .int .i64 i ∧ (i < n ∨ i = 0) ∧ m.Perm l ∧ DownI m n i ∧ (∀ k, n ≤ k → m.getD k 0 = l.getD k 0) ∧ Qh base bw g c m wr ∧ But2 g g w wr) (fun k _ => n - (intOf k).toNat)
  case atStart => exact ⟨0, l, rfl, .inr rfl, .refl _, hu, fun _ _ => rfl, h, .refl _ _ _⟩
  case round =>
    clear h hu
    obtain ⟨i, m, rfl, hi, hp, hu, hk, h, hb⟩ := hrel
    have hml := hp.length_eq
    have hnm : n ≤ m.length := by omega
    have hn20 : n ≤ 1048576 := by omega
    clear hml hn hl
    have HH : Hid _ := And.intro hp (And.intro hk (And.intro h hb))
    by_cases h1 : 2 * i + 1 < n
    · obtain ⟨j1, hj1⟩ : ∃ j1 : Nat, j1 = 2 * i + 1 := ⟨_, rfl⟩
      obtain ⟨j2, hj2⟩ : ∃ j2 : Nat, j2 = 2 * i + 2 := ⟨_, rfl⟩
      have a1 : 2 * (i : Int) + 1 = (j1 : Int) := by omega
      have a4 : (j1 : Int) + 1 = (j2 : Int) := by omega
      have a2 : ¬ ((n : Int) ≤ (j1 : Int)) := by omega
      have a3 : ¬ ((j1 : Int) < 0) := by omega
      have hij1 : i < j1 := by omega
      have hij2 : i < j2 := by omega
      have him : i < m.length := by omega
      have hj1m : j1 < m.length := by omega
      have hj1n : j1 < n := by omega
      have hL := m_less h.cell
      have HL := fun (W : World) (hB : Below wr.heap.size wr W) (x y : Nat) (hx : x < m.length) (hy : y < m.length) => pless_in (h.kept hB).row (i := x) (j := y) hx hy
      have HML := fun (W : World) (hB : Below wr.heap.size wr W) => m_less (h.kept hB).cell
      have HMS := fun (W : World) (hB : Below wr.heap.size wr W) => m_swap (h.kept hB).cell
      have HS := fun (W : World) (hB : Below wr.heap.size wr W) (y : Nat) (hy : y < m.length) => pswap_in (h.kept hB).row (i := i) (j := y) him hy
      have hR := Below.refl wr.heap.size wr
      by_cases hj2n : j2 < n
      · by_cases h2 : j2 < n ∧ m.getD j2 0 < m.getD j1 0
        · have hle : Least m n i j2 := by rw [hj2]; exact least_right (by omega) (by rw [← hj1, ← hj2]; exact h2.2)
          have hjm : j2 < m.length := by have := hle.1; omega
          have hjn := hle.1
          have H1 := HL wr hR j2 j1 (by omega) hj1m
          have a5 : (j2 : Int) < (n : Int) := by omega
          rw [decide_eq_true h2.2] at H1
          by_cases h3 : m.getD j2 0 < m.getD i 0
          · have hst := hu.step hnm hle h3
            have H2 := fun (W : World) (hB : Below wr.heap.size wr W) => HL W hB j2 i hjm him
            rw [decide_eq_true h3] at H2
            have hsp := swp_perm (l := m) (i := i) (j := j2) him hjm
            have hsa := fun k => swp_at (l := m) (i := i) (j := j2) him hjm k
            have HSA : Hid _ := hsa
            have HSJ := fun (W : World) (hB : Below wr.heap.size wr W) => HS W hB j2 hjm
            have A0 : Hid (j1 = 2 * i + 1 ∧ j2 = 2 * i + 2) := ⟨hj1, hj2⟩
            clear hp hu hk h hb HL HS hle h2 h3 hj1 hj2 h1 hsa
            go_wp2_with (first
              | (go_at_call 129; (with_reducible refine H1.mono ?_); clear H1; rintro e w1 ⟨rfl, hB1⟩; have hL1 := HML _ hB1)
              | (go_at_call 129; (with_reducible refine (H2 _ hB1).mono ?_); clear H2; rintro e w2 ⟨rfl, hB2⟩; have hB := hB1.trans (hB2.mono hB1.size); have hS2 := HMS _ hB)
              | (go_at_call 130; (with_reducible refine (HSJ _ hB).mono ?_); clear HSJ; rintro e w3 ⟨rfl, hr3, hb3⟩))
            go_roundw
            case rel =>
              obtain ⟨hp, hk, h, hb⟩ := HH.out
              refine ⟨j2, swp m i j2, rfl, .inl hjn, hsp.trans hp, hst, fun k hkn => ?_, (h.kept hB).swap hr3 hb3, hb.trans ((But2.of_below hB).trans hb3)⟩
              rw [HSA.out k, if_neg (by omega), if_neg (by omega)]
              exact hk k hkn
            case measure => have := A0.out; simp [intOf]; omega
          · have hdn := hu.done (.inr ⟨_, hle, h3⟩)
            have H2 := fun (W : World) (hB : Below wr.heap.size wr W) => HL W hB j2 i hjm him
            rw [decide_eq_false h3] at H2
            have A0 : Hid (j1 = 2 * i + 1 ∧ j2 = 2 * i + 2) := ⟨hj1, hj2⟩
            clear hp hu hk h hb HL HS hle h2 h3 hj1 hj2 h1
            go_wp2_with (first
              | (go_at_call 129; (with_reducible refine H1.mono ?_); clear H1; rintro e w1 ⟨rfl, hB1⟩; have hL1 := HML _ hB1)
              | (go_at_call 129; (with_reducible refine (H2 _ hB1).mono ?_); clear H2; rintro e w2 ⟨rfl, hB2⟩; have hB := hB1.trans (hB2.mono hB1.size); have hS2 := HMS _ hB))
            go_ret
            obtain ⟨hp, hk, h, hb⟩ := HH.out
            exact ⟨_, rfl, m, hp, hdn, hk, h.kept hB, hb.trans (But2.of_below hB)⟩
        · have hle : Least m n i j1 := by rw [hj1]; exact least_left h1 (by rw [← hj1, ← hj2]; exact h2)
          have hjm : j1 < m.length := by have := hle.1; omega
          have hjn := hle.1
          have H1 := HL wr hR j2 j1 (by omega) hj1m
          have a5 : (j2 : Int) < (n : Int) := by omega
          rw [decide_eq_false (fun q => h2 ⟨hj2n, q⟩)] at H1
          by_cases h3 : m.getD j1 0 < m.getD i 0
          · have hst := hu.step hnm hle h3
            have H2 := fun (W : World) (hB : Below wr.heap.size wr W) => HL W hB j1 i hjm him
            rw [decide_eq_true h3] at H2
            have hsp := swp_perm (l := m) (i := i) (j := j1) him hjm
            have hsa := fun k => swp_at (l := m) (i := i) (j := j1) him hjm k
            have HSA : Hid _ := hsa
            have HSJ := fun (W : World) (hB : Below wr.heap.size wr W) => HS W hB j1 hjm
            have A0 : Hid (j1 = 2 * i + 1 ∧ j2 = 2 * i + 2) := ⟨hj1, hj2⟩
            clear hp hu hk h hb HL HS hle h2 h3 hj1 hj2 h1 hsa
            go_wp2_with (first
              | (go_at_call 129; (with_reducible refine H1.mono ?_); clear H1; rintro e w1 ⟨rfl, hB1⟩; have hL1 := HML _ hB1)
              | (go_at_call 129; (with_reducible refine (H2 _ hB1).mono ?_); clear H2; rintro e w2 ⟨rfl, hB2⟩; have hB := hB1.trans (hB2.mono hB1.size); have hS2 := HMS _ hB)
              | (go_at_call 130; (with_reducible refine (HSJ _ hB).mono ?_); clear HSJ; rintro e w3 ⟨rfl, hr3, hb3⟩))
            go_roundw
            case rel =>
              obtain ⟨hp, hk, h, hb⟩ := HH.out
              refine ⟨j1, swp m i j1, rfl, .inl hjn, hsp.trans hp, hst, fun k hkn => ?_, (h.kept hB).swap hr3 hb3, hb.trans ((But2.of_below hB).trans hb3)⟩
              rw [HSA.out k, if_neg (by omega), if_neg (by omega)]
              exact hk k hkn
            case measure => have := A0.out; simp [intOf]; omega
          · have hdn := hu.done (.inr ⟨_, hle, h3⟩)
            have H2 := fun (W : World) (hB : Below wr.heap.size wr W) => HL W hB j1 i hjm him
            rw [decide_eq_false h3] at H2
            have A0 : Hid (j1 = 2 * i + 1 ∧ j2 = 2 * i + 2) := ⟨hj1, hj2⟩
            clear hp hu hk h hb HL HS hle h2 h3 hj1 hj2 h1
            go_wp2_with (first
              | (go_at_call 129; (with_reducible refine H1.mono ?_); clear H1; rintro e w1 ⟨rfl, hB1⟩; have hL1 := HML _ hB1)
              | (go_at_call 129; (with_reducible refine (H2 _ hB1).mono ?_); clear H2; rintro e w2 ⟨rfl, hB2⟩; have hB := hB1.trans (hB2.mono hB1.size); have hS2 := HMS _ hB))
            go_ret
            obtain ⟨hp, hk, h, hb⟩ := HH.out
            exact ⟨_, rfl, m, hp, hdn, hk, h.kept hB, hb.trans (But2.of_below hB)⟩
      · have h2 : ¬ (j2 < n ∧ m.getD (j2) 0 < m.getD (2 * i + 1) 0) := fun q => hj2n q.1
        have hle : Least m n i j1 := by rw [hj1]; exact least_left h1 (by rw [← hj2]; exact h2)
        have hjm : j1 < m.length := by have := hle.1; omega
        have hjn := hle.1
        have a5 : ¬ ((j2 : Int) < (n : Int)) := by omega
        by_cases h3 : m.getD j1 0 < m.getD i 0
        · have hst := hu.step hnm hle h3
          have H2 := fun (W : World) (hB : Below wr.heap.size wr W) => HL W hB j1 i hjm him
          rw [decide_eq_true h3] at H2
          have hsp := swp_perm (l := m) (i := i) (j := j1) him hjm
          have hsa := fun k => swp_at (l := m) (i := i) (j := j1) him hjm k
          have HSA : Hid _ := hsa
          have HSJ := fun (W : World) (hB : Below wr.heap.size wr W) => HS W hB j1 hjm
          have A0 : Hid (j1 = 2 * i + 1 ∧ j2 = 2 * i + 2) := ⟨hj1, hj2⟩
          clear hp hu hk h hb HL HS hle h2 h3 hj1 hj2 h1 hsa
          go_wp2_with (first
            | (go_at_call 129; (with_reducible refine (H2 _ hR).mono ?_); clear H2; rintro e w2 ⟨rfl, hB⟩; have hS2 := HMS _ hB)
            | (go_at_call 130; (with_reducible refine (HSJ _ hB).mono ?_); clear HSJ; rintro e w3 ⟨rfl, hr3, hb3⟩))
          go_roundw
          case rel =>
            obtain ⟨hp, hk, h, hb⟩ := HH.out
            refine ⟨j1, swp m i j1, rfl, .inl hjn, hsp.trans hp, hst, fun k hkn => ?_, (h.kept hB).swap hr3 hb3, hb.trans ((But2.of_below hB).trans hb3)⟩
            rw [HSA.out k, if_neg (by omega), if_neg (by omega)]
            exact hk k hkn
          case measure => have := A0.out; simp [intOf]; omega
        · have hdn := hu.done (.inr ⟨_, hle, h3⟩)
          have H2 := fun (W : World) (hB : Below wr.heap.size wr W) => HL W hB j1 i hjm him
          rw [decide_eq_false h3] at H2
          have A0 : Hid (j1 = 2 * i + 1 ∧ j2 = 2 * i + 2) := ⟨hj1, hj2⟩
          clear hp hu hk h hb HL HS hle h2 h3 hj1 hj2 h1
          go_wp2_with (first
            | (go_at_call 129; (with_reducible refine (H2 _ hR).mono ?_); clear H2; rintro e w2 ⟨rfl, hB⟩; have hS2 := HMS _ hB))
          go_ret
          obtain ⟨hp, hk, h, hb⟩ := HH.out
          exact ⟨_, rfl, m, hp, hdn, hk, h.kept hB, hb.trans (But2.of_below hB)⟩
    · have a1 : (n : Int) ≤ 2 * (i : Int) + 1 := by omega
      have hdn := hu.done (.inl (by omega))
      clear hp hu hk h hb
      go_wp2
      go_ret
      obtain ⟨hp, hk, h, hb⟩ := HH.out
      exact ⟨_, rfl, m, hp, hdn, hk, h, hb⟩

end Go.Proofs.YtgindgneobghaaaGreatDoor
