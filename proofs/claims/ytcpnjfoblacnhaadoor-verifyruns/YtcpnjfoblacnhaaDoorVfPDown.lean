/- container/heap over the program's places: down. -/
import Derived.Test.YtcpnjfoblacnhaaDoorVfPHeap
namespace Go.Proofs.YtcpnjfoblacnhaaDoor
set_option linter.unusedVariables false
set_option linter.unusedSimpArgs false
open Go.RowKit

variable {w : World}

theorem least_left {m : List Int} {n i : Nat} (h1 : 2 * i + 1 < n) (h2 : ¬ (2 * i + 2 < n ∧ m.getD (2 * i + 2) 0 < m.getD (2 * i + 1) 0)) : Least m n i (2 * i + 1) := by
  refine ⟨h1, .inl rfl, fun k k0 kn kp => ?_⟩
  have : k = 2 * i + 1 ∨ k = 2 * i + 2 := by unfold par at kp; omega
  rcases this with rfl | rfl
  · omega
  · omega

theorem least_right {m : List Int} {n i : Nat} (h1 : 2 * i + 2 < n) (h2 : m.getD (2 * i + 2) 0 < m.getD (2 * i + 1) 0) : Least m n i (2 * i + 2) := by
  refine ⟨h1, .inr rfl, fun k k0 kn kp => ?_⟩
  have : k = 2 * i + 1 ∨ k = 2 * i + 2 := by unfold par at kp; omega
  rcases this with rfl | rfl
  · omega
  · omega

set_option maxRecDepth 20000 in
set_option maxHeartbeats 4000000 in
theorem down_in {base bw g c : Nat} {l : List Int} (h : Qh base bw g c l w) {n : Nat} (hn : n ≤ l.length) (hl : l.length ≤ 1048576) (hu : DownI l n 0) :
    Calls Tryd.prog 78 #[.iface 126 (.pointer (some ⟨bw, 1, none⟩)), .int .i64 (0 : Int), .int .i64 n] w fun e w' => ∃ b, e = .returned (.bool b) ∧ ∃ m : List Int, m.Perm l ∧ HpN m n ∧ (∀ k, n ≤ k → m.getD k 0 = l.getD k 0) ∧ Qh base bw g c m w' ∧ But2 g g w w' := by
  go_enter Tryd.func78, Tryd.ntmps78
  go_wp2
  go_loopw [7] (fun k wr => ∃ (i : Nat) (m : List Int), k = .int .i64 i ∧ (i < n ∨ i = 0) ∧ m.Perm l ∧ DownI m n i ∧ (∀ k, n ≤ k → m.getD k 0 = l.getD k 0) ∧ Qh base bw g c m wr ∧ But2 g g w wr) (fun k _ => n - (intOf k).toNat)
  case atStart => exact ⟨0, l, rfl, .inr rfl, .refl _, hu, fun _ _ => rfl, h, .refl _ _ _⟩
  case round =>
    clear h hu
    obtain ⟨i, m, rfl, hi, hp, hu, hk, h, hb⟩ := hrel
    have hml := hp.length_eq
    have hnm : n ≤ m.length := by omega
    have hn20 : n ≤ 1048576 := by omega
    clear hml hn hl
    have HH : Hid _ := And.intro hp (And.intro hk (And.intro h hb))
    by_cases h1 : 2 * i + 1 < n
    · obtain ⟨j1, hj1⟩ : ∃ j1 : Nat, j1 = 2 * i + 1 := ⟨_, rfl⟩
      obtain ⟨j2, hj2⟩ : ∃ j2 : Nat, j2 = 2 * i + 2 := ⟨_, rfl⟩
      have a1 : 2 * (i : Int) + 1 = (j1 : Int) := by omega
      have a4 : (j1 : Int) + 1 = (j2 : Int) := by omega
      have a2 : ¬ ((n : Int) ≤ (j1 : Int)) := by omega
      have a3 : ¬ ((j1 : Int) < 0) := by omega
      have hij1 : i < j1 := by omega
      have hij2 : i < j2 := by omega
      have him : i < m.length := by omega
      have hj1m : j1 < m.length := by omega
      have hj1n : j1 < n := by omega
      have hL := m_less h.cell
      have HL := fun (W : World) (hB : Below wr.heap.size wr W) (x y : Nat) (hx : x < m.length) (hy : y < m.length) => pless_in (h.kept hB).row (i := x) (j := y) hx hy
      have HML := fun (W : World) (hB : Below wr.heap.size wr W) => m_less (h.kept hB).cell
      have HMS := fun (W : World) (hB : Below wr.heap.size wr W) => m_swap (h.kept hB).cell
      have HS := fun (W : World) (hB : Below wr.heap.size wr W) (y : Nat) (hy : y < m.length) => pswap_in (h.kept hB).row (i := i) (j := y) him hy
      have hR := Below.refl wr.heap.size wr
      by_cases hj2n : j2 < n
      · by_cases h2 : j2 < n ∧ m.getD j2 0 < m.getD j1 0
        · have hle : Least m n i j2 := by rw [hj2]; exact least_right (by omega) (by rw [← hj1, ← hj2]; exact h2.2)
          have hjm : j2 < m.length := by have := hle.1; omega
          have hjn := hle.1
          have H1 := HL wr hR j2 j1 (by omega) hj1m
          have a5 : (j2 : Int) < (n : Int) := by omega
          rw [decide_eq_true h2.2] at H1
          by_cases h3 : m.getD j2 0 < m.getD i 0
          · have hst := hu.step hnm hle h3
            have H2 := fun (W : World) (hB : Below wr.heap.size wr W) => HL W hB j2 i hjm him
            rw [decide_eq_true h3] at H2
            have hsp := swp_perm (l := m) (i := i) (j := j2) him hjm
            have hsa := fun k => swp_at (l := m) (i := i) (j := j2) him hjm k
            have HSA : Hid _ := hsa
            have HSJ := fun (W : World) (hB : Below wr.heap.size wr W) => HS W hB j2 hjm
            have A0 : Hid (j1 = 2 * i + 1 ∧ j2 = 2 * i + 2) := ⟨hj1, hj2⟩
            clear hp hu hk h hb HL HS hle h2 h3 hj1 hj2 h1 hsa
            go_wp2_with (first
              | (go_at_call 97; (with_reducible refine H1.mono ?_); clear H1; rintro e w1 ⟨rfl, hB1⟩; have hL1 := HML _ hB1)
              | (go_at_call 97; (with_reducible refine (H2 _ hB1).mono ?_); clear H2; rintro e w2 ⟨rfl, hB2⟩; have hB := hB1.trans (hB2.mono hB1.size); have hS2 := HMS _ hB)
              | (go_at_call 98; (with_reducible refine (HSJ _ hB).mono ?_); clear HSJ; rintro e w3 ⟨rfl, hr3, hb3⟩))
            go_roundw
            case rel =>
              obtain ⟨hp, hk, h, hb⟩ := HH.out
              refine ⟨j2, swp m i j2, rfl, .inl hjn, hsp.trans hp, hst, fun k hkn => ?_, (h.kept hB).swap hr3 hb3, hb.trans ((But2.of_below hB).trans hb3)⟩
              rw [HSA.out k, if_neg (by omega), if_neg (by omega)]
              exact hk k hkn
            case measure => have := A0.out; simp [intOf]; omega
          · have hdn := hu.done (.inr ⟨_, hle, h3⟩)
            have H2 := fun (W : World) (hB : Below wr.heap.size wr W) => HL W hB j2 i hjm him
            rw [decide_eq_false h3] at H2
            have A0 : Hid (j1 = 2 * i + 1 ∧ j2 = 2 * i + 2) := ⟨hj1, hj2⟩
            clear hp hu hk h hb HL HS hle h2 h3 hj1 hj2 h1
            go_wp2_with (first
              | (go_at_call 97; (with_reducible refine H1.mono ?_); clear H1; rintro e w1 ⟨rfl, hB1⟩; have hL1 := HML _ hB1)
              | (go_at_call 97; (with_reducible refine (H2 _ hB1).mono ?_); clear H2; rintro e w2 ⟨rfl, hB2⟩; have hB := hB1.trans (hB2.mono hB1.size); have hS2 := HMS _ hB))
            go_ret
            obtain ⟨hp, hk, h, hb⟩ := HH.out
            exact ⟨_, rfl, m, hp, hdn, hk, h.kept hB, hb.trans (But2.of_below hB)⟩
        · have hle : Least m n i j1 := by rw [hj1]; exact least_left h1 (by rw [← hj1, ← hj2]; exact h2)
          have hjm : j1 < m.length := by have := hle.1; omega
          have hjn := hle.1
          have H1 := HL wr hR j2 j1 (by omega) hj1m
          have a5 : (j2 : Int) < (n : Int) := by omega
          rw [decide_eq_false (fun q => h2 ⟨hj2n, q⟩)] at H1
          by_cases h3 : m.getD j1 0 < m.getD i 0
          · have hst := hu.step hnm hle h3
            have H2 := fun (W : World) (hB : Below wr.heap.size wr W) => HL W hB j1 i hjm him
            rw [decide_eq_true h3] at H2
            have hsp := swp_perm (l := m) (i := i) (j := j1) him hjm
            have hsa := fun k => swp_at (l := m) (i := i) (j := j1) him hjm k
            have HSA : Hid _ := hsa
            have HSJ := fun (W : World) (hB : Below wr.heap.size wr W) => HS W hB j1 hjm
            have A0 : Hid (j1 = 2 * i + 1 ∧ j2 = 2 * i + 2) := ⟨hj1, hj2⟩
            clear hp hu hk h hb HL HS hle h2 h3 hj1 hj2 h1 hsa
            go_wp2_with (first
              | (go_at_call 97; (with_reducible refine H1.mono ?_); clear H1; rintro e w1 ⟨rfl, hB1⟩; have hL1 := HML _ hB1)
              | (go_at_call 97; (with_reducible refine (H2 _ hB1).mono ?_); clear H2; rintro e w2 ⟨rfl, hB2⟩; have hB := hB1.trans (hB2.mono hB1.size); have hS2 := HMS _ hB)
              | (go_at_call 98; (with_reducible refine (HSJ _ hB).mono ?_); clear HSJ; rintro e w3 ⟨rfl, hr3, hb3⟩))
            go_roundw
            case rel =>
              obtain ⟨hp, hk, h, hb⟩ := HH.out
              refine ⟨j1, swp m i j1, rfl, .inl hjn, hsp.trans hp, hst, fun k hkn => ?_, (h.kept hB).swap hr3 hb3, hb.trans ((But2.of_below hB).trans hb3)⟩
              rw [HSA.out k, if_neg (by omega), if_neg (by omega)]
              exact hk k hkn
            case measure => have := A0.out; simp [intOf]; omega
          · have hdn := hu.done (.inr ⟨_, hle, h3⟩)
            have H2 := fun (W : World) (hB : Below wr.heap.size wr W) => HL W hB j1 i hjm him
            rw [decide_eq_false h3] at H2
            have A0 : Hid (j1 = 2 * i + 1 ∧ j2 = 2 * i + 2) := ⟨hj1, hj2⟩
            clear hp hu hk h hb HL HS hle h2 h3 hj1 hj2 h1
            go_wp2_with (first
              | (go_at_call 97; (with_reducible refine H1.mono ?_); clear H1; rintro e w1 ⟨rfl, hB1⟩; have hL1 := HML _ hB1)
              | (go_at_call 97; (with_reducible refine (H2 _ hB1).mono ?_); clear H2; rintro e w2 ⟨rfl, hB2⟩; have hB := hB1.trans (hB2.mono hB1.size); have hS2 := HMS _ hB))
            go_ret
            obtain ⟨hp, hk, h, hb⟩ := HH.out
            exact ⟨_, rfl, m, hp, hdn, hk, h.kept hB, hb.trans (But2.of_below hB)⟩
      · have h2 : ¬ (j2 < n ∧ m.getD (j2) 0 < m.getD (2 * i + 1) 0) := fun q => hj2n q.1
        have hle : Least m n i j1 := by rw [hj1]; exact least_left h1 (by rw [← hj2]; exact h2)
        have hjm : j1 < m.length := by have := hle.1; omega
        have hjn := hle.1
        have a5 : ¬ ((j2 : Int) < (n : Int)) := by omega
        by_cases h3 : m.getD j1 0 < m.getD i 0
        · have hst := hu.step hnm hle h3
          have H2 := fun (W : World) (hB : Below wr.heap.size wr W) => HL W hB j1 i hjm him
          rw [decide_eq_true h3] at H2
          have hsp := swp_perm (l := m) (i := i) (j := j1) him hjm
          have hsa := fun k => swp_at (l := m) (i := i) (j := j1) him hjm k
          have HSA : Hid _ := hsa
          have HSJ := fun (W : World) (hB : Below wr.heap.size wr W) => HS W hB j1 hjm
          have A0 : Hid (j1 = 2 * i + 1 ∧ j2 = 2 * i + 2) := ⟨hj1, hj2⟩
          clear hp hu hk h hb HL HS hle h2 h3 hj1 hj2 h1 hsa
          go_wp2_with (first
            | (go_at_call 97; (with_reducible refine (H2 _ hR).mono ?_); clear H2; rintro e w2 ⟨rfl, hB⟩; have hS2 := HMS _ hB)
            | (go_at_call 98; (with_reducible refine (HSJ _ hB).mono ?_); clear HSJ; rintro e w3 ⟨rfl, hr3, hb3⟩))
          go_roundw
          case rel =>
            obtain ⟨hp, hk, h, hb⟩ := HH.out
            refine ⟨j1, swp m i j1, rfl, .inl hjn, hsp.trans hp, hst, fun k hkn => ?_, (h.kept hB).swap hr3 hb3, hb.trans ((But2.of_below hB).trans hb3)⟩
            rw [HSA.out k, if_neg (by omega), if_neg (by omega)]
            exact hk k hkn
          case measure => have := A0.out; simp [intOf]; omega
        · have hdn := hu.done (.inr ⟨_, hle, h3⟩)
          have H2 := fun (W : World) (hB : Below wr.heap.size wr W) => HL W hB j1 i hjm him
          rw [decide_eq_false h3] at H2
          have A0 : Hid (j1 = 2 * i + 1 ∧ j2 = 2 * i + 2) := ⟨hj1, hj2⟩
          clear hp hu hk h hb HL HS hle h2 h3 hj1 hj2 h1
          go_wp2_with (first
            | (go_at_call 97; (with_reducible refine (H2 _ hR).mono ?_); clear H2; rintro e w2 ⟨rfl, hB⟩; have hS2 := HMS _ hB))
          go_ret
          obtain ⟨hp, hk, h, hb⟩ := HH.out
          exact ⟨_, rfl, m, hp, hdn, hk, h.kept hB, hb.trans (But2.of_below hB)⟩
    · have a1 : (n : Int) ≤ 2 * (i : Int) + 1 := by omega
      have hdn := hu.done (.inl (by omega))
      clear hp hu hk h hb
      go_wp2
      go_ret
      obtain ⟨hp, hk, h, hb⟩ := HH.out
      exact ⟨_, rfl, m, hp, hdn, hk, h, hb⟩

end Go.Proofs.YtcpnjfoblacnhaaDoor
