/- gc's Reach. -/
import Derived.Test.YtampilfebmfhaaaGcReach
namespace Go.Proofs.Ytampilfebmfhaaa
set_option linter.unusedVariables false
set_option linter.unusedSimpArgs false
open Go.RowKit

variable {n₀ bh b lim used : Nat} {vw vb : Value} {w : World} {M : List Ob}

/-- reached, by the objects. -/
theorem reached_obs (h : Hp n₀ bh b vw vb w lim used M) {p : Option Addr} {vs : List Vl} (c : Nat) (hv : Vals w p vs) (hlen : vs.length ≤ 1000000) :
    Calls Try.prog 23 #[.pointer (some ⟨bh, 0, none⟩), .slice p vs.length c] w fun e w' => ∃ (f : Ob → Bool) (q : Option Addr) (c : Nat), (∀ o ∈ M, f o = true ↔ Rch M vs o.at_) ∧ e = .returned (.slice q (M.filter f).length c) ∧
      w'.ownsRow w.heap.size 2 1 (.slice q (M.filter f).length c) (M.filter f).length ((M.filter f).map (fun o => pv o.at_)) ∧ Below w.heap.size w w' := by
  refine (reached_in h c hv hlen).mono ?_
  rintro e w' ⟨S, q, c', hS, hl, he, hrow, hB⟩
  have hm := marked_eq h.srt.1 hS
  have hl2 : (marked 0 S).length = (M.filter (fun o => S.getD o.at_ false)).length := by rw [hm]; simp
  refine ⟨fun o => S.getD o.at_ false, q, c', ?_, by rw [← hl2]; exact he, ?_, hB⟩
  · intro o _
    rw [← hS o.at_]
    cases e : S[o.at_]? with
    | none => simp [List.getD, e]
    | some y => simp [List.getD, e]
  · rw [hl2, hm, List.map_map] at hrow
    exact hrow

set_option maxRecDepth 20000 in
set_option maxHeartbeats 1000000 in
theorem reach_in (h : Hp n₀ bh b vw vb w lim used M) (hl1 : 1 ≤ lim) {p : Option Addr} {vs : List Vl} (c : Nat) (hv : Vals w p vs) (hlen : vs.length ≤ 1000000) (hk8 : ∀ v ∈ vs, v.k < 256) :
    Calls Try.prog 8 #[.pointer (some ⟨bh, 0, none⟩), .slice p vs.length c] w fun e w' => Below w.heap.size w w' ∧
      ((¬ May M vs ∧ e = .returned (.tuple #[.slice none 0 0, .int .i64 0, .int .i64 1])) ∨
       (May M vs ∧ ∃ (f : Ob → Bool) (q : Option Addr) (c : Nat), (∀ o ∈ M, f o = true ↔ Rch M vs o.at_) ∧ e = .returned (.tuple #[.slice q (M.filter f).length c, .int .i64 (sumO (M.filter f) : Nat), .int .i64 0]) ∧
         w'.ownsRow w.heap.size 2 1 (.slice q (M.filter f).length c) (M.filter f).length ((M.filter f).map (fun o => pv o.at_)))) := by
  have H1 := check_in h hl1 c hv hlen hk8
  by_cases hmay : May M vs
  · have H1' : Calls Try.prog 22 #[.pointer (some ⟨bh, 0, none⟩), .slice p vs.length c] w fun e w' => e = .returned (.int .i64 0) ∧ Below w.heap.size w w' := by
      refine H1.mono ?_
      rintro e w' ⟨⟨_, he⟩ | ⟨hn, _⟩, hB⟩
      · exact ⟨he, hB⟩
      · exact (hn hmay).elim
    have H2 := fun w' (hB : Below w.heap.size w w') => reached_obs (h.below hB) c (hv.below hB) hlen
    have HM : Hid _ := hmay
    clear H1 hmay
    have hsL := Srt.length_le h.srt.1 h.srt.2 (Nat.zero_le _)
    have hle := h.le
    go_enter Try.func8, Try.ntmps8
    go_wp2_with (first
      | (go_at_call 22; refine H1'.mono ?_; clear H1'; rintro e w1 ⟨rfl, hB1⟩)
      | (go_at_call 23; refine (H2 _ hB1).mono ?_; clear H2; rintro e w2 ⟨f, q, c2, hf, rfl, hrow, hB2⟩))
    have hfl : (M.filter f).length ≤ M.length := List.length_filter_le _ _
    obtain ⟨L, hL⟩ : ∃ L, M.filter f = L := ⟨_, rfl⟩
    have hLm : ∀ o ∈ L, o ∈ M := fun o ho => by rw [← hL] at ho; exact (List.mem_filter.1 ho).1
    have HF : Hid _ := And.intro hf hL
    rw [hL] at hrow hfl ⊢
    clear hf hL
    have hB := hB1.trans (hB2.mono hB1.size)
    have hw2 := h.below hB
    have hws : ∀ o ∈ L, o.ws.length ≤ 1048576 := fun o ho => by
      have := h.srt.2 o (hLm o ho); unfold Ob.end_ at this; omega
    go_loop [9, 23] (fun t k => ∃ (pre rest : List Ob), L = pre ++ rest ∧ t = .int .i64 (sumO pre : Nat) ∧ k = .int .i64 pre.length) (fun _ k => L.length - (intOf k).toNat)
    case atStart => exact ⟨[], L, rfl, rfl, rfl⟩
    case round =>
      obtain ⟨pre, rest, hR, rfl, rfl⟩ := hrel
      have hsum := sumO_le pre (fun o ho => hws o (by rw [hR]; simp [ho]))
      have hpl : pre.length ≤ L.length := by rw [hR]; simp
      have hs63 : sumO pre ≤ 1099512676352 := by
        have : pre.length * 1048577 ≤ 1048576 * 1048577 := Nat.mul_le_mul_right _ (by omega)
        omega
      cases rest with
      | nil =>
        have hR' : L = pre := by simpa using hR
        have hq : ¬ ((pre.length : Int) < (L.length : Int)) := by rw [hR']; omega
        have HR : Hid _ := hR'
        clear hR hR'
        go_wp2
        go_ret3
        obtain ⟨hf, hL⟩ := HF.out
        refine ⟨hB, .inr ⟨HM.out, f, hf, q, c2, ?_, ?_⟩⟩
        · rw [hL, HR.out]; rfl
        · rw [hL]; exact row_mono' hrow hB1.size
      | cons o rest =>
        have hom : o ∈ L := by rw [hR]; simp
        have hlR : pre.length < L.length := by rw [hR]; simp
        obtain ⟨lq, rq, hM⟩ := List.append_of_mem (hLm o hom)
        have hwq := hw2
        rw [hM] at hwq
        have H3 := taken_in hwq
        obtain ⟨g, rfl⟩ := row_where hrow (by omega)
        have d1 : w2.cell? ⟨g, pre.length, none⟩ = some (.int .i64 o.at_) := row_cell hrow (by rw [hR]; simp [pv]) hlR
        have hwo := hws o hom
        have HR : Hid _ := hR
        have e1 : (((pre ++ [o]).length : Nat) : Int) = pre.length + 1 := by simp
        have e2 : ((sumO (pre ++ [o]) : Nat) : Int) = sumO pre + (o.ws.length + 1 : Nat) := by rw [sumO_snoc]; simp
        have hs64 : (sumO pre : Int) + (o.ws.length + 1 : Nat) ≤ 9223372036854775807 := by omega
        clear hR hsum hwq hM
        go_wp2_with (first
          | (go_at_call 24; refine H3.mono ?_; clear H3; rintro e w' ⟨rfl, rfl⟩))
        go_round
        case rel =>
          refine ⟨pre ++ [o], rest, by have := HR.out; simpa using this, ?_, by rw [e1]⟩
          rw [e2]
          try rfl
        case measure => simp [intOf]; omega
  · have H1' : Calls Try.prog 22 #[.pointer (some ⟨bh, 0, none⟩), .slice p vs.length c] w fun e w' => e = .returned (.int .i64 1) ∧ Below w.heap.size w w' := by
      refine H1.mono ?_
      rintro e w' ⟨⟨hn, _⟩ | ⟨_, he⟩, hB⟩
      · exact (hmay hn).elim
      · exact ⟨he, hB⟩
    have HM : Hid _ := hmay
    clear H1 hmay
    go_enter Try.func8, Try.ntmps8
    go_wp2_with (first
      | (go_at_call 22; refine H1'.mono ?_; clear H1'; rintro e w1 ⟨rfl, hB1⟩))
    go_ret3
    exact ⟨hB1, .inl ⟨HM.out, rfl⟩⟩

end Go.Proofs.Ytampilfebmfhaaa
