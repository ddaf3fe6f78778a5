/- gc's marks: next, places; taken. -/
import Derived.Test.YtampilfebmfhaaaStay
import Derived.Test.YtampilfebmfhaaaGcMarks
import Derived.Test.YtampilfebmfhaaaMore
namespace Go.Proofs.Ytampilfebmfhaaa
set_option linter.unusedVariables false
set_option linter.unusedSimpArgs false
open Go.RowKit

variable {n₁ bm : Nat} {vs vt : Value} {w : World} {m : Mk}

theorem mark_in (h : IsMk n₁ bm vs vt w m) (p : Nat) (hp : p < m.S.length) (hT : m.room ≤ 1048576) : Calls Try.prog 51 #[.pointer (some ⟨bm, 0, none⟩), .int .i64 p] w fun e w' => e = .returned (.tuple #[]) ∧
    ∃ vt', IsMk n₁ bm vs vt' w' (m.add p) ∧ MStep bm vs vt w vt' w' := by
  cases hx : m.S[p]? with
  | none => rw [List.getElem?_eq_none_iff] at hx; omega
  | some y =>
    cases y with
    | true =>
      refine (add_seen h p hx).mono ?_
      rintro e w' ⟨he, rfl⟩
      refine ⟨he, vt, ?_, MStep.refl _ _ _ _⟩
      rw [Mk.add, if_pos hx]; exact h
    | false =>
      have := unseen_set hx
      refine (add_new h p hx (by unfold Mk.room at hT; omega)).mono ?_
      rintro e w' ⟨he, vt', h', hS⟩
      refine ⟨he, vt', ?_, hS⟩
      rw [Mk.add, if_neg (by rw [hx]; simp)]; exact h'

set_option maxRecDepth 20000 in
set_option maxHeartbeats 1000000 in
theorem next_none (h : IsMk n₁ bm vs vt w m) (hT : m.T = []) : Calls Try.prog 52 #[.pointer (some ⟨bm, 0, none⟩)] w fun e w' => e = .returned (.tuple #[.int .i64 0, .bool false]) ∧ w' = w := by
  have d1 := h.c1
  obtain ⟨p, c, rfl, _, _⟩ := IsAr.row_form h.rt
  rw [hT] at d1
  clear h hT
  go_enter Try.func52, Try.ntmps52
  go_wp2
  go_ret2
  exact ⟨rfl, rfl⟩

set_option maxRecDepth 20000 in
set_option maxHeartbeats 1000000 in
theorem next_some {S : List Bool} {T : List Nat} {p : Nat} (h : IsMk n₁ bm vs vt w ⟨S, T ++ [p]⟩) : Calls Try.prog 52 #[.pointer (some ⟨bm, 0, none⟩)] w fun e w' => e = .returned (.tuple #[.int .i64 p, .bool true]) ∧
    ∃ vt', IsMk n₁ bm vs vt' w' ⟨S, T⟩ ∧ MStep bm vs vt w vt' w' := by
  have d1 := h.c1
  have f1 := h.f 1
  have hle := h.let_
  obtain ⟨g, c, rfl, hc1, hc2⟩ := IsAr.row_some h.rt (by simp)
  have d2 : w.cell? ⟨g, T.length, none⟩ = some (.int .i64 p) := by
    rw [h.rt.cellAt _ (by simp)]; simp [pv]
  have hrow := row_shorter' h.rt (m := T.length) (by simp)
  have hg : w.grownBy w (Value.ownBlock (.slice (some ⟨g, 0, none⟩) (T ++ [p]).length c)) := ⟨rfl, rfl, rfl, Nat.le_refl _, fun _ _ _ => rfl⟩
  obtain ⟨h5, s5⟩ := h.setTodo (T' := T) (v' := .slice (some ⟨g, 0, none⟩) T.length c) hg (by simpa using hrow) (by simp at hle; omega) (.inl rfl)
  simp only [List.length_append, List.length_cons, List.length_nil, Nat.zero_add] at d1 hle hc1 h5 s5 ⊢
  have H5 : Hid _ := h5
  have S5 : Hid _ := s5
  obtain ⟨n, hn⟩ : ∃ n, T.length = n := ⟨_, rfl⟩
  rw [hn] at d1 d2 hle hc1
  have HN : Hid _ := hn
  clear h h5 s5 hrow hg hn
  have e1 : (((n + 1 : Nat) : Int) == 0) = false := by simp; omega
  go_enter Try.func52, Try.ntmps52
  go_wp2
  go_ret2
  obtain rfl := HN.out
  exact ⟨rfl, _, H5.out, S5.out⟩

/-- The places that are marked, rising, from a place on. -/
def marked : Nat → List Bool → List Nat
  | _, [] => []
  | i, x :: r => if x then i :: marked (i + 1) r else marked (i + 1) r

theorem marked_append : ∀ (A B : List Bool) (i : Nat), marked i (A ++ B) = marked i A ++ marked (i + A.length) B
  | [], _, _ => by simp [marked]
  | x :: A, B, i => by
    have := marked_append A B (i + 1)
    simp only [List.cons_append, marked, this, List.length_cons, show i + (A.length + 1) = i + 1 + A.length by omega]
    split <;> simp

theorem marked_length : ∀ (A : List Bool) (i : Nat), (marked i A).length ≤ A.length
  | [], _ => Nat.le_refl _
  | x :: A, i => by
    have := marked_length A (i + 1)
    unfold marked
    split <;> simp <;> omega

set_option maxRecDepth 20000 in
set_option maxHeartbeats 1000000 in
theorem places_mk (h : IsMk n₁ bm vs vt w m) : Calls Try.prog 55 #[.pointer (some ⟨bm, 0, none⟩)] w fun e w' => ∃ p c, e = .returned (.slice p (marked 0 m.S).length c) ∧
    w'.ownsRow w.heap.size 2 1 (.slice p (marked 0 m.S).length c) (marked 0 m.S).length ((marked 0 m.S).map pv) ∧ Below w.heap.size w w' := by
  have hle := h.les
  have d0 := h.c0
  obtain ⟨S, T⟩ := m
  simp only at *
  obtain ⟨p, c, rfl, _, _⟩ := IsAr.row_form h.rs
  obtain ⟨i0, hi, hz0, hz1, hz2⟩ := info_parts info2
  have hrs := h.rs
  simp only at hrs
  clear h
  go_enter Try.func55, Try.ntmps55
  go_wp2
  go_loopw [3, 11] (fun out k wr => ∃ (l r : List Bool), S = l ++ r ∧ k = .int .i64 l.length ∧ wr.ownsRow w.heap.size 2 1 out (marked 0 l).length ((marked 0 l).map pv) ∧ Below w.heap.size w wr) (fun _ k _ => S.length - (intOf k).toNat)
  case atStart => exact ⟨[], S, rfl, rfl, World.ownsRow_nil _ _ _ _, Below.refl _ _⟩
  case round =>
    obtain ⟨l, r, hR, rfl, hrow, hB⟩ := hrel
    cases r with
    | nil =>
      have hR' : S = l := by simpa using hR
      have hq : ¬ ((l.length : Int) < (S.length : Int)) := by rw [hR']; omega
      have E1 : Hid _ := hR'
      obtain ⟨p1, c1, hv, _, _⟩ := IsAr.row_form hrow
      have E2 : Hid _ := hv
      clear hR hR' hv
      go_wp2
      go_ret
      have e := E2.out
      refine ⟨p1, c1, ?_, ?_, hB⟩
      · rw [E1.out, ← e]; rfl
      · rw [E1.out, ← e]; exact hrow
    | cons x r =>
      have hlR : l.length < S.length := by rw [hR]; simp
      have hml := marked_length l 0
      have d2 : ∃ g, p = some ⟨g, 0, none⟩ ∧ wr.cell? ⟨g, l.length, none⟩ = some (.bool x) := by
        obtain ⟨g, c', e, _, _⟩ := IsAr.row_some hrs (by omega)
        simp at e
        obtain ⟨rfl, rfl⟩ := e
        refine ⟨g, rfl, ?_⟩
        rw [(row_kept hrs (fun k hk => hB.block k (hrs.lt k hk).2)).cellAt _ (by omega), hR]
        simp
      obtain ⟨g, rfl, d2⟩ := d2
      have HR : Hid (S = l ++ x :: r) := hR
      have hsz := hB.size
      have e1 : (((l ++ [x]).length : Nat) : Int) = l.length + 1 := by simp
      clear hR
      cases x with
      | true =>
        go_wp2_with (at_builtin; refine wpList_append_own _ rfl _ _ 29 rfl w.heap.size 2 i0 (.int .i64 0) 1 8 Try.underlying29 hi hz0 hz1 hz2 rfl (by decide) _ (marked 0 l).length _ rfl (hrow.alloc _) ⟨wr.heap.size, 0, none⟩ 1 1 [.int .i64 l.length] rfl rfl (cell_one_new _ _ _) (by simp [Value.oneCell']) (by unfold maxLen; omega) (by omega) (by simp; omega) ?_; intro v4 w4 hown4 hgrow4 _)
        go_roundw
        case rel =>
          refine ⟨l ++ [true], r, by have := HR.out; simpa using this, by rw [e1], ?_, ?_⟩
          · simpa [pv, marked_append, marked] using hown4
          · exact (hB.alloc hB.size _).trans (rbelow_grown hgrow4 (fun q e => (hrow.lt q e).1) (by simp; omega))
        case measure => simp [intOf]; omega
      | false =>
        go_wp2
        go_roundw
        case rel =>
          refine ⟨l ++ [false], r, by have := HR.out; simpa using this, by rw [e1], ?_, hB⟩
          simpa [marked_append, marked] using hrow
        case measure => simp [intOf]; omega

set_option maxHeartbeats 400000 in
theorem taken_in {n₀ bh b lim used : Nat} {vw vb : Value} {l r : List Ob} {o : Ob} (h : Hp n₀ bh b vw vb w lim used (l ++ o :: r)) :
    Calls Try.prog 24 #[.pointer (some ⟨bh, 0, none⟩), .int .i64 o.at_] w fun e w' => e = .returned (.int .i64 (o.ws.length + 1 : Nat)) ∧ w' = w := by
  have h1 := sizeM h
  have hb : o.ws.length ≤ 1048576 := by
    have := h.srt.2 o (by simp); have := h.le; unfold Ob.end_ at *; omega
  clear h
  go_enter Try.func24, Try.ntmps24
  go_wp2_with (go_at_call 11; refine h1.mono ?_; clear h1; rintro e w' ⟨rfl, rfl⟩)
  go_ret
  exact ⟨rfl, rfl⟩

end Go.Proofs.Ytampilfebmfhaaa
