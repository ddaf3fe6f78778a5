/- gc's check and Reach. -/
import Derived.Test.YtampilfebmfhaaaGreatDoorGcReached
import Derived.Test.YtampilfebmfhaaaGreatDoorSame
namespace Go.Proofs.YtampilfebmfhaaaGreatDoor
set_option linter.unusedVariables false
set_option linter.unusedSimpArgs false
open Go.RowKit

variable {n₀ bh b lim used : Nat} {vw vb : Value} {w : World} {M : List Ob}

theorem sorted_ext : ∀ {l r : List Nat}, l.Pairwise (· < ·) → r.Pairwise (· < ·) → (∀ x, x ∈ l ↔ x ∈ r) → l = r
  | [], [], _, _, _ => rfl
  | [], y :: r, _, _, h => by have := (h y).2 (by simp); simp at this
  | x :: l, [], _, _, h => by have := (h x).1 (by simp); simp at this
  | x :: l, y :: r, hl, hr, h => by
    obtain ⟨h1, h2⟩ := List.pairwise_cons.1 hl
    obtain ⟨h3, h4⟩ := List.pairwise_cons.1 hr
    have e : x = y := by
      rcases List.mem_cons.1 ((h x).1 (by simp)) with e | e
      · exact e
      · rcases List.mem_cons.1 ((h y).2 (by simp)) with e' | e'
        · exact e'.symm
        · have := h1 y e'; have := h3 x e; omega
    subst e
    rw [sorted_ext h2 h4]
    intro z
    constructor
    · intro hz
      rcases List.mem_cons.1 ((h z).1 (by simp [hz])) with e | e
      · subst e; have := h1 _ hz; omega
      · exact e
    · intro hz
      rcases List.mem_cons.1 ((h z).2 (by simp [hz])) with e | e
      · subst e; have := h3 _ hz; omega
      · exact e

theorem marked_mem : ∀ {S : List Bool} {i p : Nat}, p ∈ marked i S ↔ i ≤ p ∧ S[p - i]? = some true
  | [], i, p => by simp [marked]
  | x :: S, i, p => by
    have ih := @marked_mem S (i + 1) p
    unfold marked
    by_cases hp : p = i
    · subst hp
      have hn : ¬ p ∈ marked (p + 1) S := fun h => by have := (ih.1 h).1; omega
      cases x <;> simp [hn]
    · have e : i ≤ p ∧ (x :: S)[p - i]? = some true ↔ i + 1 ≤ p ∧ S[p - (i + 1)]? = some true := by
        constructor
        · rintro ⟨h1, h2⟩
          obtain ⟨d, hd⟩ : ∃ d, p - i = d + 1 := ⟨p - i - 1, by omega⟩
          rw [hd] at h2
          exact ⟨by omega, by rw [show p - (i + 1) = d by omega]; simpa using h2⟩
        · rintro ⟨h1, h2⟩
          refine ⟨by omega, ?_⟩
          rw [show p - i = (p - (i + 1)) + 1 by omega]
          simpa using h2
      rw [e, ← ih]
      cases x <;> simp [hp]

theorem marked_sorted : ∀ (S : List Bool) (i : Nat), (marked i S).Pairwise (· < ·)
  | [], _ => List.Pairwise.nil
  | x :: S, i => by
    have ih := marked_sorted S (i + 1)
    unfold marked
    split
    · exact List.pairwise_cons.2 ⟨fun p hp => by have := (marked_mem.1 hp).1; omega, ih⟩
    · exact ih

theorem Srt.sorted : ∀ {M : List Ob} {lo : Nat}, Srt lo M → (M.map Ob.at_).Pairwise (· < ·)
  | [], _, _ => List.Pairwise.nil
  | o :: r, lo, ⟨h1, h2⟩ => List.pairwise_cons.2 ⟨fun p hp => by
      obtain ⟨q, hq, rfl⟩ := List.mem_map.1 hp
      have := Srt.lo h2 q hq; unfold Ob.end_ at this; omega, Srt.sorted h2⟩

theorem marked_eq {M : List Ob} {lo : Nat} (hs : Srt lo M) {S : List Bool} {vs : List Vl} (hS : ∀ i : Nat, S[i]? = some true ↔ Rch M vs i) :
    marked 0 S = (M.filter (fun o => S.getD o.at_ false)).map Ob.at_ := by
  refine sorted_ext (marked_sorted S 0) (List.Pairwise.sublist (List.Sublist.map _ List.filter_sublist) hs.sorted) ?_
  intro p
  rw [marked_mem]
  simp only [Nat.zero_le, Nat.sub_zero, true_and, List.mem_map, List.mem_filter]
  constructor
  · intro hp
    obtain ⟨o, ho, rfl⟩ := ((hS p).1 hp).mem
    exact ⟨o, ⟨ho, by simp [List.getD, hp]⟩, rfl⟩
  · rintro ⟨o, ⟨ho, h⟩, rfl⟩
    cases e : S[o.at_]? with
    | none => simp [List.getD, e] at h
    | some y => simp [List.getD, e] at h; rw [h]

/-- How many words objects take. -/
def sumO (L : List Ob) : Nat := (L.map (fun o => o.ws.length + 1)).sum

theorem sumO_snoc (L : List Ob) (o : Ob) : sumO (L ++ [o]) = sumO L + (o.ws.length + 1) := by simp [sumO]

theorem sumO_le : ∀ (L : List Ob), (∀ o ∈ L, o.ws.length ≤ 1048576) → sumO L ≤ L.length * 1048577
  | [], _ => by simp [sumO]
  | o :: r, h => by
    have h1 := sumO_le r (fun q hq => h q (by simp [hq]))
    have h2 := h o (by simp)
    simp [sumO] at h1 ⊢; omega

set_option maxRecDepth 20000 in
set_option maxHeartbeats 1000000 in
theorem check_in (h : Hp n₀ bh b vw vb w lim used M) (hl1 : 1 ≤ lim) {p : Option Addr} {vs : List Vl} (c : Nat) (hv : Vals w p vs) (hlen : vs.length ≤ 1000000) (hk8 : ∀ v ∈ vs, v.k < 256) :
    Calls Tryz.prog 21 #[.pointer (some ⟨bh, 0, none⟩), .slice p vs.length c] w fun e w' => ((May M vs ∧ e = .returned (.int .i64 0)) ∨ (¬ May M vs ∧ e = .returned (.int .i64 1))) ∧ Below w.heap.size w w' := by
  have H1 := wordsM h
  have hl0 : ((lim : Int) == 0) = false := by simp; omega
  go_enter Tryz.func21, Tryz.ntmps21
  go_wp2_with (first
    | (go_at_call 28; refine H1.mono ?_; clear H1; rintro e w' ⟨rfl, rfl⟩))
  obtain ⟨w, hww⟩ : ∃ w, w = w' := ⟨_, rfl⟩
  subst hww
  go_loopw [12] (fun k wr => ∃ (pre rest : List Vl), k = .int .i64 pre.length ∧ vs = pre ++ rest ∧ May M pre ∧ Below w.heap.size w wr) (fun k _ => vs.length - (intOf k).toNat)
  case atStart => exact ⟨[], vs, rfl, rfl, by intro v hv; simp at hv, Below.refl _ _⟩
  case round =>
    obtain ⟨pre, rest, rfl, hR, hmay, hB⟩ := hrel
    cases rest with
    | nil =>
      have hR' : vs = pre := by simpa using hR
      have hq : ¬ ((pre.length : Int) < (vs.length : Int)) := by rw [hR']; omega
      have HM : Hid (May M vs) := by rw [hR']; exact hmay
      clear hR hR' hmay
      go_wp2
      go_ret
      exact ⟨.inl ⟨HM.out, rfl⟩, hB⟩
    | cons v rest =>
      have hlR : pre.length < vs.length := by rw [hR]; simp
      have hvm : v ∈ vs := by rw [hR]; simp
      obtain ⟨b0, off, rfl, c0, c1⟩ := (hv.below hB) pre.length v (by rw [hR]; simp)
      have HR : Hid (vs = pre ++ v :: rest) := hR
      have H2 := fun w' (hB' : Below wr.heap.size wr w') => leads_in ((h.below hB).below hB') v.k v.n
      have H3 := fun w' => tells_in v.k w'
      have e1 : (((pre ++ [v]).length : Nat) : Int) = pre.length + 1 := by simp
      have hvk := hk8 v hvm
      clear hR
      by_cases h7 : v.k ≤ 7
      · have h7' : ¬ ((7 : Int) < (v.k : Int)) := by omega
        by_cases h3 : 3 ≤ v.k
        · have e3 : decide (3 ≤ v.k ∧ v.k ≤ 7) = true := by simp; omega
          rw [e3] at H3
          by_cases hL : Leads M v.k v.n
          · have ed : decide (Leads M v.k v.n) = true := by simpa using hL
            rw [ed] at H2
            have HM : Hid (May M (pre ++ [v])) := by
              intro u hu
              rcases List.mem_append.1 hu with hu | hu
              · exact hmay u hu
              · simp at hu; subst hu; exact ⟨h7, fun _ => hL⟩
            clear hL ed e3
            go_wp2_with (first
              | (go_at_call 117; refine (H3 _).mono ?_; rintro e w' ⟨rfl, rfl⟩)
              | (go_at_call 118; refine (H2 _ (below1 _ _)).mono ?_; clear H2; rintro e w2 ⟨rfl, hB2⟩))
            go_roundw
            case rel => exact ⟨pre ++ [v], rest, by rw [e1], by have := HR.out; simpa using this, HM.out, (hB.alloc hB.size _).trans (hB2.mono (by have := hB.size; simp; omega))⟩
            case measure => simp [intOf]; omega
          · have ed : decide (Leads M v.k v.n) = false := by simpa using hL
            rw [ed] at H2
            have HM : Hid (¬ May M vs) := fun hm => hL ((hm v hvm).2 h3)
            clear hL ed e3
            go_wp2_with (first
              | (go_at_call 117; refine (H3 _).mono ?_; rintro e w' ⟨rfl, rfl⟩)
              | (go_at_call 118; refine (H2 _ (below1 _ _)).mono ?_; clear H2; rintro e w2 ⟨rfl, hB2⟩))
            go_ret
            exact ⟨.inr ⟨HM.out, rfl⟩, (hB.alloc hB.size _).trans (hB2.mono (by have := hB.size; simp; omega))⟩
        · have e3 : decide (3 ≤ v.k ∧ v.k ≤ 7) = false := by simp; omega
          rw [e3] at H3
          have HM : Hid (May M (pre ++ [v])) := by
            intro u hu
            rcases List.mem_append.1 hu with hu | hu
            · exact hmay u hu
            · simp at hu; subst hu; exact ⟨h7, fun h => (h3 h).elim⟩
          clear e3
          go_wp2_with (first
            | (go_at_call 117; refine (H3 _).mono ?_; rintro e w' ⟨rfl, rfl⟩))
          go_roundw
          case rel => exact ⟨pre ++ [v], rest, by rw [e1], by have := HR.out; simpa using this, HM.out, hB.alloc hB.size _⟩
          case measure => simp [intOf]; omega
      · have h7' : (7 : Int) < (v.k : Int) := by omega
        have HM : Hid (¬ May M vs) := fun hm => h7 (hm v hvm).1
        go_wp2
        go_ret
        exact ⟨.inr ⟨HM.out, rfl⟩, hB.alloc hB.size _⟩

end Go.Proofs.YtampilfebmfhaaaGreatDoor

namespace Go.Proofs.YtampilfebmfhaaaGreatDoor
set_option linter.unusedVariables false
set_option linter.unusedSimpArgs false
open Go.RowKit

variable {n₀ bh b lim used : Nat} {vw vb : Value} {w : World} {M : List Ob}

/-- reached, by the objects. -/
theorem reached_obs (h : Hp n₀ bh b vw vb w lim used M) {p : Option Addr} {vs : List Vl} (c : Nat) (hv : Vals w p vs) (hlen : vs.length ≤ 1000000) :
    Calls Tryz.prog 22 #[.pointer (some ⟨bh, 0, none⟩), .slice p vs.length c] w fun e w' => ∃ (f : Ob → Bool) (q : Option Addr) (c : Nat), (∀ o ∈ M, f o = true ↔ Rch M vs o.at_) ∧ e = .returned (.slice q (M.filter f).length c) ∧
      w'.ownsRow w.heap.size 2 1 (.slice q (M.filter f).length c) (M.filter f).length ((M.filter f).map (fun o => pv o.at_)) ∧ Below w.heap.size w w' := by
  refine (reached_in h c hv hlen).mono ?_
  rintro e w' ⟨S, q, c', hS, hl, he, hrow, hB⟩
  have hm := marked_eq h.srt.1 hS
  have hl2 : (marked 0 S).length = (M.filter (fun o => S.getD o.at_ false)).length := by rw [hm]; simp
  refine ⟨fun o => S.getD o.at_ false, q, c', ?_, by rw [← hl2]; exact he, ?_, hB⟩
  · intro o _
    rw [← hS o.at_]
    cases e : S[o.at_]? with
    | none => simp [List.getD, e]
    | some y => simp [List.getD, e]
  · rw [hl2, hm, List.map_map] at hrow
    exact hrow

set_option maxRecDepth 20000 in
set_option maxHeartbeats 1000000 in
theorem reach_in (h : Hp n₀ bh b vw vb w lim used M) (hl1 : 1 ≤ lim) {p : Option Addr} {vs : List Vl} (c : Nat) (hv : Vals w p vs) (hlen : vs.length ≤ 1000000) (hk8 : ∀ v ∈ vs, v.k < 256) :
    Calls Tryz.prog 7 #[.pointer (some ⟨bh, 0, none⟩), .slice p vs.length c] w fun e w' => Below w.heap.size w w' ∧
      ((¬ May M vs ∧ e = .returned (.tuple #[.slice none 0 0, .int .i64 0, .int .i64 1])) ∨
       (May M vs ∧ ∃ (f : Ob → Bool) (q : Option Addr) (c : Nat), (∀ o ∈ M, f o = true ↔ Rch M vs o.at_) ∧ e = .returned (.tuple #[.slice q (M.filter f).length c, .int .i64 (sumO (M.filter f) : Nat), .int .i64 0]) ∧
         w'.ownsRow w.heap.size 2 1 (.slice q (M.filter f).length c) (M.filter f).length ((M.filter f).map (fun o => pv o.at_)))) := by
  have H1 := check_in h hl1 c hv hlen hk8
  by_cases hmay : May M vs
  · have H1' : Calls Tryz.prog 21 #[.pointer (some ⟨bh, 0, none⟩), .slice p vs.length c] w fun e w' => e = .returned (.int .i64 0) ∧ Below w.heap.size w w' := by
      refine H1.mono ?_
      rintro e w' ⟨⟨_, he⟩ | ⟨hn, _⟩, hB⟩
      · exact ⟨he, hB⟩
      · exact (hn hmay).elim
    have H2 := fun w' (hB : Below w.heap.size w w') => reached_obs (h.below hB) c (hv.below hB) hlen
    have HM : Hid _ := hmay
    clear H1 hmay
    have hsL := Srt.length_le h.srt.1 h.srt.2 (Nat.zero_le _)
    have hle := h.le
    go_enter Tryz.func7, Tryz.ntmps7
    go_wp2_with (first
      | (go_at_call 21; refine H1'.mono ?_; clear H1'; rintro e w1 ⟨rfl, hB1⟩)
      | (go_at_call 22; refine (H2 _ hB1).mono ?_; clear H2; rintro e w2 ⟨f, q, c2, hf, rfl, hrow, hB2⟩))
    have hfl : (M.filter f).length ≤ M.length := List.length_filter_le _ _
    obtain ⟨L, hL⟩ : ∃ L, M.filter f = L := ⟨_, rfl⟩
    have hLm : ∀ o ∈ L, o ∈ M := fun o ho => by rw [← hL] at ho; exact (List.mem_filter.1 ho).1
    have HF : Hid _ := And.intro hf hL
    rw [hL] at hrow hfl ⊢
    clear hf hL
    have hB := hB1.trans (hB2.mono hB1.size)
    have hw2 := h.below hB
    have hws : ∀ o ∈ L, o.ws.length ≤ 1048576 := fun o ho => by
      have := h.srt.2 o (hLm o ho); unfold Ob.end_ at this; omega
    go_loop [9, 23] (fun t k => ∃ (pre rest : List Ob), L = pre ++ rest ∧ t = .int .i64 (sumO pre : Nat) ∧ k = .int .i64 pre.length) (fun _ k => L.length - (intOf k).toNat)
    case atStart => exact ⟨[], L, rfl, rfl, rfl⟩
    case round =>
      obtain ⟨pre, rest, hR, rfl, rfl⟩ := hrel
      have hsum := sumO_le pre (fun o ho => hws o (by rw [hR]; simp [ho]))
      have hpl : pre.length ≤ L.length := by rw [hR]; simp
      have hs63 : sumO pre ≤ 1099512676352 := by
        have : pre.length * 1048577 ≤ 1048576 * 1048577 := Nat.mul_le_mul_right _ (by omega)
        omega
      cases rest with
      | nil =>
        have hR' : L = pre := by simpa using hR
        have hq : ¬ ((pre.length : Int) < (L.length : Int)) := by rw [hR']; omega
        have HR : Hid _ := hR'
        clear hR hR'
        go_wp2
        go_ret3
        obtain ⟨hf, hL⟩ := HF.out
        refine ⟨hB, .inr ⟨HM.out, f, hf, q, c2, ?_, ?_⟩⟩
        · rw [hL, HR.out]; rfl
        · rw [hL]; exact row_mono' hrow hB1.size
      | cons o rest =>
        have hom : o ∈ L := by rw [hR]; simp
        have hlR : pre.length < L.length := by rw [hR]; simp
        obtain ⟨lq, rq, hM⟩ := List.append_of_mem (hLm o hom)
        have hwq := hw2
        rw [hM] at hwq
        have H3 := taken_in hwq
        obtain ⟨g, rfl⟩ := row_where hrow (by omega)
        have d1 : w2.cell? ⟨g, pre.length, none⟩ = some (.int .i64 o.at_) := row_cell hrow (by rw [hR]; simp [pv]) hlR
        have hwo := hws o hom
        have HR : Hid _ := hR
        have e1 : (((pre ++ [o]).length : Nat) : Int) = pre.length + 1 := by simp
        have e2 : ((sumO (pre ++ [o]) : Nat) : Int) = sumO pre + (o.ws.length + 1 : Nat) := by rw [sumO_snoc]; simp
        have hs64 : (sumO pre : Int) + (o.ws.length + 1 : Nat) ≤ 9223372036854775807 := by omega
        clear hR hsum hwq hM
        go_wp2_with (first
          | (go_at_call 23; refine H3.mono ?_; clear H3; rintro e w' ⟨rfl, rfl⟩))
        go_round
        case rel =>
          refine ⟨pre ++ [o], rest, by have := HR.out; simpa using this, ?_, by rw [e1]⟩
          rw [e2]
          try rfl
        case measure => simp [intOf]; omega
  · have H1' : Calls Tryz.prog 21 #[.pointer (some ⟨bh, 0, none⟩), .slice p vs.length c] w fun e w' => e = .returned (.int .i64 1) ∧ Below w.heap.size w w' := by
      refine H1.mono ?_
      rintro e w' ⟨⟨hn, _⟩ | ⟨_, he⟩, hB⟩
      · exact (hmay hn).elim
      · exact ⟨he, hB⟩
    have HM : Hid _ := hmay
    clear H1 hmay
    go_enter Tryz.func7, Tryz.ntmps7
    go_wp2_with (first
      | (go_at_call 21; refine H1'.mono ?_; clear H1'; rintro e w1 ⟨rfl, hB1⟩))
    go_ret3
    exact ⟨hB1, .inl ⟨HM.out, rfl⟩⟩

end Go.Proofs.YtampilfebmfhaaaGreatDoor
