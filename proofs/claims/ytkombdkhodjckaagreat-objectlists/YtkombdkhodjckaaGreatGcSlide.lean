/- A row's place and cells. -/
import Derived.Test.YtkombdkhodjckaaGreatModel
import Derived.Test.YtkombdkhodjckaaGreatGcReached
namespace Go.Proofs.YtkombdkhodjckaaGreat
open Go.RowKit

/-- A row's place, where it is not empty. -/
theorem row_where {w : World} {base e n c : Nat} {p : Option Addr} {xs : List Value} (h : w.ownsRow base e 1 (.slice p n c) n xs) (hn : 0 < n) : ∃ g, p = some ⟨g, 0, none⟩ := by
  obtain ⟨g, c', e1, _⟩ := IsAr.row_some h hn
  simp at e1
  exact ⟨g, e1.1⟩

theorem row_cell {w : World} {base e n c g j : Nat} {u : Value} {xs : List Value} (h : w.ownsRow base e 1 (.slice (some ⟨g, 0, none⟩) n c) n xs) (hj : xs[j]? = some u) (hn : j < n) : w.cell? ⟨g, j, none⟩ = some u := by
  rw [h.cellAt _ (by omega)]; exact hj

end Go.Proofs.YtkombdkhodjckaaGreat

namespace Go.Proofs.YtkombdkhodjckaaGreat
set_option linter.unusedVariables false
set_option linter.unusedSimpArgs false
open Go.RowKit

variable {n₀ bh b lim used : Nat} {vw vb : Value} {w : World} {M : List Ob}

theorem sorted_ext : ∀ {l r : List Nat}, l.Pairwise (· < ·) → r.Pairwise (· < ·) → (∀ x, x ∈ l ↔ x ∈ r) → l = r
  | [], [], _, _, _ => rfl
  | [], y :: r, _, _, h => by have := (h y).2 (by simp); simp at this
  | x :: l, [], _, _, h => by have := (h x).1 (by simp); simp at this
  | x :: l, y :: r, hl, hr, h => by
    obtain ⟨h1, h2⟩ := List.pairwise_cons.1 hl
    obtain ⟨h3, h4⟩ := List.pairwise_cons.1 hr
    have e : x = y := by
      rcases List.mem_cons.1 ((h x).1 (by simp)) with e | e
      · exact e
      · rcases List.mem_cons.1 ((h y).2 (by simp)) with e' | e'
        · exact e'.symm
        · have := h1 y e'; have := h3 x e; omega
    subst e
    rw [sorted_ext h2 h4]
    intro z
    constructor
    · intro hz
      rcases List.mem_cons.1 ((h z).1 (by simp [hz])) with e | e
      · subst e; have := h1 _ hz; omega
      · exact e
    · intro hz
      rcases List.mem_cons.1 ((h z).2 (by simp [hz])) with e | e
      · subst e; have := h3 _ hz; omega
      · exact e

theorem marked_mem : ∀ {S : List Bool} {i p : Nat}, p ∈ marked i S ↔ i ≤ p ∧ S[p - i]? = some true
  | [], i, p => by simp [marked]
  | x :: S, i, p => by
    have ih := @marked_mem S (i + 1) p
    unfold marked
    by_cases hp : p = i
    · subst hp
      have hn : ¬ p ∈ marked (p + 1) S := fun h => by have := (ih.1 h).1; omega
      cases x <;> simp [hn]
    · have e : i ≤ p ∧ (x :: S)[p - i]? = some true ↔ i + 1 ≤ p ∧ S[p - (i + 1)]? = some true := by
        constructor
        · rintro ⟨h1, h2⟩
          obtain ⟨d, hd⟩ : ∃ d, p - i = d + 1 := ⟨p - i - 1, by omega⟩
          rw [hd] at h2
          exact ⟨by omega, by rw [show p - (i + 1) = d by omega]; simpa using h2⟩
        · rintro ⟨h1, h2⟩
          refine ⟨by omega, ?_⟩
          rw [show p - i = (p - (i + 1)) + 1 by omega]
          simpa using h2
      rw [e, ← ih]
      cases x <;> simp [hp]

theorem marked_sorted : ∀ (S : List Bool) (i : Nat), (marked i S).Pairwise (· < ·)
  | [], _ => List.Pairwise.nil
  | x :: S, i => by
    have ih := marked_sorted S (i + 1)
    unfold marked
    split
    · exact List.pairwise_cons.2 ⟨fun p hp => by have := (marked_mem.1 hp).1; omega, ih⟩
    · exact ih

theorem Srt.sorted : ∀ {M : List Ob} {lo : Nat}, Srt lo M → (M.map Ob.at_).Pairwise (· < ·)
  | [], _, _ => List.Pairwise.nil
  | o :: r, lo, ⟨h1, h2⟩ => List.pairwise_cons.2 ⟨fun p hp => by
      obtain ⟨q, hq, rfl⟩ := List.mem_map.1 hp
      have := Srt.lo h2 q hq; unfold Ob.end_ at this; omega, Srt.sorted h2⟩

theorem marked_eq {M : List Ob} {lo : Nat} (hs : Srt lo M) {S : List Bool} {vs : List Vl} (hS : ∀ i : Nat, S[i]? = some true ↔ Rch M vs i) :
    marked 0 S = (M.filter (fun o => S.getD o.at_ false)).map Ob.at_ := by
  refine sorted_ext (marked_sorted S 0) (List.Pairwise.sublist (List.Sublist.map _ List.filter_sublist) hs.sorted) ?_
  intro p
  rw [marked_mem]
  simp only [Nat.zero_le, Nat.sub_zero, true_and, List.mem_map, List.mem_filter]
  constructor
  · intro hp
    obtain ⟨o, ho, rfl⟩ := ((hS p).1 hp).mem
    exact ⟨o, ⟨ho, by simp [List.getD, hp]⟩, rfl⟩
  · rintro ⟨o, ⟨ho, h⟩, rfl⟩
    cases e : S[o.at_]? with
    | none => simp [List.getD, e] at h
    | some y => simp [List.getD, e] at h; rw [h]

/-- How many words objects take. -/
def sumO (L : List Ob) : Nat := (L.map (fun o => o.ws.length + 1)).sum

theorem sumO_snoc (L : List Ob) (o : Ob) : sumO (L ++ [o]) = sumO L + (o.ws.length + 1) := by simp [sumO]

theorem sumO_le : ∀ (L : List Ob), (∀ o ∈ L, o.ws.length ≤ 1048576) → sumO L ≤ L.length * 1048577
  | [], _ => by simp [sumO]
  | o :: r, h => by
    have h1 := sumO_le r (fun q hq => h q (by simp [hq]))
    have h2 := h o (by simp)
    simp [sumO] at h1 ⊢; omega

set_option maxRecDepth 20000 in
set_option maxHeartbeats 1000000 in
theorem check_in (h : Hp n₀ bh b vw vb w lim used M) (hl1 : 1 ≤ lim) {p : Option Addr} {vs : List Vl} (c : Nat) (hv : Vals w p vs) (hlen : vs.length ≤ 1000000) (hk8 : ∀ v ∈ vs, v.k < 256) :
    Calls Tryz.prog 33 #[.pointer (some ⟨bh, 0, none⟩), .slice p vs.length c] w fun e w' => ((May M vs ∧ e = .returned (.int .i64 0)) ∨ (¬ May M vs ∧ e = .returned (.int .i64 1))) ∧ Below w.heap.size w w' := by
  have H1 := wordsM h
  have hl0 : ((lim : Int) == 0) = false := by simp; omega
  go_enter Tryz.func33, Tryz.ntmps33
  go_wp2_with (first
    | (go_at_call 49; refine H1.mono ?_; clear H1; rintro e w' ⟨rfl, rfl⟩))
  obtain ⟨w, hww⟩ : ∃ w, w = w' := ⟨_, rfl⟩
  subst hww
  go_loopw [12] (fun k wr => ∃ (pre rest : List Vl), k = .int .i64 pre.length ∧ vs = pre ++ rest ∧ May M pre ∧ Below w.heap.size w wr) (fun k _ => vs.length - (intOf k).toNat)
  case atStart => exact ⟨[], vs, rfl, rfl, by intro v hv; simp at hv, Below.refl _ _⟩
  case round =>
    obtain ⟨pre, rest, rfl, hR, hmay, hB⟩ := hrel
    cases rest with
    | nil =>
      have hR' : vs = pre := by simpa using hR
      have hq : ¬ ((pre.length : Int) < (vs.length : Int)) := by rw [hR']; omega
      have HM : Hid (May M vs) := by rw [hR']; exact hmay
      clear hR hR' hmay
      go_wp2
      go_ret
      exact ⟨.inl ⟨HM.out, rfl⟩, hB⟩
    | cons v rest =>
      have hlR : pre.length < vs.length := by rw [hR]; simp
      have hvm : v ∈ vs := by rw [hR]; simp
      obtain ⟨b0, off, rfl, c0, c1⟩ := (hv.below hB) pre.length v (by rw [hR]; simp)
      have HR : Hid (vs = pre ++ v :: rest) := hR
      have H2 := fun w' (hB' : Below wr.heap.size wr w') => leads_in ((h.below hB).below hB') v.k v.n
      have H3 := fun w' => tells_in v.k w'
      have e1 : (((pre ++ [v]).length : Nat) : Int) = pre.length + 1 := by simp
      have hvk := hk8 v hvm
      clear hR
      by_cases h7 : v.k ≤ 7
      · have h7' : ¬ ((7 : Int) < (v.k : Int)) := by omega
        by_cases h3 : 3 ≤ v.k
        · have e3 : decide (3 ≤ v.k ∧ v.k ≤ 7) = true := by simp; omega
          rw [e3] at H3
          by_cases hL : Leads M v.k v.n
          · have ed : decide (Leads M v.k v.n) = true := by simpa using hL
            rw [ed] at H2
            have HM : Hid (May M (pre ++ [v])) := by
              intro u hu
              rcases List.mem_append.1 hu with hu | hu
              · exact hmay u hu
              · simp at hu; subst hu; exact ⟨h7, fun _ => hL⟩
            clear hL ed e3
            go_wp2_with (first
              | (go_at_call 71; refine (H3 _).mono ?_; rintro e w' ⟨rfl, rfl⟩)
              | (go_at_call 72; refine (H2 _ (below1 _ _)).mono ?_; clear H2; rintro e w2 ⟨rfl, hB2⟩))
            go_roundw
            case rel => exact ⟨pre ++ [v], rest, by rw [e1], by have := HR.out; simpa using this, HM.out, (hB.alloc hB.size _).trans (hB2.mono (by have := hB.size; simp; omega))⟩
            case measure => simp [intOf]; omega
          · have ed : decide (Leads M v.k v.n) = false := by simpa using hL
            rw [ed] at H2
            have HM : Hid (¬ May M vs) := fun hm => hL ((hm v hvm).2 h3)
            clear hL ed e3
            go_wp2_with (first
              | (go_at_call 71; refine (H3 _).mono ?_; rintro e w' ⟨rfl, rfl⟩)
              | (go_at_call 72; refine (H2 _ (below1 _ _)).mono ?_; clear H2; rintro e w2 ⟨rfl, hB2⟩))
            go_ret
            exact ⟨.inr ⟨HM.out, rfl⟩, (hB.alloc hB.size _).trans (hB2.mono (by have := hB.size; simp; omega))⟩
        · have e3 : decide (3 ≤ v.k ∧ v.k ≤ 7) = false := by simp; omega
          rw [e3] at H3
          have HM : Hid (May M (pre ++ [v])) := by
            intro u hu
            rcases List.mem_append.1 hu with hu | hu
            · exact hmay u hu
            · simp at hu; subst hu; exact ⟨h7, fun h => (h3 h).elim⟩
          clear e3
          go_wp2_with (first
            | (go_at_call 71; refine (H3 _).mono ?_; rintro e w' ⟨rfl, rfl⟩))
          go_roundw
          case rel => exact ⟨pre ++ [v], rest, by rw [e1], by have := HR.out; simpa using this, HM.out, hB.alloc hB.size _⟩
          case measure => simp [intOf]; omega
      · have h7' : (7 : Int) < (v.k : Int) := by omega
        have HM : Hid (¬ May M vs) := fun hm => h7 (hm v hvm).1
        go_wp2
        go_ret
        exact ⟨.inr ⟨HM.out, rfl⟩, hB.alloc hB.size _⟩

end Go.Proofs.YtkombdkhodjckaaGreat

namespace Go.Proofs.YtkombdkhodjckaaGreat
set_option linter.unusedVariables false
set_option linter.unusedSimpArgs false
open Go.RowKit

variable {n₀ bh b lim used : Nat} {vw vb : Value} {w : World} {M : List Ob}

/-- reached, by the objects. -/
theorem reached_obs (h : Hp n₀ bh b vw vb w lim used M) {p : Option Addr} {vs : List Vl} (c : Nat) (hv : Vals w p vs) (hlen : vs.length ≤ 1000000) :
    Calls Tryz.prog 34 #[.pointer (some ⟨bh, 0, none⟩), .slice p vs.length c] w fun e w' => ∃ (f : Ob → Bool) (q : Option Addr) (c : Nat), (∀ o ∈ M, f o = true ↔ Rch M vs o.at_) ∧ e = .returned (.slice q (M.filter f).length c) ∧
      w'.ownsRow w.heap.size 2 1 (.slice q (M.filter f).length c) (M.filter f).length ((M.filter f).map (fun o => pv o.at_)) ∧ Below w.heap.size w w' := by
  refine (reached_in h c hv hlen).mono ?_
  rintro e w' ⟨S, q, c', hS, hl, he, hrow, hB⟩
  have hm := marked_eq h.srt.1 hS
  have hl2 : (marked 0 S).length = (M.filter (fun o => S.getD o.at_ false)).length := by rw [hm]; simp
  refine ⟨fun o => S.getD o.at_ false, q, c', ?_, by rw [← hl2]; exact he, ?_, hB⟩
  · intro o _
    rw [← hS o.at_]
    cases e : S[o.at_]? with
    | none => simp [List.getD, e]
    | some y => simp [List.getD, e]
  · rw [hl2, hm, List.map_map] at hrow
    exact hrow

end Go.Proofs.YtkombdkhodjckaaGreat

namespace Go.Proofs.YtkombdkhodjckaaGreat
set_option linter.unusedVariables false
set_option linter.unusedSimpArgs false

/-- Where the object at p comes to lie, if objects are laid one behind the other from e on. -/
def dst : Nat → List Ob → Nat → Nat
  | _, [], p => p
  | e, o :: r, p => if o.at_ = p then e else dst (e + (o.ws.length + 1)) r p

/-- The objects themselves, so laid. -/
def slid : Nat → List Ob → List Ob
  | _, [] => []
  | e, o :: r => ⟨e, o.kind, o.ws⟩ :: slid (e + (o.ws.length + 1)) r

theorem sumO_cons (o : Ob) (r : List Ob) : sumO (o :: r) = o.ws.length + 1 + sumO r := by simp [sumO]

theorem sumO_append (l r : List Ob) : sumO (l ++ r) = sumO l + sumO r := by simp [sumO]

theorem dst_none : ∀ {L : List Ob} {e p : Nat}, (∀ o ∈ L, o.at_ ≠ p) → dst e L p = p
  | [], _, _, _ => rfl
  | o :: r, e, p, h => by
    unfold dst
    rw [if_neg (h o (by simp))]
    exact dst_none (fun q hq => h q (by simp [hq]))

theorem dst_append_none : ∀ {l r : List Ob} {e p : Nat}, (∀ o ∈ l, o.at_ ≠ p) → dst e (l ++ r) p = dst (e + sumO l) r p
  | [], r, e, p, _ => by simp [sumO]
  | o :: l, r, e, p, h => by
    simp only [List.cons_append]
    rw [dst, if_neg (h o (by simp)), dst_append_none (fun q hq => h q (by simp [hq])), sumO_cons]
    congr 1; omega

theorem dst_append_some : ∀ {l r : List Ob} {e p : Nat}, (∃ o ∈ l, o.at_ = p) → dst e (l ++ r) p = dst e l p
  | [], r, e, p, h => by simp at h
  | o :: l, r, e, p, h => by
    simp only [List.cons_append, dst]
    split
    · rfl
    · rename_i hne
      refine dst_append_some ?_
      obtain ⟨q, hq, e'⟩ := h
      rcases List.mem_cons.1 hq with rfl | hq
      · exact (hne e').elim
      · exact ⟨q, hq, e'⟩

theorem dst_at {l r : List Ob} {o : Ob} {e lo : Nat} (hs : Srt lo (l ++ o :: r)) : dst e (l ++ o :: r) o.at_ = e + sumO l := by
  rw [dst_append_none (fun q hq => by have := Srt.apart hs q hq o (by simp); unfold Ob.end_ at this; omega)]
  simp [dst]

theorem dst_le : ∀ {L : List Ob} {e p : Nat}, Srt e L → dst e L p ≤ p
  | [], _, _, _ => Nat.le_refl _
  | o :: r, e, p, ⟨h1, h2⟩ => by
    unfold dst
    split
    · omega
    · exact dst_le (h2.mono (by unfold Ob.end_; omega))

theorem slid_length : ∀ (L : List Ob) (e : Nat), (slid e L).length = L.length
  | [], _ => rfl
  | o :: r, e => by simp [slid, slid_length r]

theorem slid_append : ∀ (l r : List Ob) (e : Nat), slid e (l ++ r) = slid e l ++ slid (e + sumO l) r
  | [], r, e => by simp [slid, sumO]
  | o :: l, r, e => by
    simp only [List.cons_append, slid, slid_append l r, sumO_cons]
    congr 3; omega

theorem slid_sum : ∀ (L : List Ob) (e : Nat), sumO (slid e L) = sumO L
  | [], _ => rfl
  | o :: r, e => by simp only [slid, sumO_cons, slid_sum r]

theorem slid_end : ∀ {L : List Ob} {e : Nat}, ∀ q ∈ slid e L, q.end_ ≤ e + sumO L
  | [], _, _, h => by simp [slid] at h
  | o :: r, e, q, h => by
    rw [sumO_cons]
    simp only [slid, List.mem_cons] at h
    rcases h with rfl | h
    · simp [Ob.end_]; omega
    · have := slid_end q h; omega

theorem slid_map_aux {d : Nat → Nat} : ∀ {L : List Ob} {e : Nat}, (∀ l o r, L = l ++ o :: r → d o.at_ = e + sumO l) → slid e L = L.map (fun o => ⟨d o.at_, o.kind, o.ws⟩)
  | [], _, _ => rfl
  | o :: r, e, h => by
    simp only [slid, List.map_cons]
    rw [h [] o r rfl, slid_map_aux (d := d) (L := r) (e := e + (o.ws.length + 1)) (fun l q r' hr => by
      rw [h (o :: l) q r' (by rw [hr]; rfl), sumO_cons]; omega)]
    simp [sumO]

theorem slid_map {L : List Ob} {e lo : Nat} (hs : Srt lo L) : slid e L = L.map (fun o => ⟨dst e L o.at_, o.kind, o.ws⟩) := by
  refine slid_map_aux (fun l o r h => ?_)
  subst h
  exact dst_at hs

theorem dst_inj {L : List Ob} {lo e : Nat} (hs : Srt lo L) {o q : Ob} (ho : o ∈ L) (hq : q ∈ L) (h : dst e L o.at_ = dst e L q.at_) : o = q := by
  obtain ⟨l1, r1, h1⟩ := List.append_of_mem ho
  have e1 : dst e L o.at_ = e + sumO l1 := by rw [h1] at hs ⊢; exact dst_at hs
  rw [h1] at hq
  rcases List.mem_append.1 hq with hq | hq
  · obtain ⟨l2, r2, h2⟩ := List.append_of_mem hq
    have e2 : dst e L q.at_ = e + sumO l2 := by
      have h1' : L = l2 ++ q :: (r2 ++ o :: r1) := by rw [h1, h2]; simp
      rw [h1'] at hs ⊢; exact dst_at hs
    rw [e1, e2, h2, sumO_append, sumO_cons] at h
    omega
  · rcases List.mem_cons.1 hq with hq | hq
    · exact hq.symm
    · obtain ⟨l2, r2, h2⟩ := List.append_of_mem hq
      have e2 : dst e L q.at_ = e + sumO (l1 ++ o :: l2) := by
        have h1' : L = (l1 ++ o :: l2) ++ q :: r2 := by rw [h1, h2]; simp
        rw [h1'] at hs ⊢; exact dst_at hs
      rw [e1, e2, sumO_append, sumO_cons] at h
      omega

/-- The words of an object when the links tell the new places. -/
def relink (d : Nat → Nat) (ws : List Nat) (xs : List Lk) : List Nat := xs.foldl (fun ws x => ws.set x.word (d x.to + x.more)) ws

theorem relink_length (d : Nat → Nat) : ∀ (xs : List Lk) (ws : List Nat), (relink d ws xs).length = ws.length
  | [], _ => rfl
  | x :: xs, ws => by
    have := relink_length d xs (ws.set x.word (d x.to + x.more))
    simpa [relink] using this

theorem relink_other {d : Nat → Nat} : ∀ {xs : List Lk} {ws : List Nat} {j : Nat}, (∀ x ∈ xs, x.word ≠ j) → (relink d ws xs)[j]? = ws[j]?
  | [], _, _, _ => rfl
  | x :: xs, ws, j, h => by
    have := relink_other (d := d) (xs := xs) (ws := ws.set x.word (d x.to + x.more)) (j := j) (fun y hy => h y (by simp [hy]))
    have hx := h x (by simp)
    simp only [relink, List.foldl_cons] at this ⊢
    rw [this, List.getElem?_set, if_neg hx]

/-- The words of links differ from one another. -/
def WordsApart (xs : List Lk) : Prop := xs.Pairwise (fun x y => x.word ≠ y.word)

theorem relink_at {d : Nat → Nat} : ∀ {xs : List Lk} {ws : List Nat}, WordsApart xs → ∀ x ∈ xs, x.word < ws.length → (relink d ws xs)[x.word]? = some (d x.to + x.more)
  | [], _, _, _, h, _ => by simp at h
  | y :: xs, ws, hp, x, h, hl => by
    obtain ⟨h1, h2⟩ := List.pairwise_cons.1 hp
    rcases List.mem_cons.1 h with rfl | h
    · have := relink_other (d := d) (xs := xs) (ws := ws.set x.word (d x.to + x.more)) (j := x.word) (fun z hz => (h1 z hz).symm)
      simp only [relink, List.foldl_cons] at this ⊢
      rw [this]; simp [hl]
    · have := relink_at (d := d) (xs := xs) (ws := ws.set y.word (d y.to + y.more)) h2 x h (by simpa using hl)
      simpa [relink] using this

/-- Links to what does not move need not be written. -/
theorem relink_filter {d : Nat → Nat} : ∀ {xs : List Lk} {ws : List Nat}, WordsApart xs → (∀ x ∈ xs, ws[x.word]? = some (x.to + x.more)) → relink d ws (xs.filter (fun x => decide (d x.to ≠ x.to))) = relink d ws xs
  | [], _, _, _ => rfl
  | x :: xs, ws, hp, h => by
    obtain ⟨h1, h2⟩ := List.pairwise_cons.1 hp
    have hx := h x (by simp)
    by_cases hd : d x.to = x.to
    · have hs : ws.set x.word (d x.to + x.more) = ws := by
        rw [hd]
        refine List.ext_getElem? (fun j => ?_)
        rw [List.getElem?_set]
        split
        · rename_i e; subst e
          split
          · exact hx.symm
          · rename_i hlt; have := (List.getElem?_eq_some_iff.1 hx).1; omega
        · rfl
      have ih := relink_filter (d := d) (xs := xs) (ws := ws) h2 (fun y hy => h y (by simp [hy]))
      rw [List.filter_cons_of_neg (by simp [hd]), ih]
      simp only [relink, List.foldl_cons, hs]
    · have ih := relink_filter (d := d) (xs := xs) (ws := ws.set x.word (d x.to + x.more)) h2 (fun y hy => by
        rw [List.getElem?_set, if_neg (h1 y hy)]; exact h y (by simp [hy]))
      rw [List.filter_cons_of_pos (by simp [hd])]
      simp only [relink, List.foldl_cons] at ih ⊢
      exact ih

theorem prs_iff {M : List Ob} : ∀ {ws : List Nat} {i : Nat} {x : Lk}, x ∈ prs M i ws ↔ ∃ j k n : Nat, ws[2 * j]? = some k ∧ ws[2 * j + 1]? = some n ∧ Leads M k n ∧ x = ⟨i + 2 * j + 1, n, 0⟩
  | [], _, _ => by simp [prs]
  | [_], _, _ => by
    simp only [prs, List.not_mem_nil, false_iff]
    rintro ⟨j, k, n, h1, h2, _⟩
    simp at h2
  | k :: n :: r, i, x => by
    simp only [prs, List.mem_append, prs_iff (ws := r)]
    constructor
    · rintro (h | ⟨j, k', n', h1, h2, h3, h4⟩)
      · split at h
        · rename_i hl
          simp at h
          exact ⟨0, k, n, rfl, rfl, hl, by simpa using h⟩
        · simp at h
      · refine ⟨j + 1, k', n', ?_, ?_, h3, ?_⟩
        · rw [show 2 * (j + 1) = 2 * j + 1 + 1 by omega]; simpa using h1
        · rw [show 2 * (j + 1) + 1 = (2 * j + 1) + 1 + 1 by omega]; simpa using h2
        · rw [h4]; congr 1; omega
    · rintro ⟨j, k', n', h1, h2, h3, h4⟩
      cases j with
      | zero =>
        simp at h1 h2
        subst h1 h2
        left; rw [if_pos h3]; simpa using h4
      | succ j =>
        right
        refine ⟨j, k', n', ?_, ?_, h3, ?_⟩
        · rw [show 2 * (j + 1) = 2 * j + 1 + 1 by omega] at h1; simpa using h1
        · rw [show 2 * (j + 1) + 1 = (2 * j + 1) + 1 + 1 by omega] at h2; simpa using h2
        · rw [h4]; congr 1; omega

theorem prs_lo {M : List Ob} {ws : List Nat} {i : Nat} {x : Lk} (h : x ∈ prs M i ws) : i < x.word := by
  obtain ⟨j, k, n, _, _, _, rfl⟩ := prs_iff.1 h
  simp; omega

theorem prs_apart {M : List Ob} : ∀ (ws : List Nat) (i : Nat), WordsApart (prs M i ws)
  | [], _ => by simp [prs, WordsApart]
  | [_], _ => by simp [prs, WordsApart]
  | k :: n :: r, i => by
    simp only [prs]
    split
    · refine List.pairwise_cons.2 ⟨fun y hy => ?_, prs_apart r (i + 2)⟩
      have := prs_lo hy
      simp; omega
    · exact prs_apart r (i + 2)

/-- From which word on, up to which, an object's values are held. -/
theorem links_apart (M : List Ob) (o : Ob) : WordsApart (links M o) := by
  unfold links
  split
  · unfold itemsL
    split
    · split <;> simp [WordsApart]
    · simp [WordsApart]
  · split
    · exact prs_apart _ _
    · split
      · exact prs_apart _ _
      · split
        · exact prs_apart _ _
        · simp [WordsApart]

/-- What a link is: Items, or a pair. -/
theorem links_iff {M : List Ob} {o : Ob} {x : Lk} : x ∈ links M o ↔
    ((o.kind = 4 ∨ o.kind = 5) ∧ ∃ y, o.ws[1]? = some y ∧ y ≠ 0 ∧ Is M 8 ((y - 1 : Nat) : Int) ∧ x = ⟨1, y - 1, 1⟩) ∨
    ((o.kind = 6 ∨ o.kind = 7 ∨ o.kind = 8) ∧ ∃ j k n : Nat, (o.kind = 7 → j = 0) ∧ o.ws[(if o.kind = 6 then 1 else 0) + 2 * j]? = some k ∧ o.ws[(if o.kind = 6 then 1 else 0) + 2 * j + 1]? = some n ∧ Leads M k n ∧ x = ⟨(if o.kind = 6 then 1 else 0) + 2 * j + 1, n, 0⟩) := by
  unfold links
  by_cases h4 : o.kind = 4 ∨ o.kind = 5
  · rw [if_pos h4]
    have hn : ¬ (o.kind = 6 ∨ o.kind = 7 ∨ o.kind = 8) := by omega
    simp only [h4, hn, true_and, false_and, or_false]
    unfold itemsL
    cases h1 : o.ws[1]? with
    | none => simp
    | some y =>
      simp only [Option.some.injEq, exists_eq_left']
      split
      · rename_i h
        simp [h.1, h.2]
      · rename_i h
        simp only [List.not_mem_nil, false_iff]
        rintro ⟨a, b, _⟩
        exact h ⟨a, b⟩
  · rw [if_neg h4]
    simp only [h4, false_and, false_or]
    by_cases h8 : o.kind = 8
    · rw [if_pos h8]
      have h6 : ¬ o.kind = 6 := by omega
      have h7 : ¬ o.kind = 7 := by omega
      simp only [h8, h6, h7, if_false, prs_iff, Nat.zero_add]
      simp
    · rw [if_neg h8]
      by_cases h6 : o.kind = 6
      · rw [if_pos h6]
        have h7 : ¬ o.kind = 7 := by omega
        simp only [h6, prs_iff, if_true, List.getElem?_drop]
        simp only [true_or, true_and, Nat.add_assoc]
        simp
      · rw [if_neg h6]
        by_cases h7 : o.kind = 7
        · rw [if_pos h7]
          simp only [h7, prs_iff, true_or, or_true, true_and, Nat.zero_add]
          constructor
          · rintro ⟨j, k, n, a, b, c, d⟩
            rw [List.getElem?_take] at a b
            have hj : j = 0 := by
              by_cases h : 2 * j < 2
              · omega
              · rw [if_neg h] at a; simp at a
            subst hj
            exact ⟨0, k, n, fun _ => rfl, by simpa using a, by simpa using b, c, by simpa using d⟩
          · rintro ⟨j, k, n, hj, a, b, c, d⟩
            have hj := hj trivial
            subst hj
            exact ⟨0, k, n, by simpa [List.getElem?_take] using a, by simpa [List.getElem?_take] using b, c, by simpa using d⟩
        · rw [if_neg h7]
          simp only [h6, h7, h8, List.not_mem_nil, or_false, false_and]

theorem links_word {M : List Ob} {o : Ob} {x : Lk} (h : x ∈ links M o) : o.ws[x.word]? = some (x.to + x.more) := by
  rcases links_iff.1 h with ⟨_, y, h1, h2, _, rfl⟩ | ⟨_, j, k, n, _, _, h2, _, rfl⟩
  · simp only; rw [h1]; congr 1; omega
  · simpa using h2

/-- The objects behind a collection. -/
def fin (M : List Ob) (L : List Ob) : List Ob := L.map (fun o => ⟨dst 0 L o.at_, o.kind, relink (dst 0 L) o.ws (links M o)⟩)

theorem fin_length (M L : List Ob) : (fin M L).length = L.length := by simp [fin]

/-- What is to be written: where, which word, what. -/
structure Wr where
  fr : Nat
  word : Nat
  v : Nat

def wrsOf (d : Nat → Nat) (o : Ob) (xs : List Lk) : List Wr := (xs.filter (fun x => decide (d x.to ≠ x.to))).map (fun x => ⟨d o.at_, x.word, d x.to + x.more⟩)

def wrs (M : List Ob) (d : Nat → Nat) (L : List Ob) : List Wr := L.flatMap (fun o => wrsOf d o (links M o))

theorem wrs_snoc (M : List Ob) (d : Nat → Nat) (L : List Ob) (o : Ob) : wrs M d (L ++ [o]) = wrs M d L ++ wrsOf d o (links M o) := by simp [wrs]

theorem wrsOf_snoc (d : Nat → Nat) (o : Ob) (xs : List Lk) (x : Lk) : wrsOf d o (xs ++ [x]) = wrsOf d o xs ++ (if d x.to ≠ x.to then [⟨d o.at_, x.word, d x.to + x.more⟩] else []) := by
  unfold wrsOf
  rw [List.filter_append, List.map_append]
  congr 1
  by_cases h : d x.to = x.to
  · simp [h]
  · simp [h]

def putW (A : List Ob) (x : Wr) : List Ob := A.map (fun o => if o.at_ = x.fr then ⟨o.at_, o.kind, o.ws.set x.word x.v⟩ else o)

def putsW (A : List Ob) (xs : List Wr) : List Ob := xs.foldl putW A

theorem putsW_snoc (A : List Ob) (xs : List Wr) (x : Wr) : putsW A (xs ++ [x]) = putW (putsW A xs) x := by simp [putsW]

theorem putW_at {l r : List Ob} {o : Ob} {lo : Nat} (hs : Srt lo (l ++ o :: r)) (x : Wr) (h : o.at_ = x.fr) : putW (l ++ o :: r) x = l ++ { o with ws := o.ws.set x.word x.v } :: r := by
  have hl : ∀ q ∈ l, q.at_ ≠ x.fr := fun q hq => by have := Srt.apart hs q hq o (by simp); unfold Ob.end_ at this; omega
  have hr : ∀ q ∈ r, q.at_ ≠ x.fr := fun q hq => by
    have := Srt.apart (l := l ++ [o]) (r := r) (by simpa using hs) o (by simp) q hq; unfold Ob.end_ at this; omega
  unfold putW
  rw [List.map_append, List.map_cons, if_pos h]
  congr 1
  · rw [List.map_congr_left (g := id) (fun q hq => by simp [hl q hq])]; simp
  · congr 1
    rw [List.map_congr_left (g := id) (fun q hq => by simp [hr q hq])]; simp

/-- Objects of the same places, kinds and sizes. -/
def Alike (A B : List Ob) : Prop := B.map (fun o => (o.at_, o.kind, o.ws.length)) = A.map (fun o => (o.at_, o.kind, o.ws.length))

theorem Alike.refl (A : List Ob) : Alike A A := rfl

theorem Alike.putW {A B : List Ob} (h : Alike A B) (x : Wr) : Alike A (putW B x) := by
  unfold Alike at h ⊢
  rw [← h]
  unfold YtkombdkhodjckaaGreat.putW
  rw [List.map_map]
  refine List.map_congr_left (fun o _ => ?_)
  simp only [Function.comp]
  split <;> simp

theorem Alike.get {A B : List Ob} (h : Alike A B) {o : Ob} (ho : o ∈ A) : ∃ q ∈ B, q.at_ = o.at_ ∧ q.kind = o.kind ∧ q.ws.length = o.ws.length := by
  have : (o.at_, o.kind, o.ws.length) ∈ A.map (fun o => (o.at_, o.kind, o.ws.length)) := List.mem_map.2 ⟨o, ho, rfl⟩
  rw [← h] at this
  obtain ⟨q, hq, e⟩ := List.mem_map.1 this
  simp at e
  exact ⟨q, hq, e.1, e.2.1, e.2.2⟩

theorem putsW_eq : ∀ (xs : List Wr) (A : List Ob), putsW A xs = A.map (fun o => ⟨o.at_, o.kind, (xs.filter (fun x => decide (x.fr = o.at_))).foldl (fun l x => l.set x.word x.v) o.ws⟩)
  | [], A => by
    simp only [putsW, List.foldl_nil, List.filter_nil]
    have : A.map (fun o => (⟨o.at_, o.kind, o.ws⟩ : Ob)) = A.map id := List.map_congr_left (fun o _ => rfl)
    rw [this]; simp
  | x :: xs, A => by
    have ih := putsW_eq xs (putW A x)
    simp only [putsW, List.foldl_cons] at ih ⊢
    rw [ih]
    unfold putW
    rw [List.map_map]
    refine List.map_congr_left (fun o _ => ?_)
    simp only [Function.comp]
    by_cases h : o.at_ = x.fr
    · simp only [if_pos h]
      rw [List.filter_cons_of_pos (by simp [h])]
      simp
    · simp only [if_neg h]
      rw [List.filter_cons_of_neg (by simp; omega)]

theorem fold_wrsOf (d : Nat → Nat) (o : Ob) (xs : List Lk) (ws : List Nat) : (wrsOf d o xs).foldl (fun l x => l.set x.word x.v) ws = relink d ws (xs.filter (fun x => decide (d x.to ≠ x.to))) := by
  unfold wrsOf relink
  rw [List.foldl_map]

/-- All that is to be written makes the heap that is left. -/
theorem puts_fin {M L : List Ob} {lo : Nat} (hs : Srt lo L) : putsW (slid 0 L) (wrs M (dst 0 L) L) = fin M L := by
  rw [putsW_eq, slid_map hs, List.map_map]
  unfold fin
  refine List.map_congr_left (fun o ho => ?_)
  simp only [Function.comp]
  congr 1
  have hf : (wrs M (dst 0 L) L).filter (fun x => decide (x.fr = dst 0 L o.at_)) = wrsOf (dst 0 L) o (links M o) := by
    obtain ⟨l, r, hL⟩ := List.append_of_mem ho
    have key : ∀ q ∈ L, q ≠ o → (wrsOf (dst 0 L) q (links M q)).filter (fun x => decide (x.fr = dst 0 L o.at_)) = [] := by
      intro q hq hne
      refine List.filter_eq_nil_iff.2 (fun x hx => ?_)
      obtain ⟨y, _, rfl⟩ := List.mem_map.1 hx
      simp
      intro h
      exact hne (dst_inj hs hq ho h)
    have hne : (∀ q ∈ l, q ≠ o) ∧ (∀ q ∈ r, q ≠ o) := by
      rw [hL] at hs
      refine ⟨fun q hq e => ?_, fun q hq e => ?_⟩
      · have := Srt.apart hs q hq o (by simp); rw [e] at this; unfold Ob.end_ at this; omega
      · have := Srt.apart (l := l ++ [o]) (r := r) (by simpa using hs) o (by simp) q hq; rw [e] at this; unfold Ob.end_ at this; omega
    have all : ∀ (d : Nat → Nat) (l : List Ob), (∀ q ∈ l, (wrsOf d q (links M q)).filter (fun x => decide (x.fr = dst 0 L o.at_)) = []) → (wrs M d l).filter (fun x => decide (x.fr = dst 0 L o.at_)) = [] := by
      intro d l hl
      unfold wrs
      rw [List.filter_flatMap]
      exact List.flatMap_eq_nil_iff.2 hl
    have e0 : wrs M (dst 0 L) L = wrs M (dst 0 L) l ++ (wrsOf (dst 0 L) o (links M o) ++ wrs M (dst 0 L) r) := by
      conv => lhs; arg 3; rw [hL]
      simp [wrs]
    rw [e0, List.filter_append, List.filter_append, all _ l (fun q hq => key q (by rw [hL]; simp [hq]) (hne.1 q hq)), all _ r (fun q hq => key q (by rw [hL]; simp [hq]) (hne.2 q hq))]
    simp only [List.nil_append, List.append_nil]
    refine List.filter_eq_self.2 (fun x hx => ?_)
    obtain ⟨y, _, rfl⟩ := List.mem_map.1 hx
    simp
  rw [hf, fold_wrsOf]
  exact relink_filter (links_apart M o) (fun x hx => links_word hx)

theorem Srt.filter {f : Ob → Bool} : ∀ {M : List Ob} {lo : Nat}, Srt lo M → Srt lo (M.filter f)
  | [], _, _ => trivial
  | o :: r, lo, ⟨h1, h2⟩ => by
    by_cases h : f o = true
    · rw [List.filter_cons_of_pos h]; exact ⟨h1, Srt.filter h2⟩
    · rw [List.filter_cons_of_neg h]; exact (Srt.filter h2).mono (by unfold Ob.end_; omega)

theorem Srt.sum_le : ∀ {l r : List Ob} {q : Ob} {lo : Nat}, Srt lo (l ++ q :: r) → lo + sumO l ≤ q.at_
  | [], _, _, _, h => by simpa [sumO] using h.1
  | o :: l, r, q, lo, ⟨h1, h2⟩ => by
    have := Srt.sum_le h2
    rw [sumO_cons]; unfold Ob.end_ at this; omega

theorem Srt.sum_used : ∀ {M : List Ob} {lo n : Nat}, Srt lo M → (∀ o ∈ M, o.end_ ≤ n) → lo ≤ n → lo + sumO M ≤ n
  | [], _, _, _, _, h => by simpa [sumO] using h
  | o :: r, lo, n, ⟨h1, h2⟩, hin, _ => by
    have := Srt.sum_used h2 (fun q hq => hin q (by simp [hq])) (hin o (by simp))
    rw [sumO_cons]; unfold Ob.end_ at this; omega

theorem sumO_sift_le (f : Ob → Bool) : ∀ (M : List Ob), sumO (M.filter f) ≤ sumO M
  | [] => Nat.le_refl _
  | o :: r => by
    have := sumO_sift_le f r
    by_cases h : f o = true
    · rw [List.filter_cons_of_pos h, sumO_cons, sumO_cons]; omega
    · rw [List.filter_cons_of_neg h, sumO_cons]; omega

/-- The roots, as they are told then. -/
def newRoot (d : Nat → Nat) (v : Vl) : Vl := if 3 ≤ v.k ∧ v.k ≤ 7 then ⟨v.k, (d v.n.toNat : Nat)⟩ else v

theorem fin_sum (M L : List Ob) : sumO (fin M L) = sumO L := by
  unfold fin sumO
  rw [List.map_map]
  congr 1
  refine List.map_congr_left (fun o _ => ?_)
  simp [relink_length]

/-- One behind the other, without gaps. -/
def Tight : Nat → List Ob → Prop
  | _, [] => True
  | e, o :: r => o.at_ = e ∧ Tight (e + (o.ws.length + 1)) r

theorem Tight.srt : ∀ {L : List Ob} {e : Nat}, Tight e L → Srt e L
  | [], _, _ => trivial
  | o :: r, e, ⟨h1, h2⟩ => ⟨by omega, by have := h2.srt; unfold Ob.end_; rw [h1]; exact this.mono (by omega)⟩

theorem tight_of {A : List Ob} : ∀ {B : List Ob} {e : Nat}, (∀ l o r, B = l ++ o :: r → o.at_ = e + sumO l) → Tight e B
  | [], _, _ => trivial
  | o :: r, e, h => ⟨by simpa [sumO] using h [] o r rfl, tight_of (A := A) (fun l q r' hr => by rw [h (o :: l) q r' (by rw [hr]; rfl), sumO_cons]; omega)⟩

theorem map_parts {α β : Type} {g : α → β} : ∀ {L : List α} {l r : List β} {b : β}, L.map g = l ++ b :: r → ∃ l' a r', L = l' ++ a :: r' ∧ l'.map g = l ∧ g a = b ∧ r'.map g = r := by
  intro L l r b h
  obtain ⟨l', r1, rfl, h1, h2⟩ := List.map_eq_append_iff.1 h
  obtain ⟨a, r', rfl, h3, h4⟩ := List.map_eq_cons_iff.1 h2
  exact ⟨l', a, r', rfl, h1, h3, h4⟩

theorem fin_tight {M L : List Ob} {lo : Nat} (hs : Srt lo L) : Tight 0 (fin M L) := by
  refine tight_of (A := L) (fun l o r h => ?_)
  obtain ⟨l', a, r', hL, h1, h2, h3⟩ := map_parts h
  subst h2
  have : dst 0 L a.at_ = 0 + sumO l' := by rw [hL] at hs ⊢; exact dst_at hs
  simp only
  rw [this, ← h1]
  congr 1
  unfold sumO
  rw [List.map_map]
  congr 1
  refine List.map_congr_left (fun o _ => ?_)
  simp [relink_length]

theorem Tight.dst : ∀ {L : List Ob} {e p : Nat}, Tight e L → YtkombdkhodjckaaGreat.dst e L p = p
  | [], _, _, _ => rfl
  | o :: r, e, p, ⟨h1, h2⟩ => by
    unfold YtkombdkhodjckaaGreat.dst
    split
    · omega
    · exact h2.dst

theorem Tight.dst_id {L : List Ob} {e : Nat} (h : Tight e L) : YtkombdkhodjckaaGreat.dst e L = fun p => p := funext (fun p => h.dst)

theorem relink_id {ws : List Nat} {xs : List Lk} (hp : WordsApart xs) (h : ∀ x ∈ xs, ws[x.word]? = some (x.to + x.more)) : relink (fun p => p) ws xs = ws := by
  rw [← relink_filter hp h]
  have : xs.filter (fun x => decide ((fun p => p) x.to ≠ x.to)) = [] := List.filter_eq_nil_iff.2 (fun x _ => by simp)
  rw [this]; rfl

theorem fin_again {M : List Ob} (h : Tight 0 M) : fin M M = M := by
  unfold fin
  rw [h.dst_id]
  have : M.map (fun o => (⟨o.at_, o.kind, relink (fun p => p) o.ws (links M o)⟩ : Ob)) = M.map id := List.map_congr_left (fun o _ => by
    rw [relink_id (links_apart M o) (fun x hx => links_word hx)]; rfl)
  rw [this]; simp

/-- A collection, by what roots lead to. -/
structure Reached (M : List Ob) (vs : List Vl) (f : Ob → Bool) : Prop where
  may : May M vs
  iff : ∀ o ∈ M, f o = true ↔ Rch M vs o.at_

theorem Reached.mem {M : List Ob} {vs : List Vl} {f : Ob → Bool} (h : Reached M vs f) {p : Nat} (hp : Rch M vs p) : ∃ o ∈ M.filter f, o.at_ = p := by
  obtain ⟨o, ho, rfl⟩ := hp.mem
  exact ⟨o, List.mem_filter.2 ⟨ho, (h.iff o ho).2 hp⟩, rfl⟩

/-- The object behind the collection. -/
def finOb (M L : List Ob) (o : Ob) : Ob := ⟨dst 0 L o.at_, o.kind, relink (dst 0 L) o.ws (links M o)⟩

theorem finOb_mem {M L : List Ob} {o : Ob} (h : o ∈ L) : finOb M L o ∈ fin M L := List.mem_map.2 ⟨o, h, rfl⟩

theorem fin_is {M L : List Ob} {o : Ob} (h : o ∈ L) : Is (fin M L) o.kind ((dst 0 L o.at_ : Nat) : Int) := ⟨finOb M L o, finOb_mem h, rfl, rfl⟩

theorem links_fin {M : List Ob} (hs : Srt 0 M) {vs : List Vl} {f : Ob → Bool} (h : Reached M vs f) {o : Ob} (ho : o ∈ M.filter f) {x : Lk} (hx : x ∈ links M o) :
    (⟨x.word, dst 0 (M.filter f) x.to, x.more⟩ : Lk) ∈ links (fin M (M.filter f)) (finOb M (M.filter f) o) := by
  have hom := (List.mem_filter.1 ho).1
  have hr : Rch M vs x.to := Rch.step hom ((h.iff o hom).1 (List.mem_filter.1 ho).2) hx
  obtain ⟨q, hq, hqt⟩ := h.mem hr
  have hqm := (List.mem_filter.1 hq).1
  have hat := relink_at (d := dst 0 (M.filter f)) (links_apart M o) x hx (List.getElem?_eq_some_iff.1 (links_word hx)).1
  have hfi := fin_is (M := M) hq
  rw [hqt] at hfi
  rw [links_iff]
  rcases links_iff.1 hx with ⟨hk, y, h1, h2, h3, rfl⟩ | ⟨hk, j, k, n, hj, h1, h2, h3, rfl⟩
  · left
    refine ⟨hk, dst 0 (M.filter f) (y - 1) + 1, hat, by omega, ?_, by simp⟩
    obtain ⟨q', hq', e, e8⟩ := h3
    obtain rfl := hs.uniq hq' hqm (by simp only at hqt; omega)
    rw [e8] at hfi
    simpa using hfi
  · right
    simp only at hat hfi hqt
    refine ⟨hk, j, k, dst 0 (M.filter f) n, hj, ?_, hat, ⟨h3.1, h3.2.1, ?_⟩, rfl⟩
    · show (relink (dst 0 (M.filter f)) o.ws (links M o))[(if o.kind = 6 then 1 else 0) + 2 * j]? = some k
      refine (relink_other (fun z hz => ?_)).trans h1
      rcases links_iff.1 hz with ⟨hk', _⟩ | ⟨_, j', k', n', _, _, _, _, rfl⟩
      · omega
      · simp only; omega
    · obtain ⟨q', hq', e, ek⟩ := h3.2.2
      obtain rfl := hs.uniq hq' hqm (by omega)
      rw [ek] at hfi
      exact hfi

theorem root_fin {M : List Ob} (hs : Srt 0 M) {vs : List Vl} {f : Ob → Bool} (h : Reached M vs f) {v : Vl} (hv : v ∈ vs) (hl : Leads M v.k v.n) :
    Leads (fin M (M.filter f)) (newRoot (dst 0 (M.filter f)) v).k (newRoot (dst 0 (M.filter f)) v).n ∧ (newRoot (dst 0 (M.filter f)) v).n = ((dst 0 (M.filter f) v.n.toNat : Nat) : Int) := by
  have e : newRoot (dst 0 (M.filter f)) v = ⟨v.k, (dst 0 (M.filter f) v.n.toNat : Nat)⟩ := by unfold newRoot; rw [if_pos ⟨hl.1, hl.2.1⟩]
  rw [e]
  refine ⟨⟨hl.1, hl.2.1, ?_⟩, rfl⟩
  obtain ⟨o, ho, ea, ek⟩ := hl.2.2
  have hr : Rch M vs o.at_ := Rch.root hv hl ea.symm
  have := fin_is (M := M) (L := M.filter f) (List.mem_filter.2 ⟨ho, (h.iff o ho).2 hr⟩)
  rw [ek] at this
  rw [show v.n.toNat = o.at_ by omega]
  exact this

theorem rch_fin {M : List Ob} (hs : Srt 0 M) {vs : List Vl} {f : Ob → Bool} (h : Reached M vs f) {p : Nat} (hp : Rch M vs p) :
    Rch (fin M (M.filter f)) (vs.map (newRoot (dst 0 (M.filter f)))) (dst 0 (M.filter f) p) ∧ Rch M vs p := by
  refine Rch.ind (P := fun p => Rch (fin M (M.filter f)) (vs.map (newRoot (dst 0 (M.filter f)))) (dst 0 (M.filter f) p) ∧ Rch M vs p) ?_ ?_ hp
  · intro v p hv hl e
    obtain ⟨h1, h2⟩ := root_fin hs h hv hl
    exact ⟨Rch.root (List.mem_map.2 ⟨v, hv, rfl⟩) h1 (by rw [h2, e]; simp), Rch.root hv hl e⟩
  · intro o x ho ih hx
    have hof : o ∈ M.filter f := List.mem_filter.2 ⟨ho, (h.iff o ho).2 ih.2⟩
    exact ⟨Rch.step (finOb_mem hof) ih.1 (links_fin hs h hof hx), Rch.step ho ih.2 hx⟩

/-- Behind a collection all is reached, and the roots may be. -/
theorem reached_fin {M : List Ob} (hs : Srt 0 M) {vs : List Vl} {f : Ob → Bool} (h : Reached M vs f) {g : Ob → Bool} (hg : ∀ o ∈ fin M (M.filter f), g o = true ↔ Rch (fin M (M.filter f)) (vs.map (newRoot (dst 0 (M.filter f)))) o.at_) :
    (fin M (M.filter f)).filter g = fin M (M.filter f) := by
  refine List.filter_eq_self.2 (fun o ho => (hg o ho).2 ?_)
  obtain ⟨q, hq, rfl⟩ := List.mem_map.1 ho
  have hqm := List.mem_filter.1 hq
  exact (rch_fin hs h ((h.iff q hqm.1).1 hqm.2)).1

theorem may_fin {M : List Ob} (hs : Srt 0 M) {vs : List Vl} {f : Ob → Bool} (h : Reached M vs f) : May (fin M (M.filter f)) (vs.map (newRoot (dst 0 (M.filter f)))) := by
  intro u hu
  obtain ⟨v, hv, rfl⟩ := List.mem_map.1 hu
  obtain ⟨h7, h3⟩ := h.may v hv
  by_cases hk : 3 ≤ v.k
  · obtain ⟨h1, h2⟩ := root_fin hs h hv (h3 hk)
    exact ⟨h1.2.1, fun _ => h1⟩
  · have e : newRoot (dst 0 (M.filter f)) v = v := by unfold newRoot; rw [if_neg (fun h => hk h.1)]
    rw [e]
    exact ⟨h7, fun h => (hk h).elim⟩

theorem newRoot_id {M : List Ob} {vs : List Vl} (h : May M vs) : vs.map (newRoot (fun p => p)) = vs := by
  have : vs.map (newRoot (fun p => p)) = vs.map id := List.map_congr_left (fun v hv => by
    unfold newRoot
    split
    · rename_i hk
      obtain ⟨_, _, o, _, e, _⟩ := (h v hv).2 hk.1
      obtain ⟨k, n⟩ := v
      simp only [id] at e ⊢
      congr 1; omega
    · rfl)
  rw [this]; simp

/-- Roots of the same values lead to the same. -/
theorem Rch.congr {M : List Ob} {vs us : List Vl} (h : ∀ v ∈ vs, v ∈ us) {p : Nat} (hp : Rch M vs p) : Rch M us p := by
  refine Rch.ind (P := fun p => Rch M us p) ?_ ?_ hp
  · intro v p hv hl e
    exact Rch.root (h v hv) hl e
  · intro o x ho ih hx
    exact Rch.step ho ih hx

end Go.Proofs.YtkombdkhodjckaaGreat
