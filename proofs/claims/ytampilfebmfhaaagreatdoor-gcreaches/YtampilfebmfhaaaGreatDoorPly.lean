/- What stands while a script is played: the two heaps, a heap that New did not make, the book. -/
import Derived.Test.YtampilfebmfhaaaGreatDoorSame
import Derived.Test.YtampilfebmfhaaaGreatDoorApart
namespace Go.Proofs.YtampilfebmfhaaaGreatDoor
open Go.RowKit

/-- A heap and the document's, there or not: T w f: they stand in w, their blocks are f. -/
structure Pair (n₀ : Nat) (vh vr : Value) (T : World → (Nat → Prop) → Prop) : Prop where
  foot : ∀ {w f}, T w f → ∀ {k}, f k → n₀ ≤ k ∧ k < w.heap.size ∧ ∃ cur t, w.heap[k]? = some (.cells cur t (0, 0)) ∧ (t = 114 ∨ t = 137 ∨ t = 71 ∨ t = 4 ∨ t = 88 ∨ t = 85)
  keep : ∀ {w f w'}, T w f → (∀ k, f k → w'.heap[k]? = w.heap[k]?) → T w' f
  asked : ∀ {w f} (o : OpV), T w f → o.kk < 256 → o.ww < 18446744073709551616 → Calls Tryz.prog 20 #[vh, vr, o.agg] w fun e w' => e = .returned (.bool true) ∧ ∃ f', T w' f' ∧ KStep f w w' ∧ ∀ k, f' k → f k ∨ w.heap.size ≤ k
  used : ∀ {w f}, T w f → ∃ u : Int, (Calls Tryz.prog 26 #[vh] w fun e w' => e = .returned (.int .i64 u) ∧ w' = w) ∧ (Calls Tryz.prog 27 #[vr] w fun e w' => e = .returned (.int .i64 u) ∧ w' = w)
  places : ∀ {w f}, T w f → Calls Tryz.prog 30 #[vh] w fun e w' => ∃ p n c xs, n ≤ 1048576 ∧ e = .returned (.slice p n c) ∧ w'.ownsRow w.heap.size 2 1 (.slice p n c) n xs ∧ Below w.heap.size w w'
  same : ∀ {w f}, T w f → Calls Tryz.prog 11 #[vh, vr] w fun e w' => e = .returned (.bool true) ∧ Below w.heap.size w w'

theorem Bo.kept {n₀ bh b br lim : Nat} {w w' : World} {s : BSt} (h : Bo n₀ bh b br lim w s) (hk : ∀ k, s.foot bh b br k → w'.heap[k]? = w.heap[k]?) : Bo n₀ bh b br lim w' s := by
  refine ⟨h.hp.kept (fun k e => hk k ?_), h.rf.kept (fun k e => hk k (.inr (.inr (.inr (.inr e))))), h.dis⟩
  rcases e with e | e | e | e
  · exact .inl e
  · exact .inr (.inl e)
  · exact .inr (.inr (.inl e))
  · exact .inr (.inr (.inr (.inl e)))

theorem pair_real (n₀ bh b br lim : Nat) : Pair n₀ (.pointer (some ⟨bh, 0, none⟩)) (.pointer (some ⟨br, 0, none⟩)) (fun w f => ∃ s, Bo n₀ bh b br lim w s ∧ f = s.foot bh b br) where
  foot := by rintro w f ⟨s, h, rfl⟩ k hk; exact h.foot_lt hk
  keep := by rintro w f w' ⟨s, h, rfl⟩ hk; exact ⟨s, h.kept hk, rfl⟩
  asked := by
    rintro w f o ⟨s, h, rfl⟩ h1 h2
    refine (asked_real h o h1 h2).mono ?_
    rintro e w' ⟨he, s', h', hS, _⟩
    exact ⟨he, _, ⟨s', h', rfl⟩, ⟨hS.os, hS.tape, hS.output, hS.size, hS.block⟩, hS.foot⟩
  used := by rintro w f ⟨s, h, rfl⟩; exact ⟨s.used, usedM h.hp, rused_in h.rf⟩
  places := by
    rintro w f ⟨s, h, rfl⟩
    refine (placesM h.hp).mono ?_
    rintro e w' ⟨p, c, he, h1, h2⟩
    have := h.size
    exact ⟨p, _, c, _, by simp; omega, he, h1, h2⟩
  same := by rintro w f ⟨s, h, rfl⟩; exact same_real h

theorem pair_gone (n₀ : Nat) : Pair n₀ (.pointer none) (.pointer none) (fun _ f => f = fun _ => False) where
  foot := by rintro w f rfl k hk; exact hk.elim
  keep := by rintro w f w' rfl _; rfl
  asked := by
    rintro w f o rfl _ _
    refine (asked_gone (.inl rfl) o).mono ?_
    rintro e w' ⟨he, hB⟩
    exact ⟨he, _, rfl, KStep.of_below hB, fun k hk => hk.elim⟩
  used := by rintro w f rfl; exact ⟨0, gused (.inl rfl), nused w⟩
  places := by
    rintro w f rfl
    refine (gplaces (.inl rfl)).mono ?_
    rintro e w' ⟨he, rfl⟩
    exact ⟨none, 0, 0, [], by omega, he, World.ownsRow_nil _ _ _ _, Below.refl _ _⟩
  same := by rintro w f rfl; exact same_gone (.inl rfl)

/-- All that stands. -/
structure Ply (n₀ z bk : Nat) (T : World → (Nat → Prop) → Prop) (w : World) (f : Nat → Prop) (vp : Value) (H : List He) : Prop where
  t : T w f
  zn : n₀ ≤ z
  zb : w.heap[z]? = some (.cells #[.pointer none] 114 (0, 0))
  zf : ¬ f z
  bk : IsBk n₀ bk vp w H
  ha : ∀ x ∈ H, HA n₀ w x
  ap : Apt H

section
variable {n₀ z bk : Nat} {vh vr vp : Value} {T : World → (Nat → Prop) → Prop} {w w' : World} {f f' : Nat → Prop} {H : List He}

theorem Ply.zlt (h : Ply n₀ z bk T w f vp H) : z < w.heap.size := (Array.getElem?_eq_some_iff.1 h.zb).1

theorem Ply.gone (h : Ply n₀ z bk T w f vp H) : Gone w (.pointer (some ⟨z, 0, none⟩)) := .inr ⟨z, rfl, by rw [cell_of_row w z 0 _ _ _ h.zb]; rfl⟩

theorem Ply.step (h : Ply n₀ z bk T w f vp H) (P : Pair n₀ vh vr T) (ht : T w' f') (hK : KStep f w w') (hf : ∀ k, f' k → f k ∨ w.heap.size ≤ k) : Ply n₀ z bk T w' f' vp H := by
  refine ⟨ht, h.zn, (hK.block z h.zlt h.zf).trans h.zb, fun e => ?_, h.bk.kept (fun k hk => ?_), fun x hx => (h.ha x hx).kept (fun k hk => ?_), h.ap⟩
  · rcases hf z e with e | e
    · exact h.zf e
    · have := h.zlt; omega
  · obtain ⟨_, h2, cur, t, h3, h4⟩ := h.bk.blocks hk
    refine hK.block k h2 (fun e => ?_)
    obtain ⟨_, _, cur', t', h5, h6⟩ := P.foot h.t e
    rw [h3] at h5
    rcases h4 with rfl | rfl <;> rcases h6 with rfl | rfl | rfl | rfl | rfl | rfl <;> simp at h5
  · obtain ⟨_, h2, _, cur, h3⟩ := (h.ha x hx).blocks hk
    refine hK.block k h2 (fun e => ?_)
    obtain ⟨_, _, cur', t', h5, h6⟩ := P.foot h.t e
    rw [h3] at h5
    rcases h6 with rfl | rfl | rfl | rfl | rfl | rfl <;> simp at h5

theorem Ply.below (h : Ply n₀ z bk T w f vp H) (P : Pair n₀ vh vr T) (hB : Below w.heap.size w w') : Ply n₀ z bk T w' f vp H :=
  h.step P (P.keep h.t (fun k hk => hB.block k (P.foot h.t hk).2.1)) (KStep.of_below hB) (fun _ h => .inl h)

/-- The book's calls leave the heaps as they were. -/
theorem Ply.other (h : Ply n₀ z bk T w f vp H) (P : Pair n₀ vh vr T) {S : Nat → Prop} (hS : ∀ k, k < w.heap.size → S k → ∃ cur t, w.heap[k]? = some (.cells cur t (0, 0)) ∧ (t = 2 ∨ t = 58 ∨ t = 148)) (hK : KStep S w w') : T w' f ∧ w'.heap[z]? = some (.cells #[.pointer none] 114 (0, 0)) := by
  refine ⟨P.keep h.t (fun k hk => ?_), ?_⟩
  · obtain ⟨_, h2, cur', t', h5, h6⟩ := P.foot h.t hk
    refine hK.block k h2 (fun e => ?_)
    obtain ⟨cur, t, h3, h4⟩ := hS k h2 e
    rw [h3] at h5
    rcases h4 with rfl | rfl | rfl <;> rcases h6 with rfl | rfl | rfl | rfl | rfl | rfl <;> simp at h5
  · refine (hK.block z h.zlt (fun e => ?_)).trans h.zb
    obtain ⟨cur, t, h3, h4⟩ := hS z h.zlt e
    rw [h.zb] at h3
    rcases h4 with rfl | rfl | rfl <;> simp at h3

/-- A list more. -/
theorem Ply.place (h : Ply n₀ z bk T w f vp H) (P : Pair n₀ vh vr T) (hH : H.length < 20) {p : Option Addr} {n c : Nat} {xs : List Value} (hn : n ≤ 1048576) {w1 : World} (hrow : w1.ownsRow w.heap.size 2 1 (.slice p n c) n xs) (hB : Below w.heap.size w w1) :
    Calls Tryz.prog 12 #[.pointer (some ⟨bk, 0, none⟩), .slice p n c] w1 fun e w' => e = .returned (.tuple #[]) ∧ ∃ vp' H', H'.length = H.length + 1 ∧ Ply n₀ z bk T w' f vp' H' ∧ Below n₀ w1 w' := by
  have h1 := h.below P hB
  have hn0 : n₀ ≤ w.heap.size := Nat.le_trans h.bk.base (Nat.le_of_lt h.bk.lt)
  refine (places_keep h1.bk hH p n c hn).mono ?_
  rintro e w' ⟨he, vp', hb', hK, hvp⟩
  have hS : ∀ k, k < w1.heap.size → IsBk.own bk vp k → ∃ cur t, w1.heap[k]? = some (.cells cur t (0, 0)) ∧ (t = 2 ∨ t = 58 ∨ t = 148) := by
    intro k _ hk
    obtain ⟨_, _, cur, t, h3, h4⟩ := h1.bk.blocks hk
    exact ⟨cur, t, h3, .inr h4⟩
  obtain ⟨t', z'⟩ := h1.other P hS hK
  have keep2 : ∀ k, k < w1.heap.size → (∃ cur, w1.heap[k]? = some (.cells cur 2 (0, 0))) → w'.heap[k]? = w1.heap[k]? := by
    rintro k hk ⟨cur, hc⟩
    refine hK.block k hk (fun e => ?_)
    obtain ⟨_, _, cur', t, h3, h4⟩ := h1.bk.blocks e
    rw [hc] at h3
    rcases h4 with rfl | rfl <;> simp at h3
  refine ⟨he, vp', _, by simp, ⟨t', h.zn, z', h.zf, hb', ?_, ?_⟩, hK.below (fun k hk => (h1.bk.blocks hk).1) (Nat.le_trans hn0 hB.size)⟩
  · intro x hx
    rcases List.mem_append.1 hx with hx | hx
    · have hx1 := h1.ha x hx
      exact hx1.kept (fun k hk => keep2 k (hx1.blocks hk).2.1 (hx1.blocks hk).2.2.2)
    · simp at hx; subst hx
      refine ⟨rfl, xs, row_mono (IsRf.row_kept hrow (fun k hk => keep2 k (hrow.lt k hk).2 (IsAr.row_type hrow hk))) hn0⟩
  · refine List.pairwise_append.2 ⟨h.ap, by simp, ?_⟩
    intro x hx y hy k hk hk2
    simp at hy; subst hy
    have q1 := ((h.ha x hx).blocks hk).2.1
    rcases hk2 with e | e
    · have := (hrow.lt k e).1; omega
    · simp [Value.ownBlock] at e

theorem Ply.apart (h : Ply n₀ z bk T w f vp H) (P : Pair n₀ vh vr T) : Calls Tryz.prog 13 #[.pointer (some ⟨bk, 0, none⟩)] w fun e w' => e = .returned (.bool true) ∧ T w' f ∧ Gone w' (.pointer (some ⟨z, 0, none⟩)) ∧ Below n₀ w w' := by
  refine (apart_all h.bk h.ha h.ap).mono ?_
  rintro e w' ⟨he, hK⟩
  have hS : ∀ k, k < w.heap.size → (mineH H k ∨ vp.ownBlock = some k) → ∃ cur t, w.heap[k]? = some (.cells cur t (0, 0)) ∧ (t = 2 ∨ t = 58 ∨ t = 148) := by
    rintro k _ (⟨x, hx, hk⟩ | hk)
    · obtain ⟨_, _, _, cur, h3⟩ := (h.ha x hx).blocks hk
      exact ⟨cur, 2, h3, .inl rfl⟩
    · obtain ⟨_, _, cur, t, h3, h4⟩ := h.bk.blocks (.inr hk)
      exact ⟨cur, t, h3, .inr h4⟩
  obtain ⟨t', z'⟩ := h.other P hS hK
  refine ⟨he, t', .inr ⟨z, rfl, by rw [cell_of_row w' z 0 _ _ _ z']; rfl⟩, hK.below ?_ (Nat.le_trans h.bk.base (Nat.le_of_lt h.bk.lt))⟩
  rintro k (⟨x, hx, hk⟩ | hk)
  · exact ((h.ha x hx).blocks hk).1
  · exact (h.bk.blocks (.inr hk)).1
end

end Go.Proofs.YtampilfebmfhaaaGreatDoor
