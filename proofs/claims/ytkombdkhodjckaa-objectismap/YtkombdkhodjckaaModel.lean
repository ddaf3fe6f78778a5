/- The heap's calls, by the objects that it has. -/
import Derived.Test.YtkombdkhodjckaaInvMove
namespace Go.Proofs.Ytkombdkhodjckaa
open Go.RowKit

/-- The heap at block bh has the objects M, 'used' words of 'lim'. -/
def Hp (n₀ bh b : Nat) (vw vb : Value) (w : World) (lim used : Nat) (M : List Ob) : Prop :=
  ∃ A, IsHp n₀ bh b vw vb w A ∧ Inv A M ∧ A.limit = lim ∧ A.ws.length = used

variable {n₀ bh b lim used : Nat} {vw vb : Value} {w : World} {M : List Ob}

theorem Hp.below (h : Hp n₀ bh b vw vb w lim used M) {w' : World} (hB : Below w.heap.size w w') : Hp n₀ bh b vw vb w' lim used M := by
  obtain ⟨A, h1, h2, h3, h4⟩ := h; exact ⟨A, h1.below hB, h2, h3, h4⟩

theorem Hp.drewN (h : Hp n₀ bh b vw vb w lim used M) (q : Nat) : Hp n₀ bh b vw vb (w.drewN q) lim used M := by
  obtain ⟨A, h1, h2, h3, h4⟩ := h; exact ⟨A, h1.drewN q, h2, h3, h4⟩

theorem Hp.le (h : Hp n₀ bh b vw vb w lim used M) : used ≤ lim ∧ lim ≤ 1048576 := by
  obtain ⟨A, h1, h2, h3, h4⟩ := h; have := h2.le; have := h2.lim; omega

theorem Hp.lt (h : Hp n₀ bh b vw vb w lim used M) : n₀ ≤ w.heap.size := by
  obtain ⟨A, h1, _⟩ := h; exact Nat.le_trans h1.hbase (Nat.le_of_lt h1.hlt)

theorem Hp.stepBelow (h : Hp n₀ bh b vw vb w lim used M) {vw' vb' : Value} {w' : World} (hS : Step b vw vb w vw' vb' w') : Below n₀ w w' := by
  obtain ⟨A, h1, _⟩ := h; exact hS.below h1.ar

theorem Hp.srt (h : Hp n₀ bh b vw vb w lim used M) : Srt 0 M ∧ ∀ o ∈ M, o.end_ ≤ used := by
  obtain ⟨A, h1, h2, h3, h4⟩ := h; exact ⟨h2.srt, fun o ho => by rw [← h4]; exact h2.ins o ho⟩

/-- A world in which all of the heap's blocks are as they were has the heap. -/
theorem Hp.kept (h : Hp n₀ bh b vw vb w lim used M) {w' : World} (hk : ∀ k, (k = bh ∨ k = b ∨ vw.ownBlock = some k ∨ vb.ownBlock = some k) → w'.heap[k]? = w.heap[k]?) : Hp n₀ bh b vw vb w' lim used M := by
  obtain ⟨A, h1, h2⟩ := h
  exact ⟨A, ⟨h1.hbase, (hk bh (.inl rfl)).trans h1.hblk, h1.ar.kept (hk b (.inr (.inl rfl))) (fun k e => hk k (.inr (.inr (.inl e)))) (fun k e => hk k (.inr (.inr (.inr e))))⟩, h2⟩

theorem Hp.blocks (h : Hp n₀ bh b vw vb w lim used M) : ∀ k, (k = bh ∨ k = b ∨ vw.ownBlock = some k ∨ vb.ownBlock = some k) → n₀ ≤ k ∧ k < w.heap.size ∧ ∃ cur t, w.heap[k]? = some (.cells cur t (0, 0)) ∧ (t = 76 ∨ t = 86 ∨ t = 81 ∨ t = 4) := by
  obtain ⟨A, h1, h2⟩ := h
  rintro k (rfl | rfl | e | e)
  · exact ⟨h1.hbase, h1.hlt, _, _, h1.hblk, .inl rfl⟩
  · exact ⟨h1.ar.base, h1.ar.lt, _, _, h1.ar.blk, .inr (.inl rfl)⟩
  · obtain ⟨cur, hc⟩ := IsAr.row_type h1.ar.rw e
    exact ⟨(h1.ar.rw.lt k e).1, (h1.ar.rw.lt k e).2, cur, 81, hc, .inr (.inr (.inl rfl))⟩
  · obtain ⟨cur, hc⟩ := IsAr.row_type h1.ar.rb e
    exact ⟨(h1.ar.rb.lt k e).1, (h1.ar.rb.lt k e).2, cur, 4, hc, .inr (.inr (.inr rfl))⟩

theorem newM (n : Nat) (w : World) (h1 : 1 ≤ n) (h2 : n ≤ 1048576) : Calls Try.prog 20 #[.int .i64 n] w fun e w' => ∃ bh b vw vb, e = .returned (.tuple #[.pointer (some ⟨bh, 0, none⟩), .int .i64 0]) ∧
    Hp w.heap.size bh b vw vb w' n 0 [] ∧ Below w.heap.size w w' := by
  refine (new_in n w h1 h2).mono ?_
  rintro e w' ⟨bh, b, vw, vb, he, hp, hB⟩
  exact ⟨bh, b, vw, vb, he, ⟨_, hp, Inv.new n h2, rfl, rfl⟩, hB⟩

theorem usedM (h : Hp n₀ bh b vw vb w lim used M) : Calls Try.prog 8 #[.pointer (some ⟨bh, 0, none⟩)] w fun e w' => e = .returned (.int .i64 used) ∧ w' = w := by
  obtain ⟨A, h1, h2, h3, rfl⟩ := h; exact used_in h1

theorem wordsM (h : Hp n₀ bh b vw vb w lim used M) : Calls Try.prog 39 #[.pointer (some ⟨bh, 0, none⟩)] w fun e w' => e = .returned (.int .i64 lim) ∧ w' = w := by
  obtain ⟨A, h1, h2, rfl, h4⟩ := h; exact words_in h1

theorem lastlt {A : Ar} {M : List Ob} (h : Inv A M) : ∀ i, A.last = some i → i < A.ws.length := by
  intro i hi
  rw [h.last] at hi
  rcases lst_mem M none with e | ⟨o, ho, e⟩
  · rw [e] at hi; cases hi
  · rw [e] at hi; cases hi
    have := h.ins o ho; unfold Ob.end_ at this; omega

theorem allocM (h : Hp n₀ bh b vw vb w lim used M) (k size : Nat) (hk : 3 ≤ k) (hk8 : k ≤ 8) (hs : used + size + 1 ≤ lim) :
    Calls Try.prog 40 #[.pointer (some ⟨bh, 0, none⟩), .int .u8 k, .int .i64 size] w fun e w' => e = .returned (.tuple #[.int .i64 used, .int .i64 0]) ∧
      ∃ vw' vb', Hp n₀ bh b vw' vb' w' lim (used + size + 1) (M ++ [⟨used, k, List.replicate size 0⟩]) ∧ Step b vw vb w vw' vb' w' := by
  obtain ⟨A, h1, h2, rfl, rfl⟩ := h
  refine (alloc_ok h1 h2.len (lastlt h2) k size hk hk8 hs).mono ?_
  rintro e w' ⟨he, vw', vb', hp, hS⟩
  exact ⟨he, vw', vb', ⟨_, hp, h2.add k size ⟨hk, hk8⟩ hs, addA_limit _ _ _, addA_len _ _ _⟩, hS⟩

theorem allocM_full (h : Hp n₀ bh b vw vb w lim used M) (k : Nat) (size : Int) (hk : 3 ≤ k) (hk8 : k ≤ 8) (h0 : 0 ≤ size) (hs : (lim : Int) < used + size + 1) :
    Calls Try.prog 40 #[.pointer (some ⟨bh, 0, none⟩), .int .u8 k, .int .i64 size] w fun e w' => e = .returned (.tuple #[.int .i64 0, .int .i64 7]) ∧ ∃ q, w' = w.drewN q := by
  obtain ⟨A, h1, h2, rfl, rfl⟩ := h
  exact alloc_full h1 k size hk hk8 h0 hs

theorem allocM_bad (h : Hp n₀ bh b vw vb w lim used M) (k : Nat) (size : Int) (hk : k < 256) (hs : k < 3 ∨ 8 < k ∨ size < 0) :
    Calls Try.prog 40 #[.pointer (some ⟨bh, 0, none⟩), .int .u8 k, .int .i64 size] w fun e w' => e = .returned (.tuple #[.int .i64 0, .int .i64 1]) ∧ w' = w := by
  obtain ⟨A, h1, h2, rfl, rfl⟩ := h
  exact alloc_bad h1 k size hk hs

theorem Inv.has {A : Ar} {l r : List Ob} {o : Ob} (h : Inv A (l ++ o :: r)) : hasA A o.at_ = true := by
  unfold hasA
  simp only [Bool.and_eq_true, decide_eq_true_eq]
  exact ⟨by omega, by simpa using (h.mrk o.at_).2 ⟨o, by simp, rfl⟩⟩

theorem readM {l r : List Ob} {o : Ob} (h : Hp n₀ bh b vw vb w lim used (l ++ o :: r)) (i y : Nat) (hy : o.ws[i]? = some y) :
    Calls Try.prog 73 #[.pointer (some ⟨bh, 0, none⟩), .int .i64 o.at_, .int .i64 i] w fun e w' => e = .returned (.tuple #[.int .u64 y, .int .i64 0]) ∧ w' = w := by
  obtain ⟨A, h1, h2, rfl, rfl⟩ := h
  have hi : i < o.ws.length := (List.getElem?_eq_some_iff.1 hy).1
  have h20 := h2.lt20 (o := o) (by simp)
  have hc := h2.chn
  rw [Chain_append] at hc
  exact read_ok h1 h2.len o.at_ i _ y h2.has h2.head (by rw [size_headW (by unfold Ob.end_ at h20; omega)]; exact hi) (by rw [hc.2.2.1 i hi]; exact hy)

theorem writeM {l r : List Ob} {o : Ob} (h : Hp n₀ bh b vw vb w lim used (l ++ o :: r)) (i v : Nat) (hi : i < o.ws.length) (hv : v < 18446744073709551616) :
    Calls Try.prog 42 #[.pointer (some ⟨bh, 0, none⟩), .int .i64 o.at_, .int .i64 i, .int .u64 v] w fun e w' => e = .returned (.int .i64 0) ∧
      Hp n₀ bh b vw vb w' lim used (l ++ { o with ws := o.ws.set i v } :: r) ∧ Step b vw vb w vw vb w' := by
  obtain ⟨A, h1, h2, rfl, rfl⟩ := h
  have h20 := h2.lt20 (o := o) (by simp)
  have hin := h2.ins o (by simp)
  refine (write_ok h1 h2.len o.at_ i _ v h2.has h2.head (by rw [size_headW (by unfold Ob.end_ at h20; omega)]; exact hi) (by unfold Ob.end_ at hin; omega) hv).mono ?_
  rintro e w' ⟨he, hp, hS⟩
  exact ⟨he, ⟨_, hp, h2.write i v hi, rfl, by simp⟩, hS⟩

theorem sizeM {l r : List Ob} {o : Ob} (h : Hp n₀ bh b vw vb w lim used (l ++ o :: r)) :
    Calls Try.prog 72 #[.pointer (some ⟨bh, 0, none⟩), .int .i64 o.at_] w fun e w' => e = .returned (.tuple #[.int .i64 o.ws.length, .int .i64 0]) ∧ w' = w := by
  obtain ⟨A, h1, h2, rfl, rfl⟩ := h
  have h20 := h2.lt20 (o := o) (by simp)
  have := size_ok h1 h2.len o.at_ _ h2.has h2.head
  rw [size_headW (by unfold Ob.end_ at h20; omega)] at this
  exact this

theorem Srt.length_le : ∀ {M : List Ob} {lo n : Nat}, Srt lo M → (∀ o ∈ M, o.end_ ≤ n) → lo ≤ n → lo + M.length ≤ n
  | [], _, _, _, _, h => by simpa using h
  | o :: r, lo, n, ⟨h1, h2⟩, hin, _ => by
    have := Srt.length_le h2 (fun q hq => hin q (by simp [hq])) (hin o (by simp))
    unfold Ob.end_ at this
    simp; omega

theorem split_at {t : Nat} : ∀ {m : List Ob} {lo : Nat}, Srt lo m → ∃ l mid, m = l ++ mid ∧ (∀ q ∈ l, q.at_ < t) ∧ (∀ q ∈ mid, t ≤ q.at_)
  | [], _, _ => ⟨[], [], rfl, by simp, by simp⟩
  | o :: r, lo, h => by
    by_cases ho : o.at_ < t
    · obtain ⟨l, mid, e, h1, h2⟩ := split_at (t := t) h.2
      refine ⟨o :: l, mid, by rw [e]; rfl, ?_, h2⟩
      intro q hq
      rcases List.mem_cons.1 hq with rfl | hq
      · exact ho
      · exact h1 q hq
    · refine ⟨[], o :: r, rfl, by simp, ?_⟩
      intro q hq
      have hlo : Srt o.at_ (o :: r) := ⟨Nat.le_refl _, h.2⟩
      have := Srt.lo hlo q hq
      omega

theorem ends_le {l r : List Ob} {t : Nat} (hs : Srt 0 (l ++ r)) (he : (l.getLast?.map Ob.end_).getD 0 ≤ t) : ∀ q ∈ l, q.end_ ≤ t := by
  rcases snoc_cases l with rfl | ⟨l', z, rfl⟩
  · simp
  · simp at he
    intro q hq
    rcases List.mem_append.1 hq with hq | hq
    · rw [Srt_append] at hs
      have := Srt.apart hs.1 q hq z (by simp)
      unfold Ob.end_ at he; omega
    · simp at hq; subst hq; exact he

/-- Alloc, whatever is asked. -/
theorem alloc_any (h : Hp n₀ bh b vw vb w lim used M) (k : Nat) (size : Int) (hk : k < 256) :
    Calls Try.prog 40 #[.pointer (some ⟨bh, 0, none⟩), .int .u8 k, .int .i64 size] w fun e w' => (∃ v, e = .returned v) ∧
      ∃ vw' vb' used' M', Hp n₀ bh b vw' vb' w' lim used' M' ∧ Step b vw vb w vw' vb' w' := by
  by_cases hb : k < 3 ∨ 8 < k ∨ size < 0
  · refine (allocM_bad h k size hk hb).mono ?_
    rintro e w' ⟨he, rfl⟩
    exact ⟨⟨_, he⟩, vw, vb, used, M, h, Step.refl _ _ _ _⟩
  · obtain ⟨s, rfl⟩ : ∃ s : Nat, size = s := ⟨size.toNat, by omega⟩
    by_cases hf : used + s + 1 ≤ lim
    · refine (allocM h k s (by omega) (by omega) hf).mono ?_
      rintro e w' ⟨he, vw', vb', hp, hS⟩
      exact ⟨⟨_, he⟩, vw', vb', _, _, hp, hS⟩
    · refine (allocM_full h k s (by omega) (by omega) (by omega) (by omega)).mono ?_
      rintro e w' ⟨he, q, rfl⟩
      exact ⟨⟨_, he⟩, vw, vb, used, M, h.drewN q, ⟨rfl, rfl, rfl, Nat.le_refl _, fun _ _ _ _ _ => rfl, fun _ h => .inl h, fun _ h => .inl h⟩⟩

end Go.Proofs.Ytkombdkhodjckaa
