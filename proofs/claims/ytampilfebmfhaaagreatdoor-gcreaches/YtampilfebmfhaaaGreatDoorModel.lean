/- The heap's calls, by the objects that it has. -/
import Derived.Test.YtampilfebmfhaaaGreatDoorInvMove
namespace Go.Proofs.YtampilfebmfhaaaGreatDoor
open Go.RowKit

/-- The heap at block bh has the objects M, 'used' words of 'lim'. -/
def Hp (n₀ bh b : Nat) (vw vb : Value) (w : World) (lim used : Nat) (M : List Ob) : Prop :=
  ∃ A, IsHp n₀ bh b vw vb w A ∧ Inv A M ∧ A.limit = lim ∧ A.ws.length = used

variable {n₀ bh b lim used : Nat} {vw vb : Value} {w : World} {M : List Ob}

theorem Hp.below (h : Hp n₀ bh b vw vb w lim used M) {w' : World} (hB : Below w.heap.size w w') : Hp n₀ bh b vw vb w' lim used M := by
  obtain ⟨A, h1, h2, h3, h4⟩ := h; exact ⟨A, h1.below hB, h2, h3, h4⟩

theorem Hp.drewN (h : Hp n₀ bh b vw vb w lim used M) (q : Nat) : Hp n₀ bh b vw vb (w.drewN q) lim used M := by
  obtain ⟨A, h1, h2, h3, h4⟩ := h; exact ⟨A, h1.drewN q, h2, h3, h4⟩

theorem Hp.le (h : Hp n₀ bh b vw vb w lim used M) : used ≤ lim ∧ lim ≤ 1048576 := by
  obtain ⟨A, h1, h2, h3, h4⟩ := h; have := h2.le; have := h2.lim; omega

theorem Hp.lt (h : Hp n₀ bh b vw vb w lim used M) : n₀ ≤ w.heap.size := by
  obtain ⟨A, h1, _⟩ := h; exact Nat.le_trans h1.hbase (Nat.le_of_lt h1.hlt)

theorem Hp.stepBelow (h : Hp n₀ bh b vw vb w lim used M) {vw' vb' : Value} {w' : World} (hS : Step b vw vb w vw' vb' w') : Below n₀ w w' := by
  obtain ⟨A, h1, _⟩ := h; exact hS.below h1.ar

theorem Hp.srt (h : Hp n₀ bh b vw vb w lim used M) : Srt 0 M ∧ ∀ o ∈ M, o.end_ ≤ used := by
  obtain ⟨A, h1, h2, h3, h4⟩ := h; exact ⟨h2.srt, fun o ho => by rw [← h4]; exact h2.ins o ho⟩

/-- A world in which all of the heap's blocks are as they were has the heap. -/
theorem Hp.kept (h : Hp n₀ bh b vw vb w lim used M) {w' : World} (hk : ∀ k, (k = bh ∨ k = b ∨ vw.ownBlock = some k ∨ vb.ownBlock = some k) → w'.heap[k]? = w.heap[k]?) : Hp n₀ bh b vw vb w' lim used M := by
  obtain ⟨A, h1, h2⟩ := h
  exact ⟨A, ⟨h1.hbase, (hk bh (.inl rfl)).trans h1.hblk, h1.ar.kept (hk b (.inr (.inl rfl))) (fun k e => hk k (.inr (.inr (.inl e)))) (fun k e => hk k (.inr (.inr (.inr e))))⟩, h2⟩

theorem Hp.blocks (h : Hp n₀ bh b vw vb w lim used M) : ∀ k, (k = bh ∨ k = b ∨ vw.ownBlock = some k ∨ vb.ownBlock = some k) → n₀ ≤ k ∧ k < w.heap.size ∧ ∃ cur t, w.heap[k]? = some (.cells cur t (0, 0)) ∧ (t = 114 ∨ t = 137 ∨ t = 71 ∨ t = 4) := by
  obtain ⟨A, h1, h2⟩ := h
  rintro k (rfl | rfl | e | e)
  · exact ⟨h1.hbase, h1.hlt, _, _, h1.hblk, .inl rfl⟩
  · exact ⟨h1.ar.base, h1.ar.lt, _, _, h1.ar.blk, .inr (.inl rfl)⟩
  · obtain ⟨cur, hc⟩ := IsAr.row_type h1.ar.rw e
    exact ⟨(h1.ar.rw.lt k e).1, (h1.ar.rw.lt k e).2, cur, 71, hc, .inr (.inr (.inl rfl))⟩
  · obtain ⟨cur, hc⟩ := IsAr.row_type h1.ar.rb e
    exact ⟨(h1.ar.rb.lt k e).1, (h1.ar.rb.lt k e).2, cur, 4, hc, .inr (.inr (.inr rfl))⟩

theorem newM (n : Nat) (w : World) (h1 : 1 ≤ n) (h2 : n ≤ 1048576) : Calls Tryz.prog 18 #[.int .i64 n] w fun e w' => ∃ bh b vw vb, e = .returned (.tuple #[.pointer (some ⟨bh, 0, none⟩), .int .i64 0]) ∧
    Hp w.heap.size bh b vw vb w' n 0 [] ∧ Below w.heap.size w w' := by
  refine (new_in n w h1 h2).mono ?_
  rintro e w' ⟨bh, b, vw, vb, he, hp, hB⟩
  exact ⟨bh, b, vw, vb, he, ⟨_, hp, Inv.new n h2, rfl, rfl⟩, hB⟩

theorem usedM (h : Hp n₀ bh b vw vb w lim used M) : Calls Tryz.prog 26 #[.pointer (some ⟨bh, 0, none⟩)] w fun e w' => e = .returned (.int .i64 used) ∧ w' = w := by
  obtain ⟨A, h1, h2, h3, rfl⟩ := h; exact used_in h1

theorem wordsM (h : Hp n₀ bh b vw vb w lim used M) : Calls Tryz.prog 28 #[.pointer (some ⟨bh, 0, none⟩)] w fun e w' => e = .returned (.int .i64 lim) ∧ w' = w := by
  obtain ⟨A, h1, h2, rfl, h4⟩ := h; exact words_in h1

theorem lastlt {A : Ar} {M : List Ob} (h : Inv A M) : ∀ i, A.last = some i → i < A.ws.length := by
  intro i hi
  rw [h.last] at hi
  rcases lst_mem M none with e | ⟨o, ho, e⟩
  · rw [e] at hi; cases hi
  · rw [e] at hi; cases hi
    have := h.ins o ho; unfold Ob.end_ at this; omega

theorem allocM (h : Hp n₀ bh b vw vb w lim used M) (k size : Nat) (hk : 3 ≤ k) (hk8 : k ≤ 8) (hs : used + size + 1 ≤ lim) :
    Calls Tryz.prog 107 #[.pointer (some ⟨bh, 0, none⟩), .int .u8 k, .int .i64 size] w fun e w' => e = .returned (.tuple #[.int .i64 used, .int .i64 0]) ∧
      ∃ vw' vb', Hp n₀ bh b vw' vb' w' lim (used + size + 1) (M ++ [⟨used, k, List.replicate size 0⟩]) ∧ Step b vw vb w vw' vb' w' := by
  obtain ⟨A, h1, h2, rfl, rfl⟩ := h
  refine (alloc_ok h1 h2.len (lastlt h2) k size hk hk8 hs).mono ?_
  rintro e w' ⟨he, vw', vb', hp, hS⟩
  exact ⟨he, vw', vb', ⟨_, hp, h2.add k size ⟨hk, hk8⟩ hs, addA_limit _ _ _, addA_len _ _ _⟩, hS⟩

theorem allocM_full (h : Hp n₀ bh b vw vb w lim used M) (k : Nat) (size : Int) (hk : 3 ≤ k) (hk8 : k ≤ 8) (h0 : 0 ≤ size) (hs : (lim : Int) < used + size + 1) :
    Calls Tryz.prog 107 #[.pointer (some ⟨bh, 0, none⟩), .int .u8 k, .int .i64 size] w fun e w' => e = .returned (.tuple #[.int .i64 0, .int .i64 7]) ∧ ∃ q, w' = w.drewN q := by
  obtain ⟨A, h1, h2, rfl, rfl⟩ := h
  exact alloc_full h1 k size hk hk8 h0 hs

theorem allocM_bad (h : Hp n₀ bh b vw vb w lim used M) (k : Nat) (size : Int) (hk : k < 256) (hs : k < 3 ∨ 8 < k ∨ size < 0) :
    Calls Tryz.prog 107 #[.pointer (some ⟨bh, 0, none⟩), .int .u8 k, .int .i64 size] w fun e w' => e = .returned (.tuple #[.int .i64 0, .int .i64 1]) ∧ w' = w := by
  obtain ⟨A, h1, h2, rfl, rfl⟩ := h
  exact alloc_bad h1 k size hk hs

theorem Inv.has {A : Ar} {l r : List Ob} {o : Ob} (h : Inv A (l ++ o :: r)) : hasA A o.at_ = true := by
  unfold hasA
  simp only [Bool.and_eq_true, decide_eq_true_eq]
  exact ⟨by omega, by simpa using (h.mrk o.at_).2 ⟨o, by simp, rfl⟩⟩

theorem readM {l r : List Ob} {o : Ob} (h : Hp n₀ bh b vw vb w lim used (l ++ o :: r)) (i y : Nat) (hy : o.ws[i]? = some y) :
    Calls Tryz.prog 34 #[.pointer (some ⟨bh, 0, none⟩), .int .i64 o.at_, .int .i64 i] w fun e w' => e = .returned (.tuple #[.int .u64 y, .int .i64 0]) ∧ w' = w := by
  obtain ⟨A, h1, h2, rfl, rfl⟩ := h
  have hi : i < o.ws.length := (List.getElem?_eq_some_iff.1 hy).1
  have h20 := h2.lt20 (o := o) (by simp)
  have hc := h2.chn
  rw [Chain_append] at hc
  exact read_ok h1 h2.len o.at_ i _ y h2.has h2.head (by rw [size_headW (by unfold Ob.end_ at h20; omega)]; exact hi) (by rw [hc.2.2.1 i hi]; exact hy)

theorem writeM {l r : List Ob} {o : Ob} (h : Hp n₀ bh b vw vb w lim used (l ++ o :: r)) (i v : Nat) (hi : i < o.ws.length) (hv : v < 18446744073709551616) :
    Calls Tryz.prog 109 #[.pointer (some ⟨bh, 0, none⟩), .int .i64 o.at_, .int .i64 i, .int .u64 v] w fun e w' => e = .returned (.int .i64 0) ∧
      Hp n₀ bh b vw vb w' lim used (l ++ { o with ws := o.ws.set i v } :: r) ∧ Step b vw vb w vw vb w' := by
  obtain ⟨A, h1, h2, rfl, rfl⟩ := h
  have h20 := h2.lt20 (o := o) (by simp)
  have hin := h2.ins o (by simp)
  refine (write_ok h1 h2.len o.at_ i _ v h2.has h2.head (by rw [size_headW (by unfold Ob.end_ at h20; omega)]; exact hi) (by unfold Ob.end_ at hin; omega) hv).mono ?_
  rintro e w' ⟨he, hp, hS⟩
  exact ⟨he, ⟨_, hp, h2.write i v hi, rfl, by simp⟩, hS⟩

theorem sizeM {l r : List Ob} {o : Ob} (h : Hp n₀ bh b vw vb w lim used (l ++ o :: r)) :
    Calls Tryz.prog 33 #[.pointer (some ⟨bh, 0, none⟩), .int .i64 o.at_] w fun e w' => e = .returned (.tuple #[.int .i64 o.ws.length, .int .i64 0]) ∧ w' = w := by
  obtain ⟨A, h1, h2, rfl, rfl⟩ := h
  have h20 := h2.lt20 (o := o) (by simp)
  have := size_ok h1 h2.len o.at_ _ h2.has h2.head
  rw [size_headW (by unfold Ob.end_ at h20; omega)] at this
  exact this

theorem Srt.length_le : ∀ {M : List Ob} {lo n : Nat}, Srt lo M → (∀ o ∈ M, o.end_ ≤ n) → lo ≤ n → lo + M.length ≤ n
  | [], _, _, _, _, h => by simpa using h
  | o :: r, lo, n, ⟨h1, h2⟩, hin, _ => by
    have := Srt.length_le h2 (fun q hq => hin q (by simp [hq])) (hin o (by simp))
    unfold Ob.end_ at this
    simp; omega

theorem placesM (h : Hp n₀ bh b vw vb w lim used M) :
    Calls Tryz.prog 30 #[.pointer (some ⟨bh, 0, none⟩)] w fun e W' => ∃ p c, e = .returned (.slice p M.length c) ∧
      W'.ownsRow w.heap.size 2 1 (.slice p M.length c) M.length (M.map (fun o => pv o.at_)) ∧ Below w.heap.size w W' := by
  obtain ⟨A, h1, h2, rfl, rfl⟩ := h
  have hl := Srt.length_le h2.srt h2.ins (Nat.zero_le _)
  have hle := h2.le
  have hlim := h2.lim
  refine (places_in h1 _ h2.back (by simp; omega)).mono ?_
  rintro e W' ⟨p, c, he, hr, hB⟩
  refine ⟨p, c, by simpa using he, ?_, hB⟩
  simpa [Function.comp_def] using hr

theorem split_at {t : Nat} : ∀ {m : List Ob} {lo : Nat}, Srt lo m → ∃ l mid, m = l ++ mid ∧ (∀ q ∈ l, q.at_ < t) ∧ (∀ q ∈ mid, t ≤ q.at_)
  | [], _, _ => ⟨[], [], rfl, by simp, by simp⟩
  | o :: r, lo, h => by
    by_cases ho : o.at_ < t
    · obtain ⟨l, mid, e, h1, h2⟩ := split_at (t := t) h.2
      refine ⟨o :: l, mid, by rw [e]; rfl, ?_, h2⟩
      intro q hq
      rcases List.mem_cons.1 hq with rfl | hq
      · exact ho
      · exact h1 q hq
    · refine ⟨[], o :: r, rfl, by simp, ?_⟩
      intro q hq
      have hlo : Srt o.at_ (o :: r) := ⟨Nat.le_refl _, h.2⟩
      have := Srt.lo hlo q hq
      omega

theorem ends_le {l r : List Ob} {t : Nat} (hs : Srt 0 (l ++ r)) (he : (l.getLast?.map Ob.end_).getD 0 ≤ t) : ∀ q ∈ l, q.end_ ≤ t := by
  rcases snoc_cases l with rfl | ⟨l', z, rfl⟩
  · simp
  · simp at he
    intro q hq
    rcases List.mem_append.1 hq with hq | hq
    · rw [Srt_append] at hs
      have := Srt.apart hs.1 q hq z (by simp)
      unfold Ob.end_ at he; omega
    · simp at hq; subst hq; exact he

/-- Move: to a place that lies behind all of l, and ahead of mid and the object itself. -/
theorem moveM {l mid r : List Ob} {o : Ob} (h : Hp n₀ bh b vw vb w lim used (l ++ mid ++ o :: r)) (t : Nat) (hl : ∀ q ∈ l, q.end_ ≤ t) (hm : ∀ q ∈ mid, t ≤ q.at_) (ht : t ≤ o.at_) :
    Calls Tryz.prog 111 #[.pointer (some ⟨bh, 0, none⟩), .int .i64 o.at_, .int .i64 t] w fun e w' => e = .returned (.int .i64 0) ∧
      Hp n₀ bh b vw vb w' lim used (l ++ { o with at_ := t } :: r) ∧ Step b vw vb w vw vb w' := by
  obtain ⟨A, h1, h2, rfl, rfl⟩ := h
  have h20 := h2.lt20 (o := o) (by simp)
  have hin := h2.ins o (by simp)
  have hla : ∀ q ∈ l, q.at_ < t := fun q hq => by have := hl q hq; unfold Ob.end_ at this; omega
  have hback := h2.back_at
  have hf : (o.at_ :: ((l ++ mid).map Ob.at_).reverse).find? (fun y => decide (y < t)) = lst none l := by
    have := find_split (l := l) (t := t) (pre := o.at_ :: (mid.map Ob.at_).reverse) hla (by
      intro y hy
      rcases List.mem_cons.1 hy with rfl | hy
      · omega
      · rw [List.mem_reverse] at hy; obtain ⟨q, hq, rfl⟩ := List.mem_map.1 hy; have := hm q hq; omega)
    simpa using this
  have hE : YtampilfebmfhaaaGreatDoor.endAt A (lst none l) ≤ t := by
    have h2' : Inv A (l ++ (mid ++ o :: r)) := by simpa using h2
    rw [h2'.endAt]
    exact Srt.end_le hl
  have hp0 := encP_lt h2.encP (by unfold Ob.end_ at h20; omega)
  have hsz := size_headW (o := o) (p := lst none (l ++ mid)) (n := hd none r) (by unfold Ob.end_ at h20; omega)
  have hnx : ∀ j, hd none r = some j → o.end_ ≤ j ∧ j < A.ws.length := by
    intro j hj
    cases r with
    | nil => cases hj
    | cons q' r' =>
      cases hj
      have a1 := h2.ins q' (by simp)
      have a2 := Srt.apart (l := (l ++ mid) ++ [o]) (r := q' :: r') (by simpa using h2.srt) o (by simp) q' (by simp)
      unfold Ob.end_ at *; omega
  have hle := h2.le
  have hlim := h2.lim
  refine (moveH_ok h1 h2.len o.at_ t _ h2.has h2.head ht _ hback (by rw [hf]; exact hE) (by rw [hsz]; exact hin) ?_).mono ?_
  · intro j hj
    rw [bhd_headW (by unfold Ob.end_ at h20; omega) hp0 (fun j hj => by have := hnx j hj; unfold Ob.end_ at this; omega)] at hj
    have := hnx j hj; unfold Ob.end_ at this; omega
  · rintro e w' ⟨he, hp, hS⟩
    rw [hf] at hp
    obtain ⟨i1, i2⟩ := h2.move t hl hm ht
    exact ⟨he, ⟨_, hp, i1, by simp [moveA, tieA_limit], i2⟩, hS⟩

/-- Cut: at a place that lies behind all of l and ahead of r. -/
theorem cutM {l r : List Ob} (h : Hp n₀ bh b vw vb w lim used (l ++ r)) (t : Nat) (hl : ∀ q ∈ l, q.end_ ≤ t) (hr : ∀ q ∈ r, t ≤ q.at_) (ht : t ≤ used) :
    Calls Tryz.prog 99 #[.pointer (some ⟨bh, 0, none⟩), .int .i64 t] w fun e w' => e = .returned (.int .i64 0) ∧
      ∃ vw' vb', Hp n₀ bh b vw' vb' w' lim t l ∧ Step b vw vb w vw' vb' w' := by
  obtain ⟨A, h1, h2, rfl, rfl⟩ := h
  have hla : ∀ q ∈ l, q.at_ < t := fun q hq => by have := hl q hq; unfold Ob.end_ at this; omega
  have hf : (((l ++ r).map Ob.at_).reverse).find? (fun y => decide (y < t)) = lst none l := by
    have := find_split (l := l) (t := t) (pre := (r.map Ob.at_).reverse) hla (by
      intro y hy
      rw [List.mem_reverse] at hy; obtain ⟨q, hq, rfl⟩ := List.mem_map.1 hy; have := hr q hq; omega)
    simpa using this
  have hE : YtampilfebmfhaaaGreatDoor.endAt A (lst none l) ≤ t := by
    rw [h2.endAt]; exact Srt.end_le hl
  refine (cutH_ok h1 h2.len t ht _ h2.back (by rw [hf]; exact hE)).mono ?_
  rintro e w' ⟨he, vw', vb', hp, hS⟩
  rw [hf] at hp
  exact ⟨he, vw', vb', ⟨_, hp, h2.cut t hl hr ht, by simp [cutA, tieA_limit], cutA_len _ _ _ ht⟩, hS⟩

/-- Alloc, whatever is asked. -/
theorem alloc_any (h : Hp n₀ bh b vw vb w lim used M) (k : Nat) (size : Int) (hk : k < 256) :
    Calls Tryz.prog 107 #[.pointer (some ⟨bh, 0, none⟩), .int .u8 k, .int .i64 size] w fun e w' => (∃ v, e = .returned v) ∧
      ∃ vw' vb' used' M', Hp n₀ bh b vw' vb' w' lim used' M' ∧ Step b vw vb w vw' vb' w' := by
  by_cases hb : k < 3 ∨ 8 < k ∨ size < 0
  · refine (allocM_bad h k size hk hb).mono ?_
    rintro e w' ⟨he, rfl⟩
    exact ⟨⟨_, he⟩, vw, vb, used, M, h, Step.refl _ _ _ _⟩
  · obtain ⟨s, rfl⟩ : ∃ s : Nat, size = s := ⟨size.toNat, by omega⟩
    by_cases hf : used + s + 1 ≤ lim
    · refine (allocM h k s (by omega) (by omega) hf).mono ?_
      rintro e w' ⟨he, vw', vb', hp, hS⟩
      exact ⟨⟨_, he⟩, vw', vb', _, _, hp, hS⟩
    · refine (allocM_full h k s (by omega) (by omega) (by omega) (by omega)).mono ?_
      rintro e w' ⟨he, q, rfl⟩
      exact ⟨⟨_, he⟩, vw, vb, used, M, h.drewN q, ⟨rfl, rfl, rfl, Nat.le_refl _, fun _ _ _ _ _ => rfl, fun _ h => .inl h, fun _ h => .inl h⟩⟩

/-- Move, whatever is asked. -/
theorem move_any (h : Hp n₀ bh b vw vb w lim used M) (i t : Int) :
    Calls Tryz.prog 111 #[.pointer (some ⟨bh, 0, none⟩), .int .i64 i, .int .i64 t] w fun e w' => (∃ v, e = .returned v) ∧
      ∃ vw' vb' used' M', Hp n₀ bh b vw' vb' w' lim used' M' ∧ Step b vw vb w vw' vb' w' := by
  obtain ⟨A, h1, h2, h3, h4⟩ := h
  have h : Hp n₀ bh b vw vb w lim used M := ⟨A, h1, h2, h3, h4⟩
  cases hi : hasA A i with
  | false =>
    refine (moveH_none h1 h2.len i t hi).mono ?_
    rintro e w' ⟨he, rfl⟩
    exact ⟨⟨_, he⟩, vw, vb, used, M, h, Step.refl _ _ _ _⟩
  | true =>
    by_cases ht : t < 0 ∨ i < t
    · refine (moveH_out h1 h2.len i t hi ht).mono ?_
      rintro e w' ⟨he, rfl⟩
      exact ⟨⟨_, he⟩, vw, vb, used, M, h, Step.refl _ _ _ _⟩
    · obtain ⟨j, rfl, hj, hjm⟩ := hasA_lt h2.len hi
      obtain ⟨s, rfl⟩ : ∃ s : Nat, t = s := ⟨t.toNat, by omega⟩
      obtain ⟨o, ho, rfl⟩ := (h2.mrk j).1 (by simp [List.getD, hjm])
      obtain ⟨m1, r, rfl⟩ := List.append_of_mem ho
      have hs := h2.srt
      rw [Srt_append] at hs
      obtain ⟨l, mid, rfl, hl, hm⟩ := split_at (t := s) hs.1
      have h2' : Inv A (l ++ (mid ++ o :: r)) := by simpa using h2
      have hf : (o.at_ :: ((l ++ mid).map Ob.at_).reverse).find? (fun y => decide (y < s)) = lst none l := by
        have := find_split (l := l) (t := s) (pre := o.at_ :: (mid.map Ob.at_).reverse) hl (by
          intro y hy
          rcases List.mem_cons.1 hy with rfl | hy
          · omega
          · rw [List.mem_reverse] at hy; obtain ⟨q, hq, rfl⟩ := List.mem_map.1 hy; have := hm q hq; omega)
        simpa using this
      by_cases hE : YtampilfebmfhaaaGreatDoor.endAt A (lst none l) ≤ s
      · rw [h2'.endAt] at hE
        refine (moveM h s (ends_le h2'.srt hE) hm (by omega)).mono ?_
        rintro e w' ⟨he, hp, hS⟩
        exact ⟨⟨_, he⟩, vw, vb, _, _, hp, hS⟩
      · refine (moveH_within h1 h2.len o.at_ s h2.has (by omega) _ h2.back_at (by rw [hf]; omega)).mono ?_
        rintro e w' ⟨he, hB⟩
        exact ⟨⟨_, he⟩, vw, vb, _, _, h.below hB, Step.of_below hB⟩

/-- Cut, whatever is asked. -/
theorem cut_any (h : Hp n₀ bh b vw vb w lim used M) (t : Int) :
    Calls Tryz.prog 99 #[.pointer (some ⟨bh, 0, none⟩), .int .i64 t] w fun e w' => (∃ v, e = .returned v) ∧
      ∃ vw' vb' used' M', Hp n₀ bh b vw' vb' w' lim used' M' ∧ Step b vw vb w vw' vb' w' := by
  obtain ⟨A, h1, h2, h3, h4⟩ := h
  have h : Hp n₀ bh b vw vb w lim used M := ⟨A, h1, h2, h3, h4⟩
  by_cases ht : t < 0 ∨ (A.ws.length : Int) < t
  · refine (cutH_out h1 t ht).mono ?_
    rintro e w' ⟨he, rfl⟩
    exact ⟨⟨_, he⟩, vw, vb, used, M, h, Step.refl _ _ _ _⟩
  · obtain ⟨s, rfl⟩ : ∃ s : Nat, t = s := ⟨t.toNat, by omega⟩
    obtain ⟨l, r, rfl, hl, hr⟩ := split_at (t := s) h2.srt
    have hf : (((l ++ r).map Ob.at_).reverse).find? (fun y => decide (y < s)) = lst none l := by
      have := find_split (l := l) (t := s) (pre := (r.map Ob.at_).reverse) hl (by
        intro y hy
        rw [List.mem_reverse] at hy; obtain ⟨q, hq, rfl⟩ := List.mem_map.1 hy; have := hr q hq; omega)
      simpa using this
    by_cases hE : YtampilfebmfhaaaGreatDoor.endAt A (lst none l) ≤ s
    · rw [h2.endAt] at hE
      refine (cutM h s (ends_le h2.srt hE) hr (by omega)).mono ?_
      rintro e w' ⟨he, vw', vb', hp, hS⟩
      exact ⟨⟨_, he⟩, vw', vb', _, _, hp, hS⟩
    · refine (cutH_within h1 s (by omega) _ h2.back (by rw [hf]; omega)).mono ?_
      rintro e w' ⟨he, hB⟩
      exact ⟨⟨_, he⟩, vw, vb, _, _, h.below hB, Step.of_below hB⟩

end Go.Proofs.YtampilfebmfhaaaGreatDoor
