/- A heap that is not there, and the document's; what Move may not. -/
import Derived.Test.YtkombdkhodjckaaGreatRefMove
namespace Go.Proofs.YtkombdkhodjckaaGreat
open Go.RowKit

variable {n₀ br all en : Nat} {vo : Value} {w : World} {R : List (Ob × Value)}

/-- A heap that is not there: nil, or one that New did not make. -/
def Gone (w : World) (v : Value) : Prop := v = .pointer none ∨ ∃ z, v = .pointer (some ⟨z, 0, none⟩) ∧ w.cell? ⟨z, 0, none⟩ = some (.pointer none)

variable {v : Value}

set_option maxHeartbeats 400000 in
theorem there_gone (h : Gone w v) : Calls Tryz.prog 40 #[v] w fun e w' => e = .returned (.pointer none) ∧ w' = w := by
  rcases h with rfl | ⟨z, rfl, hz⟩
  · go_enter Tryz.func40, Tryz.ntmps40
    go_wp2
    go_ret
    exact ⟨rfl, rfl⟩
  · go_enter Tryz.func40, Tryz.ntmps40
    go_wp2
    go_ret
    exact ⟨rfl, rfl⟩

set_option maxHeartbeats 400000 in
theorem galloc (h : Gone w v) (k : Nat) (size : Int) : Calls Tryz.prog 53 #[v, .int .u8 k, .int .i64 size] w fun e w' => e = .returned (.tuple #[.int .i64 0, .int .i64 2]) ∧ w' = w := by
  have a := there_gone h
  clear h
  go_enter Tryz.func53, Tryz.ntmps53
  go_wp2_with (go_at_call 40; refine a.mono ?_; clear a; rintro e w' ⟨rfl, rfl⟩)
  go_ret2
  exact ⟨rfl, rfl⟩

set_option maxHeartbeats 400000 in
theorem gfind (h : Gone w v) (i : Int) : Calls Tryz.prog 109 #[v, .int .i64 i] w fun e w' => e = .returned (.tuple #[.pointer none, .int .i64 2]) ∧ w' = w := by
  have a := there_gone h
  clear h
  go_enter Tryz.func109, Tryz.ntmps109
  go_wp2_with (go_at_call 40; refine a.mono ?_; clear a; rintro e w' ⟨rfl, rfl⟩)
  go_ret2
  exact ⟨rfl, rfl⟩

set_option maxHeartbeats 400000 in
theorem gword (h : Gone w v) (i j : Int) : Calls Tryz.prog 93 #[v, .int .i64 i, .int .i64 j] w fun e w' => e = .returned (.tuple #[.pointer none, .int .i64 2]) ∧ w' = w := by
  have a := gfind h i
  clear h
  go_enter Tryz.func93, Tryz.ntmps93
  go_wp2_with (go_at_call 109; refine a.mono ?_; clear a; rintro e w' ⟨rfl, rfl⟩)
  go_ret2
  exact ⟨rfl, rfl⟩

set_option maxHeartbeats 400000 in
theorem gread (h : Gone w v) (i j : Int) : Calls Tryz.prog 115 #[v, .int .i64 i, .int .i64 j] w fun e w' => e = .returned (.tuple #[.int .u64 0, .int .i64 2]) ∧ w' = w := by
  have a := gword h i j
  clear h
  go_enter Tryz.func115, Tryz.ntmps115
  go_wp2_with (go_at_call 93; refine a.mono ?_; clear a; rintro e w' ⟨rfl, rfl⟩)
  go_ret2
  exact ⟨rfl, rfl⟩

set_option maxHeartbeats 400000 in
theorem gwrite (h : Gone w v) (i j x : Int) : Calls Tryz.prog 54 #[v, .int .i64 i, .int .i64 j, .int .u64 x] w fun e w' => e = .returned (.int .i64 2) ∧ w' = w := by
  have a := gword h i j
  clear h
  go_enter Tryz.func54, Tryz.ntmps54
  go_wp2_with (go_at_call 93; refine a.mono ?_; clear a; rintro e w' ⟨rfl, rfl⟩)
  go_ret
  exact ⟨rfl, rfl⟩

set_option maxHeartbeats 400000 in
theorem gkind (h : Gone w v) (i : Int) : Calls Tryz.prog 101 #[v, .int .i64 i] w fun e w' => e = .returned (.tuple #[.int .u8 0, .int .i64 2]) ∧ w' = w := by
  have a := gfind h i
  clear h
  go_enter Tryz.func101, Tryz.ntmps101
  go_wp2_with (go_at_call 109; refine a.mono ?_; clear a; rintro e w' ⟨rfl, rfl⟩)
  go_ret2
  exact ⟨rfl, rfl⟩

set_option maxHeartbeats 400000 in
theorem gsize (h : Gone w v) (i : Int) : Calls Tryz.prog 98 #[v, .int .i64 i] w fun e w' => e = .returned (.tuple #[.int .i64 0, .int .i64 2]) ∧ w' = w := by
  have a := gfind h i
  clear h
  go_enter Tryz.func98, Tryz.ntmps98
  go_wp2_with (go_at_call 109; refine a.mono ?_; clear a; rintro e w' ⟨rfl, rfl⟩)
  go_ret2
  exact ⟨rfl, rfl⟩

set_option maxHeartbeats 400000 in
theorem gmove (h : Gone w v) (i t : Int) : Calls Tryz.prog 81 #[v, .int .i64 i, .int .i64 t] w fun e w' => e = .returned (.int .i64 2) ∧ w' = w := by
  have a := gfind h i
  clear h
  go_enter Tryz.func81, Tryz.ntmps81
  go_wp2_with (go_at_call 109; refine a.mono ?_; clear a; rintro e w' ⟨rfl, rfl⟩)
  go_ret
  exact ⟨rfl, rfl⟩

set_option maxHeartbeats 400000 in
theorem gcut (h : Gone w v) (t : Int) : Calls Tryz.prog 38 #[v, .int .i64 t] w fun e w' => e = .returned (.int .i64 2) ∧ w' = w := by
  have a := there_gone h
  clear h
  go_enter Tryz.func38, Tryz.ntmps38
  go_wp2_with (go_at_call 40; refine a.mono ?_; clear a; rintro e w' ⟨rfl, rfl⟩)
  go_ret
  exact ⟨rfl, rfl⟩

set_option maxHeartbeats 400000 in
theorem gused (h : Gone w v) : Calls Tryz.prog 13 #[v] w fun e w' => e = .returned (.int .i64 0) ∧ w' = w := by
  have a := there_gone h
  clear h
  go_enter Tryz.func13, Tryz.ntmps13
  go_wp2_with (go_at_call 40; refine a.mono ?_; clear a; rintro e w' ⟨rfl, rfl⟩)
  go_ret
  exact ⟨rfl, rfl⟩

set_option maxHeartbeats 400000 in
theorem gwords (h : Gone w v) : Calls Tryz.prog 49 #[v] w fun e w' => e = .returned (.int .i64 0) ∧ w' = w := by
  have a := there_gone h
  clear h
  go_enter Tryz.func49, Tryz.ntmps49
  go_wp2_with (go_at_call 40; refine a.mono ?_; clear a; rintro e w' ⟨rfl, rfl⟩)
  go_ret
  exact ⟨rfl, rfl⟩

end Go.Proofs.YtkombdkhodjckaaGreat

namespace Go.Proofs.YtkombdkhodjckaaGreat
open Go.RowKit

variable {n₀ bh b lim used : Nat} {vw vb : Value} {w : World} {M : List Ob} {A : Ar}

set_option maxHeartbeats 1000000 in
theorem kind_ok (h : IsHp n₀ bh b vw vb w A) (hl : A.bs.length = A.ws.length) (j x : Nat) (hj : hasA A j = true) (hx : A.ws[j]? = some x) (hk : fld x 3 < 256) :
    Calls Tryz.prog 101 #[.pointer (some ⟨bh, 0, none⟩), .int .i64 j] w fun e w' => e = .returned (.tuple #[.int .u8 (fld x 3), .int .i64 0]) ∧ w' = w := by
  have h1 := find_yes h hl j hj
  have h2 := field_in h.ar j x 3 hx (by omega)
  clear h hl hj hx
  obtain ⟨y, hy⟩ : ∃ y, fld x 3 = y := ⟨_, rfl⟩
  rw [hy] at h2 hk ⊢
  clear hy
  go_enter Tryz.func101, Tryz.ntmps101
  go_wp2_with (first
    | (go_at_call 109; refine h1.mono ?_; clear h1; rintro e w' ⟨rfl, rfl⟩)
    | (go_at_call 112; refine h2.mono ?_; clear h2; rintro e w' ⟨rfl, rfl⟩))
  go_ret2
  refine ⟨?_, rfl⟩
  simp

set_option maxHeartbeats 1000000 in
theorem kind_err (h : IsHp n₀ bh b vw vb w A) (hl : A.bs.length = A.ws.length) (j : Int) (hj : hasA A j = false) :
    Calls Tryz.prog 101 #[.pointer (some ⟨bh, 0, none⟩), .int .i64 j] w fun e w' => e = .returned (.tuple #[.int .u8 0, .int .i64 1]) ∧ w' = w := by
  have h1 := find_no h hl j hj
  clear h hl hj
  go_enter Tryz.func101, Tryz.ntmps101
  go_wp2_with (first
    | (go_at_call 109; refine h1.mono ?_; clear h1; rintro e w' ⟨rfl, rfl⟩))
  go_ret2
  exact ⟨rfl, rfl⟩

theorem hasA_none (h : Inv A M) (i : Int) (hi : ∀ o ∈ M, (o.at_ : Int) ≠ i) : hasA A i = false := by
  cases e : hasA A i with
  | false => rfl
  | true =>
    obtain ⟨j, rfl, hj, hjm⟩ := hasA_lt h.len e
    obtain ⟨o, ho, e'⟩ := (h.mrk j).1 (by simp [List.getD, hjm])
    exact (hi o ho (by omega)).elim

theorem hasW_out {l r : List Ob} {o : Ob} (h : Inv A (l ++ o :: r)) (i : Int) (hi : i < 0 ∨ (o.ws.length : Int) ≤ i) : hasW A o.at_ i = false := by
  have h20 := h.lt20 (o := o) (by simp)
  have hh := h.head
  unfold hasW
  have e : A.ws.getD (o.at_ : Int).toNat 0 = headW o (lst none l) (hd none r) := by simp [List.getD, hh]
  rw [e, size_headW (by unfold Ob.end_ at h20; omega)]
  rcases hi with hi | hi
  · have : ¬ 0 ≤ i := by omega
    simp [this]
  · have : ¬ i < (o.ws.length : Int) := by omega
    simp [this]

theorem kindM {l r : List Ob} {o : Ob} (h : Hp n₀ bh b vw vb w lim used (l ++ o :: r)) :
    Calls Tryz.prog 101 #[.pointer (some ⟨bh, 0, none⟩), .int .i64 o.at_] w fun e w' => e = .returned (.tuple #[.int .u8 o.kind, .int .i64 0]) ∧ w' = w := by
  obtain ⟨A, h1, h2, rfl, rfl⟩ := h
  have h20 := h2.lt20 (o := o) (by simp)
  have hk := h2.knd o (by simp)
  have hp0 := encP_lt h2.encP (by unfold Ob.end_ at h20; omega)
  have e : fld (headW o (lst none l) (hd none r)) 3 = o.kind := by
    unfold headW
    rw [fld3 (by unfold Ob.end_ at h20; omega) hp0 ?_ (by omega)]
    cases r with
    | nil => simp [hd]
    | cons q r' =>
      have := h2.lt20 (o := q) (by simp)
      unfold Ob.end_ at this
      simp [hd]; omega
  have := kind_ok h1 h2.len o.at_ _ h2.has h2.head (by rw [e]; omega)
  rw [e] at this
  exact this

theorem kindM_none (h : Hp n₀ bh b vw vb w lim used M) (i : Int) (hi : ∀ o ∈ M, (o.at_ : Int) ≠ i) :
    Calls Tryz.prog 101 #[.pointer (some ⟨bh, 0, none⟩), .int .i64 i] w fun e w' => e = .returned (.tuple #[.int .u8 0, .int .i64 1]) ∧ w' = w := by
  obtain ⟨A, h1, h2, rfl, rfl⟩ := h
  exact kind_err h1 h2.len i (hasA_none h2 i hi)

theorem sizeM_none (h : Hp n₀ bh b vw vb w lim used M) (i : Int) (hi : ∀ o ∈ M, (o.at_ : Int) ≠ i) :
    Calls Tryz.prog 98 #[.pointer (some ⟨bh, 0, none⟩), .int .i64 i] w fun e w' => e = .returned (.tuple #[.int .i64 0, .int .i64 1]) ∧ w' = w := by
  obtain ⟨A, h1, h2, rfl, rfl⟩ := h
  exact size_err h1 h2.len i (hasA_none h2 i hi)

theorem readM_none (h : Hp n₀ bh b vw vb w lim used M) (i j : Int) (hi : ∀ o ∈ M, (o.at_ : Int) ≠ i) :
    Calls Tryz.prog 115 #[.pointer (some ⟨bh, 0, none⟩), .int .i64 i, .int .i64 j] w fun e w' => e = .returned (.tuple #[.int .u64 0, .int .i64 1]) ∧ w' = w := by
  obtain ⟨A, h1, h2, rfl, rfl⟩ := h
  exact read_err h1 h2.len i j (by simp [hasW, hasA_none h2 i hi])

theorem writeM_none (h : Hp n₀ bh b vw vb w lim used M) (i j x : Int) (hi : ∀ o ∈ M, (o.at_ : Int) ≠ i) :
    Calls Tryz.prog 54 #[.pointer (some ⟨bh, 0, none⟩), .int .i64 i, .int .i64 j, .int .u64 x] w fun e w' => e = .returned (.int .i64 1) ∧ w' = w := by
  obtain ⟨A, h1, h2, rfl, rfl⟩ := h
  exact write_err h1 h2.len i j x (by simp [hasW, hasA_none h2 i hi])

theorem readM_out {l r : List Ob} {o : Ob} (h : Hp n₀ bh b vw vb w lim used (l ++ o :: r)) (j : Int) (hj : j < 0 ∨ (o.ws.length : Int) ≤ j) :
    Calls Tryz.prog 115 #[.pointer (some ⟨bh, 0, none⟩), .int .i64 o.at_, .int .i64 j] w fun e w' => e = .returned (.tuple #[.int .u64 0, .int .i64 1]) ∧ w' = w := by
  obtain ⟨A, h1, h2, rfl, rfl⟩ := h
  exact read_err h1 h2.len o.at_ j (hasW_out h2 j hj)

theorem writeM_out {l r : List Ob} {o : Ob} (h : Hp n₀ bh b vw vb w lim used (l ++ o :: r)) (j x : Int) (hj : j < 0 ∨ (o.ws.length : Int) ≤ j) :
    Calls Tryz.prog 54 #[.pointer (some ⟨bh, 0, none⟩), .int .i64 o.at_, .int .i64 j, .int .u64 x] w fun e w' => e = .returned (.int .i64 1) ∧ w' = w := by
  obtain ⟨A, h1, h2, rfl, rfl⟩ := h
  exact write_err h1 h2.len o.at_ j x (hasW_out h2 j hj)

theorem moveM_none (h : Hp n₀ bh b vw vb w lim used M) (i t : Int) (hi : ∀ o ∈ M, (o.at_ : Int) ≠ i) :
    Calls Tryz.prog 81 #[.pointer (some ⟨bh, 0, none⟩), .int .i64 i, .int .i64 t] w fun e w' => e = .returned (.int .i64 1) ∧ w' = w := by
  obtain ⟨A, h1, h2, rfl, rfl⟩ := h
  exact moveH_none h1 h2.len i t (hasA_none h2 i hi)

theorem moveM_out {l r : List Ob} {o : Ob} (h : Hp n₀ bh b vw vb w lim used (l ++ o :: r)) (t : Int) (ht : t < 0 ∨ (o.at_ : Int) < t) :
    Calls Tryz.prog 81 #[.pointer (some ⟨bh, 0, none⟩), .int .i64 o.at_, .int .i64 t] w fun e w' => e = .returned (.int .i64 1) ∧ w' = w := by
  obtain ⟨A, h1, h2, rfl, rfl⟩ := h
  exact moveH_out h1 h2.len o.at_ t h2.has ht

theorem cutM_out (h : Hp n₀ bh b vw vb w lim used M) (t : Int) (ht : t < 0 ∨ (used : Int) < t) :
    Calls Tryz.prog 38 #[.pointer (some ⟨bh, 0, none⟩), .int .i64 t] w fun e w' => e = .returned (.int .i64 1) ∧ w' = w := by
  obtain ⟨A, h1, h2, rfl, rfl⟩ := h
  exact cutH_out h1 t ht

/-- Has an object that begins ahead of a word that word? -/
def inOb (t : Nat) (o : Ob) : Bool := decide (o.at_ < t ∧ t < o.end_)

theorem lst_end {l : List Ob} {r : List Ob} (hs : Srt 0 (l ++ r)) {t : Nat} (hl : ∀ q ∈ l, q.at_ < t) (hr : ∀ q ∈ r, t ≤ q.at_) : ((l ++ r).any (inOb t) = true ↔ t < (l.getLast?.map Ob.end_).getD 0) ∧ ((l ++ r).any (inOb t) = false → ∀ q ∈ l, q.end_ ≤ t) := by
  have hno : (l ++ r).any (inOb t) = false → ∀ q ∈ l, q.end_ ≤ t := by
    intro h q hq
    have := (List.any_eq_false.1 h) q (by simp [hq])
    simp [inOb] at this
    exact this (hl q hq)
  refine ⟨⟨?_, ?_⟩, hno⟩
  · intro h
    by_cases hE : (l.getLast?.map Ob.end_).getD 0 ≤ t
    · obtain ⟨q, hq, hq2⟩ := List.any_eq_true.1 h
      simp [inOb] at hq2
      rcases List.mem_append.1 hq with hq | hq
      · have := ends_le hs hE q hq; omega
      · have := hr q hq; omega
    · omega
  · intro h
    cases e : (l ++ r).any (inOb t) with
    | true => rfl
    | false =>
      have := Srt.end_le (hno e)
      omega

theorem moveM_in {l r : List Ob} {o : Ob} (h : Hp n₀ bh b vw vb w lim used (l ++ o :: r)) (t : Nat) (ht : t ≤ o.at_) (hw : (l ++ o :: r).any (inOb t) = true) :
    Calls Tryz.prog 81 #[.pointer (some ⟨bh, 0, none⟩), .int .i64 o.at_, .int .i64 t] w fun e w' => e = .returned (.int .i64 1) ∧ Below w.heap.size w w' := by
  obtain ⟨A, h1, h2, h3, h4⟩ := h
  have hs := h2.srt
  rw [Srt_append] at hs
  obtain ⟨m, mid, rfl, hl, hm⟩ := split_at (t := t) hs.1
  have h2' : Inv A (m ++ (mid ++ o :: r)) := by simpa using h2
  have hf : (o.at_ :: ((m ++ mid).map Ob.at_).reverse).find? (fun y => decide (y < t)) = lst none m := by
    have := find_split (l := m) (t := t) (pre := o.at_ :: (mid.map Ob.at_).reverse) hl (by
      intro y hy
      rcases List.mem_cons.1 hy with rfl | hy
      · omega
      · rw [List.mem_reverse] at hy; obtain ⟨q, hq, rfl⟩ := List.mem_map.1 hy; have := hm q hq; omega)
    simpa using this
  have hr : ∀ q ∈ mid ++ o :: r, t ≤ q.at_ := by
    intro q hq
    rcases List.mem_append.1 hq with hq | hq
    · exact hm q hq
    · rcases List.mem_cons.1 hq with rfl | hq
      · exact ht
      · have := Srt.apart (l := (m ++ mid) ++ [o]) (r := r) (by simpa using h2.srt) o (by simp) q hq
        unfold Ob.end_ at this; omega
  have hE := (lst_end h2'.srt hl hr).1.1 (by simpa using hw)
  refine (moveH_within h1 h2.len o.at_ t h2.has (by omega) _ h2.back_at (by rw [hf, h2'.endAt]; exact hE))

theorem moveM_mv {l r : List Ob} {o : Ob} (h : Hp n₀ bh b vw vb w lim used (l ++ o :: r)) (t : Nat) (ht : t ≤ o.at_) (hw : (l ++ o :: r).any (inOb t) = false) :
    Calls Tryz.prog 81 #[.pointer (some ⟨bh, 0, none⟩), .int .i64 o.at_, .int .i64 t] w fun e w' => e = .returned (.int .i64 0) ∧
      Hp n₀ bh b vw vb w' lim used (l.filter (fun q => decide (q.at_ < t)) ++ { o with at_ := t } :: r) ∧ Step b vw vb w vw vb w' := by
  have hs := h.srt.1
  have hs' := hs
  rw [Srt_append] at hs'
  obtain ⟨m, mid, rfl, hl, hm⟩ := split_at (t := t) hs'.1
  have hno : ∀ q ∈ m, q.end_ ≤ t := by
    intro q hq
    have := (List.any_eq_false.1 hw) q (by simp [hq])
    simp [inOb] at this
    exact this (hl q hq)
  have e : (m ++ mid).filter (fun q => decide (q.at_ < t)) = m := by
    rw [List.filter_append, List.filter_eq_self.2 (fun q hq => by simpa using hl q hq), List.filter_eq_nil_iff.2 (fun q hq => by have := hm q hq; simp; omega), List.append_nil]
  rw [e]
  exact moveM h t hno hm ht

theorem cutM_in (h : Hp n₀ bh b vw vb w lim used M) (t : Nat) (ht : t ≤ used) (hw : M.any (inOb t) = true) :
    Calls Tryz.prog 38 #[.pointer (some ⟨bh, 0, none⟩), .int .i64 t] w fun e w' => e = .returned (.int .i64 1) ∧ Below w.heap.size w w' := by
  obtain ⟨A, h1, h2, h3, rfl⟩ := h
  obtain ⟨l, r, rfl, hl, hr⟩ := split_at (t := t) h2.srt
  have hf : (((l ++ r).map Ob.at_).reverse).find? (fun y => decide (y < t)) = lst none l := by
    have := find_split (l := l) (t := t) (pre := (r.map Ob.at_).reverse) hl (by
      intro y hy
      rw [List.mem_reverse] at hy; obtain ⟨q, hq, rfl⟩ := List.mem_map.1 hy; have := hr q hq; omega)
    simpa using this
  exact cutH_within h1 t ht _ h2.back (by rw [hf, h2.endAt]; exact (lst_end h2.srt hl hr).1.1 hw)

theorem cutM_ct (h : Hp n₀ bh b vw vb w lim used M) (t : Nat) (ht : t ≤ used) (hw : M.any (inOb t) = false) :
    Calls Tryz.prog 38 #[.pointer (some ⟨bh, 0, none⟩), .int .i64 t] w fun e w' => e = .returned (.int .i64 0) ∧
      ∃ vw' vb', Hp n₀ bh b vw' vb' w' lim t (M.filter (fun q => decide (q.at_ < t))) ∧ Step b vw vb w vw' vb' w' := by
  have hs := h.srt.1
  obtain ⟨l, r, rfl, hl, hr⟩ := split_at (t := t) hs
  have e : (l ++ r).filter (fun q => decide (q.at_ < t)) = l := by
    rw [List.filter_append, List.filter_eq_self.2 (fun q hq => by simpa using hl q hq), List.filter_eq_nil_iff.2 (fun q hq => by have := hr q hq; simp; omega), List.append_nil]
  rw [e]
  exact cutM h t ((lst_end hs hl hr).2 hw) hr ht

end Go.Proofs.YtkombdkhodjckaaGreat
