/- The heap's functions that call the arena's straight. -/
import Derived.Test.YtkombdkhodjckaaCut
namespace Go.Proofs.Ytkombdkhodjckaa
open Go.RowKit

/-- The heap at block bh, its arena at block b. -/
structure IsHp (n₀ bh b : Nat) (vw vb : Value) (w : World) (A : Ar) : Prop where
  hbase : n₀ ≤ bh
  hblk : w.heap[bh]? = some (.cells #[.pointer (some ⟨b, 0, none⟩)] 76 (0, 0))
  ar : IsAr n₀ b vw vb w A

variable {n₀ bh b : Nat} {vw vb : Value} {w : World} {A : Ar}

theorem IsHp.hlt (h : IsHp n₀ bh b vw vb w A) : bh < w.heap.size := (Array.getElem?_eq_some_iff.1 h.hblk).1

theorem IsHp.c (h : IsHp n₀ bh b vw vb w A) : w.cell? ⟨bh, 0, none⟩ = some (.pointer (some ⟨b, 0, none⟩)) := by rw [cell_of_row w bh 0 _ _ _ h.hblk]; rfl

theorem IsHp.ne (h : IsHp n₀ bh b vw vb w A) : bh ≠ b := by
  intro e; have := h.hblk; rw [e, h.ar.blk] at this; simp at this

theorem IsHp.step (h : IsHp n₀ bh b vw vb w A) {vw' vb' : Value} {w' : World} {A' : Ar} (hS : Step b vw vb w vw' vb' w') (hA : IsAr n₀ b vw' vb' w' A') : IsHp n₀ bh b vw' vb' w' A' := by
  refine ⟨h.hbase, (hS.block bh h.hlt h.ne ?_ ?_).trans h.hblk, hA⟩
  · intro e; obtain ⟨cur, hc⟩ := IsAr.row_type h.ar.rw e.symm; rw [h.hblk] at hc; simp at hc
  · intro e; obtain ⟨cur, hc⟩ := IsAr.row_type h.ar.rb e.symm; rw [h.hblk] at hc; simp at hc

theorem IsHp.below (h : IsHp n₀ bh b vw vb w A) {w' : World} (hB : Below w.heap.size w w') : IsHp n₀ bh b vw vb w' A :=
  ⟨h.hbase, (hB.block bh h.hlt).trans h.hblk, h.ar.below hB⟩

theorem IsHp.drew (h : IsHp n₀ bh b vw vb w A) : IsHp n₀ bh b vw vb w.drew A := ⟨h.hbase, h.hblk, h.ar.drew⟩

theorem IsHp.drewN (h : IsHp n₀ bh b vw vb w A) (k : Nat) : IsHp n₀ bh b vw vb (w.drewN k) A := ⟨h.hbase, h.hblk, h.ar.drewN k⟩

def newA (words : Nat) : Ar := { limit := words, ws := [], bs := [], last := none }

set_option maxHeartbeats 400000 in
theorem new_bad (n : Int) (w : World) (h : n < 1 ∨ 1048576 < n) : Calls Try.prog 20 #[.int .i64 n] w fun e w' => e = .returned (.tuple #[.pointer none, .int .i64 1]) ∧ w' = w := by
  rcases h with h | h
  · go_enter Try.func20, Try.ntmps20
    go_wp2
    go_ret2
    exact ⟨rfl, rfl⟩
  · have h' : ¬ n < 1 := by omega
    go_enter Try.func20, Try.ntmps20
    go_wp2
    go_ret2
    exact ⟨rfl, rfl⟩

set_option maxHeartbeats 400000 in
theorem new_in (n : Nat) (w : World) (h1 : 1 ≤ n) (h2 : n ≤ 1048576) : Calls Try.prog 20 #[.int .i64 n] w fun e w' => ∃ bh b vw vb, e = .returned (.tuple #[.pointer (some ⟨bh, 0, none⟩), .int .i64 0]) ∧
    IsHp w.heap.size bh b vw vb w' (newA n) ∧ Below w.heap.size w w' := by
  go_enter Try.func20, Try.ntmps20
  go_wp2
  go_ret2
  refine ⟨w.heap.size + 1, w.heap.size, .slice none 0 0, .slice none 0 0, rfl, ⟨Nat.le_succ _, ?_, ⟨Nat.le_refl _, ?_, World.ownsRow_nil _ _ _ _, World.ownsRow_nil _ _ _ _, by simp [newA], by simp [newA], h2, by simp [newA]⟩⟩, ?_⟩
  · have := heap_alloc_new (w.alloc (Obj.cells #[Value.int IntKind.i64 ↑n, Value.slice none 0 0, Value.slice none 0 0, Value.int IntKind.i64 (-1)] 86)) (Obj.cells #[Value.pointer (some { block := w.heap.size, off := 0 })] 76)
    rwa [World.size_alloc] at this
  · exact (Below.heap_alloc _ _ _ (by simp)).trans (heap_alloc_new w _)
  · exact ((Below.refl _ _).alloc (Nat.le_refl _) _).alloc (by simp) _

set_option maxHeartbeats 400000 in
theorem there_in (h : IsHp n₀ bh b vw vb w A) : Calls Try.prog 24 #[.pointer (some ⟨bh, 0, none⟩)] w fun e w' => e = .returned (.pointer (some ⟨b, 0, none⟩)) ∧ w' = w := by
  have hc := h.c
  clear h
  go_enter Try.func24, Try.ntmps24
  go_wp2
  go_ret
  exact ⟨rfl, rfl⟩

set_option maxHeartbeats 400000 in
theorem used_in (h : IsHp n₀ bh b vw vb w A) : Calls Try.prog 8 #[.pointer (some ⟨bh, 0, none⟩)] w fun e w' => e = .returned (.int .i64 A.ws.length) ∧ w' = w := by
  have h1 := there_in h
  have h2 := end_in h.ar
  clear h
  go_enter Try.func8, Try.ntmps8
  go_wp2_with (first
    | (go_at_call 24; refine h1.mono ?_; clear h1; rintro e w' ⟨rfl, rfl⟩)
    | (go_at_call 25; refine h2.mono ?_; clear h2; rintro e w' ⟨rfl, rfl⟩))
  go_ret
  exact ⟨rfl, rfl⟩

set_option maxHeartbeats 400000 in
theorem words_in (h : IsHp n₀ bh b vw vb w A) : Calls Try.prog 39 #[.pointer (some ⟨bh, 0, none⟩)] w fun e w' => e = .returned (.int .i64 A.limit) ∧ w' = w := by
  have h1 := there_in h
  have h2 := h.ar.c0
  clear h
  go_enter Try.func39, Try.ntmps39
  go_wp2_with (first
    | (go_at_call 24; refine h1.mono ?_; clear h1; rintro e w' ⟨rfl, rfl⟩))
  go_ret
  exact ⟨rfl, rfl⟩

/-- Does an object begin there? -/
def hasA (A : Ar) (i : Int) : Bool := decide (0 ≤ i) && A.bs.getD i.toNat false

set_option maxHeartbeats 400000 in
theorem find_yes (h : IsHp n₀ bh b vw vb w A) (hl : A.bs.length = A.ws.length) (i : Int) (hi : hasA A i = true) :
    Calls Try.prog 80 #[.pointer (some ⟨bh, 0, none⟩), .int .i64 i] w fun e w' => e = .returned (.tuple #[.pointer (some ⟨b, 0, none⟩), .int .i64 0]) ∧ w' = w := by
  have h1 := there_in h
  have h2 := has_in h.ar hl i
  rw [show (decide (0 ≤ i) && A.bs.getD i.toNat false) = true from hi] at h2
  clear h hi hl
  go_enter Try.func80, Try.ntmps80
  go_wp2_with (first
    | (go_at_call 24; refine h1.mono ?_; clear h1; rintro e w' ⟨rfl, rfl⟩)
    | (go_at_call 87; refine h2.mono ?_; clear h2; rintro e w' ⟨rfl, rfl⟩))
  go_ret2
  exact ⟨rfl, rfl⟩

set_option maxHeartbeats 400000 in
theorem find_no (h : IsHp n₀ bh b vw vb w A) (hl : A.bs.length = A.ws.length) (i : Int) (hi : hasA A i = false) :
    Calls Try.prog 80 #[.pointer (some ⟨bh, 0, none⟩), .int .i64 i] w fun e w' => e = .returned (.tuple #[.pointer none, .int .i64 1]) ∧ w' = w := by
  have h1 := there_in h
  have h2 := has_in h.ar hl i
  rw [show (decide (0 ≤ i) && A.bs.getD i.toNat false) = false from hi] at h2
  clear h hi hl
  go_enter Try.func80, Try.ntmps80
  go_wp2_with (first
    | (go_at_call 24; refine h1.mono ?_; clear h1; rintro e w' ⟨rfl, rfl⟩)
    | (go_at_call 87; refine h2.mono ?_; clear h2; rintro e w' ⟨rfl, rfl⟩))
  go_ret2
  exact ⟨rfl, rfl⟩

theorem kinds {k : Nat} (h : 3 ≤ k ∧ k ≤ 8) : k < 16 := by omega

set_option maxHeartbeats 1000000 in
/-- Alloc: what may be and fits. -/
theorem alloc_ok (h : IsHp n₀ bh b vw vb w A) (hl : A.bs.length = A.ws.length) (hlast : ∀ i, A.last = some i → i < A.ws.length) (k size : Nat) (hk : 3 ≤ k) (hk8 : k ≤ 8) (hs : A.ws.length + size + 1 ≤ A.limit) :
    Calls Try.prog 40 #[.pointer (some ⟨bh, 0, none⟩), .int .u8 k, .int .i64 size] w fun e w' => e = .returned (.tuple #[.int .i64 A.ws.length, .int .i64 0]) ∧
      ∃ vw' vb', IsHp n₀ bh b vw' vb' w' (addA A k size) ∧ Step b vw vb w vw' vb' w' := by
  have h1 := there_in h
  have h2 := free_in h.ar
  have h3 := fun q => add_in (h.ar.drewN q) hl hlast k size (by omega) hs
  have H : Hid (IsHp n₀ bh b vw vb w A) := h
  clear h hl hlast
  go_enter Try.func40, Try.ntmps40
  go_wp2_with (first
    | (go_at_call 24; refine h1.mono ?_; clear h1; rintro e w' ⟨rfl, rfl⟩)
    | (go_at_call 64; refine h2.mono ?_; clear h2; rintro e w' ⟨rfl, q, rfl⟩)
    | (go_at_call 65; refine (h3 q).mono ?_; clear h3; rintro e w' ⟨rfl, vw', vb', hA', hS'⟩))
  go_ret2
  exact ⟨rfl, _, _, (H.out.drewN q).step hS' hA', ⟨hS'.os, hS'.tape, hS'.output, hS'.size, hS'.block, hS'.fw, hS'.fb⟩⟩

set_option maxHeartbeats 1000000 in
/-- Alloc: what may be and does not fit. -/
theorem alloc_full (h : IsHp n₀ bh b vw vb w A) (k : Nat) (size : Int) (hk : 3 ≤ k) (hk8 : k ≤ 8) (h0 : 0 ≤ size) (hs : (A.limit : Int) < A.ws.length + size + 1) :
    Calls Try.prog 40 #[.pointer (some ⟨bh, 0, none⟩), .int .u8 k, .int .i64 size] w fun e w' => e = .returned (.tuple #[.int .i64 0, .int .i64 7]) ∧ ∃ q, w' = w.drewN q := by
  have h1 := there_in h
  have h2 := free_in h.ar
  clear h
  have hs' : (A.limit : Int) - A.ws.length ≤ size := by omega
  clear hs
  go_enter Try.func40, Try.ntmps40
  go_wp2_with (first
    | (go_at_call 24; refine h1.mono ?_; clear h1; rintro e w' ⟨rfl, rfl⟩)
    | (go_at_call 64; refine h2.mono ?_; clear h2; rintro e w' ⟨rfl, q, rfl⟩))
  go_ret2
  exact ⟨rfl, _, rfl⟩

set_option maxHeartbeats 1000000 in
/-- Alloc: what may not be. -/
theorem alloc_bad (h : IsHp n₀ bh b vw vb w A) (k : Nat) (size : Int) (hk : k < 256) (hs : k < 3 ∨ 8 < k ∨ size < 0) :
    Calls Try.prog 40 #[.pointer (some ⟨bh, 0, none⟩), .int .u8 k, .int .i64 size] w fun e w' => e = .returned (.tuple #[.int .i64 0, .int .i64 1]) ∧ w' = w := by
  have h1 := there_in h
  clear h
  by_cases c1 : k < 3
  · clear hs
    go_enter Try.func40, Try.ntmps40
    go_wp2_with (first
      | (go_at_call 24; refine h1.mono ?_; clear h1; rintro e w' ⟨rfl, rfl⟩))
    go_ret2
    exact ⟨rfl, rfl⟩
  · by_cases c2 : 8 < k
    · clear hs
      go_enter Try.func40, Try.ntmps40
      go_wp2_with (first
        | (go_at_call 24; refine h1.mono ?_; clear h1; rintro e w' ⟨rfl, rfl⟩))
      go_ret2
      exact ⟨rfl, rfl⟩
    · have c3 : size < 0 := by omega
      clear hs
      go_enter Try.func40, Try.ntmps40
      go_wp2_with (first
        | (go_at_call 24; refine h1.mono ?_; clear h1; rintro e w' ⟨rfl, rfl⟩))
      go_ret2
      exact ⟨rfl, rfl⟩

theorem hasA_lt (hl : A.bs.length = A.ws.length) {i : Int} (hi : hasA A i = true) : ∃ j : Nat, i = j ∧ j < A.ws.length ∧ A.bs[j]? = some true := by
  unfold hasA at hi
  simp only [Bool.and_eq_true, decide_eq_true_eq] at hi
  refine ⟨i.toNat, by omega, ?_, ?_⟩
  · rcases Nat.lt_or_ge i.toNat A.ws.length with h | h
    · exact h
    · rw [List.getD_eq_getElem?_getD, List.getElem?_eq_none (by omega)] at hi; simp at hi
  · have := hi.2
    rw [List.getD_eq_getElem?_getD] at this
    cases e : A.bs[i.toNat]? with
    | none => rw [e] at this; simp at this
    | some x => rw [e] at this; simp at this; rw [this]

set_option maxHeartbeats 1000000 in
/-- word: an object's word. -/
theorem word_ok (h : IsHp n₀ bh b vw vb w A) (hl : A.bs.length = A.ws.length) (j i : Nat) (x : Nat) (hj : hasA A j = true) (hx : A.ws[j]? = some x) (hi : i < fld x 0) (hin : j + 1 + i < A.ws.length) (g c : Nat) (hv : vw = .slice (some ⟨g, 0, none⟩) A.ws.length c) :
    Calls Try.prog 66 #[.pointer (some ⟨bh, 0, none⟩), .int .i64 j, .int .i64 i] w fun e w' => e = .returned (.tuple #[.pointer (some ⟨g, j + 1 + i, none⟩), .int .i64 0]) ∧ w' = w := by
  have h1 := find_yes h hl j hj
  have h2 := field_in h.ar j x 0 hx (by omega)
  have h3 := h.ar.c1
  have hle := h.ar.le
  have hlim := h.ar.lim
  have hfl := fld_lt x 0
  rw [hv] at h3
  clear h hl hj hx hv
  obtain ⟨y, hy⟩ : ∃ y, fld x 0 = y := ⟨_, rfl⟩
  rw [hy] at h2 hi hfl
  clear hy
  go_enter Try.func66, Try.ntmps66
  go_wp2_with (first
    | (go_at_call 80; refine h1.mono ?_; clear h1; rintro e w' ⟨rfl, rfl⟩)
    | (go_at_call 81; refine h2.mono ?_; clear h2; rintro e w' ⟨rfl, rfl⟩))
  go_ret2
  exact ⟨rfl, rfl⟩

set_option maxHeartbeats 1000000 in
/-- word: no object there. -/
theorem word_none (h : IsHp n₀ bh b vw vb w A) (hl : A.bs.length = A.ws.length) (j i : Int) (hj : hasA A j = false) :
    Calls Try.prog 66 #[.pointer (some ⟨bh, 0, none⟩), .int .i64 j, .int .i64 i] w fun e w' => e = .returned (.tuple #[.pointer none, .int .i64 1]) ∧ w' = w := by
  have h1 := find_no h hl j hj
  clear h hl hj
  go_enter Try.func66, Try.ntmps66
  go_wp2_with (first
    | (go_at_call 80; refine h1.mono ?_; clear h1; rintro e w' ⟨rfl, rfl⟩))
  go_ret2
  exact ⟨rfl, rfl⟩

set_option maxHeartbeats 1000000 in
/-- word: an object that has no such word. -/
theorem word_bad (h : IsHp n₀ bh b vw vb w A) (hl : A.bs.length = A.ws.length) (j : Nat) (i : Int) (x : Nat) (hj : hasA A j = true) (hx : A.ws[j]? = some x) (hi : i < 0 ∨ fld x 0 ≤ i) :
    Calls Try.prog 66 #[.pointer (some ⟨bh, 0, none⟩), .int .i64 j, .int .i64 i] w fun e w' => e = .returned (.tuple #[.pointer none, .int .i64 1]) ∧ w' = w := by
  have h1 := find_yes h hl j hj
  have h2 := field_in h.ar j x 0 hx (by omega)
  clear h hl hj hx
  obtain ⟨y, hy⟩ : ∃ y, fld x 0 = y := ⟨_, rfl⟩
  rw [hy] at h2 hi
  clear hy
  by_cases c1 : i < 0
  · clear hi
    go_enter Try.func66, Try.ntmps66
    go_wp2_with (first
      | (go_at_call 80; refine h1.mono ?_; clear h1; rintro e w' ⟨rfl, rfl⟩)
      | (go_at_call 81; refine h2.mono ?_; clear h2; rintro e w' ⟨rfl, rfl⟩))
    go_ret2
    exact ⟨rfl, rfl⟩
  · have c2 : (y : Int) ≤ i := by omega
    clear hi
    go_enter Try.func66, Try.ntmps66
    go_wp2_with (first
      | (go_at_call 80; refine h1.mono ?_; clear h1; rintro e w' ⟨rfl, rfl⟩)
      | (go_at_call 81; refine h2.mono ?_; clear h2; rintro e w' ⟨rfl, rfl⟩))
    go_ret2
    exact ⟨rfl, rfl⟩

end Go.Proofs.Ytkombdkhodjckaa
