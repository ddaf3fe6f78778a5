/- Read, Write, Size. -/
import Derived.Test.YtkombdkhodjckaaHeap
namespace Go.Proofs.Ytkombdkhodjckaa
open Go.RowKit

variable {n₀ bh b : Nat} {vw vb : Value} {w : World} {A : Ar}

set_option maxHeartbeats 1000000 in
theorem read_ok (h : IsHp n₀ bh b vw vb w A) (hl : A.bs.length = A.ws.length) (j i x y : Nat) (hj : hasA A j = true) (hx : A.ws[j]? = some x) (hi : i < fld x 0) (hy : A.ws[j + 1 + i]? = some y) :
    Calls Try.prog 73 #[.pointer (some ⟨bh, 0, none⟩), .int .i64 j, .int .i64 i] w fun e w' => e = .returned (.tuple #[.int .u64 y, .int .i64 0]) ∧ w' = w := by
  obtain ⟨g, c, hv, hcell, _⟩ := h.ar.word hy
  have h1 := word_ok h hl j i x hj hx hi (List.getElem?_eq_some_iff.1 hy).1 g c hv
  clear h hl hj hx hi hy hv
  go_enter Try.func73, Try.ntmps73
  go_wp2_with (first
    | (go_at_call 66; refine h1.mono ?_; clear h1; rintro e w' ⟨rfl, rfl⟩))
  go_ret2
  exact ⟨rfl, rfl⟩

/-- Does the object at a place have such a word? -/
def hasW (A : Ar) (j i : Int) : Bool := hasA A j && decide (0 ≤ i) && decide (i < fld (A.ws.getD j.toNat 0) 0)

theorem word_err (h : IsHp n₀ bh b vw vb w A) (hl : A.bs.length = A.ws.length) (j i : Int) (hb : hasW A j i = false) :
    Calls Try.prog 66 #[.pointer (some ⟨bh, 0, none⟩), .int .i64 j, .int .i64 i] w fun e w' => e = .returned (.tuple #[.pointer none, .int .i64 1]) ∧ w' = w := by
  cases hj : hasA A j with
  | false => exact word_none h hl j i hj
  | true =>
    obtain ⟨k, rfl, hk, _⟩ := hasA_lt hl hj
    refine word_bad h hl k i (A.ws.getD k 0) hj (by simp [List.getD, hk]) ?_
    unfold hasW at hb
    rw [hj] at hb
    simp at hb
    simp
    omega

set_option maxHeartbeats 1000000 in
theorem read_err (h : IsHp n₀ bh b vw vb w A) (hl : A.bs.length = A.ws.length) (j i : Int) (hb : hasW A j i = false) :
    Calls Try.prog 73 #[.pointer (some ⟨bh, 0, none⟩), .int .i64 j, .int .i64 i] w fun e w' => e = .returned (.tuple #[.int .u64 0, .int .i64 1]) ∧ w' = w := by
  have h1 := word_err h hl j i hb
  clear h hl hb
  go_enter Try.func73, Try.ntmps73
  go_wp2_with (first
    | (go_at_call 66; refine h1.mono ?_; clear h1; rintro e w' ⟨rfl, rfl⟩))
  go_ret2
  exact ⟨rfl, rfl⟩

set_option maxHeartbeats 1000000 in
theorem write_ok (h : IsHp n₀ bh b vw vb w A) (hl : A.bs.length = A.ws.length) (j i x v : Nat) (hj : hasA A j = true) (hx : A.ws[j]? = some x) (hi : i < fld x 0) (hin : j + 1 + i < A.ws.length) (hv64 : v < 18446744073709551616) :
    Calls Try.prog 42 #[.pointer (some ⟨bh, 0, none⟩), .int .i64 j, .int .i64 i, .int .u64 v] w fun e w' => e = .returned (.int .i64 0) ∧
      IsHp n₀ bh b vw vb w' { A with ws := A.ws.set (j + 1 + i) v } ∧ Step b vw vb w vw vb w' := by
  obtain ⟨g, c, hv, hcell, hfr⟩ := h.ar.word (i := j + 1 + i) (x := A.ws[j + 1 + i]) (by simp [hin])
  have h1 := word_ok h hl j i x hj hx hi hin g c hv
  obtain ⟨h2, h3⟩ := h.ar.setWord (i := j + 1 + i) hv hv64
  have H : Hid _ := And.intro (h.step h3 h2) h3
  clear h hl hj hx hi hv h2 h3
  obtain ⟨y, hy⟩ : ∃ y, A.ws[j + 1 + i] = y := ⟨_, rfl⟩
  rw [hy] at hcell
  clear hy
  go_enter Try.func42, Try.ntmps42
  go_wp2_with (first
    | (go_at_call 66; refine h1.mono ?_; clear h1; rintro e w' ⟨rfl, rfl⟩))
  go_ret
  exact ⟨rfl, H.out⟩

set_option maxHeartbeats 1000000 in
theorem write_err (h : IsHp n₀ bh b vw vb w A) (hl : A.bs.length = A.ws.length) (j i v : Int) (hb : hasW A j i = false) :
    Calls Try.prog 42 #[.pointer (some ⟨bh, 0, none⟩), .int .i64 j, .int .i64 i, .int .u64 v] w fun e w' => e = .returned (.int .i64 1) ∧ w' = w := by
  have h1 := word_err h hl j i hb
  clear h hl hb
  go_enter Try.func42, Try.ntmps42
  go_wp2_with (first
    | (go_at_call 66; refine h1.mono ?_; clear h1; rintro e w' ⟨rfl, rfl⟩))
  go_ret
  exact ⟨rfl, rfl⟩

set_option maxHeartbeats 1000000 in
theorem size_ok (h : IsHp n₀ bh b vw vb w A) (hl : A.bs.length = A.ws.length) (j x : Nat) (hj : hasA A j = true) (hx : A.ws[j]? = some x) :
    Calls Try.prog 72 #[.pointer (some ⟨bh, 0, none⟩), .int .i64 j] w fun e w' => e = .returned (.tuple #[.int .i64 (fld x 0), .int .i64 0]) ∧ w' = w := by
  have h1 := find_yes h hl j hj
  have h2 := field_in h.ar j x 0 hx (by omega)
  clear h hl hj hx
  go_enter Try.func72, Try.ntmps72
  go_wp2_with (first
    | (go_at_call 80; refine h1.mono ?_; clear h1; rintro e w' ⟨rfl, rfl⟩)
    | (go_at_call 81; refine h2.mono ?_; clear h2; rintro e w' ⟨rfl, rfl⟩))
  go_ret2
  exact ⟨rfl, rfl⟩

set_option maxHeartbeats 1000000 in
theorem size_err (h : IsHp n₀ bh b vw vb w A) (hl : A.bs.length = A.ws.length) (j : Int) (hj : hasA A j = false) :
    Calls Try.prog 72 #[.pointer (some ⟨bh, 0, none⟩), .int .i64 j] w fun e w' => e = .returned (.tuple #[.int .i64 0, .int .i64 1]) ∧ w' = w := by
  have h1 := find_no h hl j hj
  clear h hl hj
  go_enter Try.func72, Try.ntmps72
  go_wp2_with (first
    | (go_at_call 80; refine h1.mono ?_; clear h1; rintro e w' ⟨rfl, rfl⟩))
  go_ret2
  exact ⟨rfl, rfl⟩

end Go.Proofs.Ytkombdkhodjckaa
