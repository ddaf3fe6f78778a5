/- The arena's own functions, each by a contract over the plain arena. -/
import Derived.Test.YtkombdkhodjckaaOwn
import Derived.BigQuiet
import Derived.BigRegion
namespace Go.Proofs.Ytkombdkhodjckaa
open Go.RowKit

variable {n₀ b : Nat} {vw vb : Value} {w : World} {A : Ar}

theorem ret_int {k : IntKind} {a b : Int} (h : a = b) : Ending.returned (.int k a) = .returned (.int k b) := by rw [h]

set_option maxHeartbeats 400000 in
theorem end_in (h : IsAr n₀ b vw vb w A) : Calls Try.prog 25 #[.pointer (some ⟨b, 0, none⟩)] w fun e w' => e = .returned (.int .i64 A.ws.length) ∧ w' = w := by
  have hc := h.c1
  obtain ⟨p, c, rfl, _, _⟩ := IsAr.row_form h.rw
  clear h
  go_enter Try.func25, Try.ntmps25
  go_wp2
  go_ret
  exact ⟨rfl, rfl⟩

set_option maxHeartbeats 400000 in
theorem free_in (h : IsAr n₀ b vw vb w A) : Calls Try.prog 64 #[.pointer (some ⟨b, 0, none⟩)] w fun e w' => e = .returned (.int .i64 ((A.limit : Int) - A.ws.length)) ∧ ∃ k, w' = w.drewN k := by
  have hc := h.c1
  have hc0 := h.c0
  have hle := h.le
  have hlim := h.lim
  obtain ⟨p, c, rfl, _, _⟩ := IsAr.row_form h.rw
  clear h
  obtain ⟨n, hn⟩ : ∃ n, A.ws.length = n := ⟨_, rfl⟩
  obtain ⟨L, hL⟩ : ∃ L, A.limit = L := ⟨_, rfl⟩
  rw [hn] at hc hle ⊢
  rw [hL] at hc0 hle hlim ⊢
  clear hn hL
  go_enter Try.func64, Try.ntmps64
  go_wp2
  go_quiet (fail)
  go_wp2
  go_ret
  exact ⟨rfl, _, rfl⟩

set_option maxHeartbeats 400000 in
theorem field_in (h : IsAr n₀ b vw vb w A) (i x f : Nat) (hi : A.ws[i]? = some x) (hf : f ≤ 3) :
    Calls Try.prog 81 #[.pointer (some ⟨b, 0, none⟩), .int .i64 i, .int .i64 f] w fun e w' => e = .returned (.int .i64 (fld x f)) ∧ w' = w := by
  have hc := h.c1
  have hle := h.le
  have hlim := h.lim
  have hx := h.val x (List.mem_of_getElem? hi)
  have hlt : i < A.ws.length := (List.getElem?_eq_some_iff.1 hi).1
  obtain ⟨g, c, rfl, hcell, _⟩ := h.word hi
  clear h hi
  go_enter Try.func81, Try.ntmps81
  go_wp2
  go_ret
  exact ⟨ret_int (field_val x f hx), rfl⟩

set_option maxHeartbeats 4000000 in
theorem setField_in (h : IsAr n₀ b vw vb w A) (i x f v : Nat) (hi : A.ws[i]? = some x) (hf : f ≤ 3) (hv : v < 1048576) :
    Calls Try.prog 78 #[.pointer (some ⟨b, 0, none⟩), .int .i64 i, .int .i64 f, .int .i64 v] w fun e w' => e = .returned (.tuple #[]) ∧
      IsAr n₀ b vw vb w' { A with ws := A.ws.set i (setf x f v) } ∧ Step b vw vb w vw vb w' := by
  have hc := h.c1
  have hle := h.le
  have hlim := h.lim
  have hx := h.val x (List.mem_of_getElem? hi)
  have hlt : i < A.ws.length := (List.getElem?_eq_some_iff.1 hi).1
  obtain ⟨g, c, hvw, hcell, hfr⟩ := h.word hi
  have H : Hid (∀ w', w' = (w.setCell ⟨g, i, none⟩ (.int .u64 (setfI x f v))).drew → IsAr n₀ b vw vb w' { A with ws := A.ws.set i (setf x f v) } ∧ Step b vw vb w vw vb w') := by
    intro w' hw'
    obtain ⟨e1, e2⟩ := setfI_eq x f v hx
    rw [e1] at hw'
    obtain ⟨h1, h2⟩ := h.setWord (i := i) hvw e2
    rw [hw']
    exact ⟨h1.drew, h2.drew⟩
  rw [hvw] at hc
  clear h hi hvw
  go_enter Try.func78, Try.ntmps78
  go_wp2
  go_region
  go_end0
  exact ⟨rfl, H.out _ rfl⟩

def setW (A : Ar) (i f v : Nat) : Ar := { A with ws := A.ws.set i (setf (A.ws.getD i 0) f v) }

@[simp] theorem setW_len (A : Ar) (i f v : Nat) : (setW A i f v).ws.length = A.ws.length := by simp [setW]
@[simp] theorem setW_bs (A : Ar) (i f v : Nat) : (setW A i f v).bs = A.bs := rfl
@[simp] theorem setW_last (A : Ar) (i f v : Nat) : (setW A i f v).last = A.last := rfl
@[simp] theorem setW_limit (A : Ar) (i f v : Nat) : (setW A i f v).limit = A.limit := rfl

theorem setField_at (h : IsAr n₀ b vw vb w A) (i f v : Nat) (hi : i < A.ws.length) (hf : f ≤ 3) (hv : v < 1048576) :
    Calls Try.prog 78 #[.pointer (some ⟨b, 0, none⟩), .int .i64 i, .int .i64 f, .int .i64 v] w fun e w' => e = .returned (.tuple #[]) ∧
      IsAr n₀ b vw vb w' (setW A i f v) ∧ Step b vw vb w vw vb w' := by
  have := setField_in h i (A.ws.getD i 0) f v (by simp [List.getD, hi]) hf hv
  exact this

def ahd (x : Nat) : Option Nat := if fld x 1 = 0 then none else some (fld x 1 - 1)

def bhd (x : Nat) : Option Nat := if fld x 2 = 0 then none else some (fld x 2)

theorem fld_lt (x f : Nat) : fld x f < 1048576 := Nat.mod_lt _ (by omega)

theorem optI_ahd (x : Nat) : (fld x 1 : Int) - 1 = optI (ahd x) := by
  unfold ahd optI; split <;> (split at * <;> simp_all <;> omega)

/-- The place right behind an object. -/
def endAt (A : Ar) : Option Nat → Nat
  | none => 0
  | some i => i + 1 + fld (A.ws.getD i 0) 0

def tieA (A : Ar) (x y : Option Nat) : Ar :=
  let A1 := match x with | some i => setW A i 2 (y.getD 0) | none => A
  match y with | some j => setW A1 j 1 (x.elim 0 (· + 1)) | none => { A1 with last := x }

set_option maxHeartbeats 1000000 in
theorem tie_in (h : IsAr n₀ b vw vb w A) (x y : Option Nat) (hx : ∀ i, x = some i → i < A.ws.length ∧ (y ≠ none → i + 1 < 1048576)) (hy : ∀ j, y = some j → j < A.ws.length) :
    Calls Try.prog 79 #[.pointer (some ⟨b, 0, none⟩), .int .i64 (optI x), .int .i64 (optI y)] w fun e w' => e = .returned (.tuple #[]) ∧
      IsAr n₀ b vw vb w' (tieA A x y) ∧ Step b vw vb w vw vb w' := by
  have hle := h.le
  have hlim := h.lim
  cases x with
  | none =>
    cases y with
    | none =>
      have hl := h.setLast none
      have H : Hid _ := hl
      have hf := h.f 3
      have hc3 := h.c3
      clear hl h hx hy
      unfold optI tieA
      dsimp only
      go_enter Try.func79, Try.ntmps79
      go_wp2
      go_end0
      exact ⟨rfl, H.out⟩
    | some j =>
      have hj := hy j rfl
      have hs := setField_at h j 1 0 hj (by omega) (by omega)
      unfold optI tieA
      dsimp only
      clear hx hy h
      go_enter Try.func79, Try.ntmps79
      go_wp2_with (go_at_call 78; refine hs.mono ?_; clear hs; rintro e w' ⟨rfl, hA', hS'⟩)
      go_end0
      exact ⟨rfl, hA', hS'⟩
  | some i =>
    obtain ⟨hi, hi2⟩ := hx i rfl
    cases y with
    | none =>
      have hs := setField_at h i 2 0 hi (by omega) (by omega)
      unfold optI tieA
      dsimp only
      clear hx hy h
      go_enter Try.func79, Try.ntmps79
      go_wp2_with (go_at_call 78; refine hs.mono ?_; clear hs; rintro e w' ⟨rfl, hA', hS'⟩; have hf := hA'.f 3; have hc3 := hA'.c3; have H : Hid _ := hA'.setLast (some i))
      go_end0
      exact ⟨rfl, H.out.1, hS'.trans H.out.2⟩
    | some j =>
      have hj := hy j rfl
      have hi2 := hi2 (by simp)
      have hs := setField_at h i 2 j hi (by omega) (by omega)
      unfold optI tieA
      dsimp only
      clear hx hy h
      go_enter Try.func79, Try.ntmps79
      go_wp2_with (first
        | (go_at_call 78; refine hs.mono ?_; clear hs; rintro e w1 ⟨rfl, hA1, hS1⟩; have hs2 := setField_at hA1 j 1 (i + 1) (by simpa using hj) (by omega) (by omega))
        | (go_at_call 78; refine hs2.mono ?_; clear hs2; rintro e w2 ⟨rfl, hA2, hS2⟩))
      go_end0
      exact ⟨rfl, hA2, hS1.trans hS2⟩

end Go.Proofs.Ytkombdkhodjckaa
