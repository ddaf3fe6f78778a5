/- The arena's own functions, each by a contract over the plain arena. -/
import Derived.Test.YtampilfebmfhaaaGreatDoorOwn
import Derived.BigQuiet
import Derived.BigRegion
namespace Go.Proofs.YtampilfebmfhaaaGreatDoor
open Go.RowKit

variable {n₀ b : Nat} {vw vb : Value} {w : World} {A : Ar}

theorem ret_int {k : IntKind} {a b : Int} (h : a = b) : Ending.returned (.int k a) = .returned (.int k b) := by rw [h]

set_option maxHeartbeats 400000 in
theorem end_in (h : IsAr n₀ b vw vb w A) : Calls Tryz.prog 126 #[.pointer (some ⟨b, 0, none⟩)] w fun e w' => e = .returned (.int .i64 A.ws.length) ∧ w' = w := by
  have hc := h.c1
  obtain ⟨p, c, rfl, _, _⟩ := IsAr.row_form h.rw
  clear h
  go_enter Tryz.func126, Tryz.ntmps126
  go_wp2
  go_ret
  exact ⟨rfl, rfl⟩

set_option maxHeartbeats 400000 in
theorem free_in (h : IsAr n₀ b vw vb w A) : Calls Tryz.prog 180 #[.pointer (some ⟨b, 0, none⟩)] w fun e w' => e = .returned (.int .i64 ((A.limit : Int) - A.ws.length)) ∧ ∃ k, w' = w.drewN k := by
  have hc := h.c1
  have hc0 := h.c0
  have hle := h.le
  have hlim := h.lim
  obtain ⟨p, c, rfl, _, _⟩ := IsAr.row_form h.rw
  clear h
  obtain ⟨n, hn⟩ : ∃ n, A.ws.length = n := ⟨_, rfl⟩
  obtain ⟨L, hL⟩ : ∃ L, A.limit = L := ⟨_, rfl⟩
  rw [hn] at hc hle ⊢
  rw [hL] at hc0 hle hlim ⊢
  clear hn hL
  go_enter Tryz.func180, Tryz.ntmps180
  go_wp2
  go_quiet (fail)
  go_wp2
  go_ret
  exact ⟨rfl, _, rfl⟩

set_option maxHeartbeats 400000 in
theorem field_in (h : IsAr n₀ b vw vb w A) (i x f : Nat) (hi : A.ws[i]? = some x) (hf : f ≤ 3) :
    Calls Tryz.prog 130 #[.pointer (some ⟨b, 0, none⟩), .int .i64 i, .int .i64 f] w fun e w' => e = .returned (.int .i64 (fld x f)) ∧ w' = w := by
  have hc := h.c1
  have hle := h.le
  have hlim := h.lim
  have hx := h.val x (List.mem_of_getElem? hi)
  have hlt : i < A.ws.length := (List.getElem?_eq_some_iff.1 hi).1
  obtain ⟨g, c, rfl, hcell, _⟩ := h.word hi
  clear h hi
  go_enter Tryz.func130, Tryz.ntmps130
  go_wp2
  go_ret
  exact ⟨ret_int (field_val x f hx), rfl⟩

set_option maxHeartbeats 4000000 in
theorem setField_in (h : IsAr n₀ b vw vb w A) (i x f v : Nat) (hi : A.ws[i]? = some x) (hf : f ≤ 3) (hv : v < 1048576) :
    Calls Tryz.prog 192 #[.pointer (some ⟨b, 0, none⟩), .int .i64 i, .int .i64 f, .int .i64 v] w fun e w' => e = .returned (.tuple #[]) ∧
      IsAr n₀ b vw vb w' { A with ws := A.ws.set i (setf x f v) } ∧ Step b vw vb w vw vb w' := by
  have hc := h.c1
  have hle := h.le
  have hlim := h.lim
  have hx := h.val x (List.mem_of_getElem? hi)
  have hlt : i < A.ws.length := (List.getElem?_eq_some_iff.1 hi).1
  obtain ⟨g, c, hvw, hcell, hfr⟩ := h.word hi
  have H : Hid (∀ w', w' = (w.setCell ⟨g, i, none⟩ (.int .u64 (setfI x f v))).drew → IsAr n₀ b vw vb w' { A with ws := A.ws.set i (setf x f v) } ∧ Step b vw vb w vw vb w') := by
    intro w' hw'
    obtain ⟨e1, e2⟩ := setfI_eq x f v hx
    rw [e1] at hw'
    obtain ⟨h1, h2⟩ := h.setWord (i := i) hvw e2
    rw [hw']
    exact ⟨h1.drew, h2.drew⟩
  rw [hvw] at hc
  clear h hi hvw
  go_enter Tryz.func192, Tryz.ntmps192
  go_wp2
  go_region
  go_end0
  exact ⟨rfl, H.out _ rfl⟩

def setW (A : Ar) (i f v : Nat) : Ar := { A with ws := A.ws.set i (setf (A.ws.getD i 0) f v) }

@[simp] theorem setW_len (A : Ar) (i f v : Nat) : (setW A i f v).ws.length = A.ws.length := by simp [setW]
@[simp] theorem setW_bs (A : Ar) (i f v : Nat) : (setW A i f v).bs = A.bs := rfl
@[simp] theorem setW_last (A : Ar) (i f v : Nat) : (setW A i f v).last = A.last := rfl
@[simp] theorem setW_limit (A : Ar) (i f v : Nat) : (setW A i f v).limit = A.limit := rfl

theorem setField_at (h : IsAr n₀ b vw vb w A) (i f v : Nat) (hi : i < A.ws.length) (hf : f ≤ 3) (hv : v < 1048576) :
    Calls Tryz.prog 192 #[.pointer (some ⟨b, 0, none⟩), .int .i64 i, .int .i64 f, .int .i64 v] w fun e w' => e = .returned (.tuple #[]) ∧
      IsAr n₀ b vw vb w' (setW A i f v) ∧ Step b vw vb w vw vb w' := by
  have := setField_in h i (A.ws.getD i 0) f v (by simp [List.getD, hi]) hf hv
  exact this

def ahd (x : Nat) : Option Nat := if fld x 1 = 0 then none else some (fld x 1 - 1)

def bhd (x : Nat) : Option Nat := if fld x 2 = 0 then none else some (fld x 2)

theorem fld_lt (x f : Nat) : fld x f < 1048576 := Nat.mod_lt _ (by omega)

theorem optI_ahd (x : Nat) : (fld x 1 : Int) - 1 = optI (ahd x) := by
  unfold ahd optI; split <;> (split at * <;> simp_all <;> omega)

set_option maxHeartbeats 400000 in
theorem ahead_in (h : IsAr n₀ b vw vb w A) (i x : Nat) (hi : A.ws[i]? = some x) :
    Calls Tryz.prog 188 #[.pointer (some ⟨b, 0, none⟩), .int .i64 i] w fun e w' => e = .returned (.int .i64 (optI (ahd x))) ∧ w' = w := by
  have hl := fld_lt x 1
  have hc := (field_in h i x 1 hi (by omega))
  clear hi h
  go_enter Tryz.func188, Tryz.ntmps188
  go_wp2_with (go_at_call 130; refine hc.mono ?_; clear hc; rintro e w' ⟨rfl, rfl⟩)
  go_ret
  exact ⟨ret_int (optI_ahd x), rfl⟩

set_option maxHeartbeats 400000 in
theorem behind_in (h : IsAr n₀ b vw vb w A) (i x : Nat) (hi : A.ws[i]? = some x) :
    Calls Tryz.prog 193 #[.pointer (some ⟨b, 0, none⟩), .int .i64 i] w fun e w' => e = .returned (.int .i64 (optI (bhd x))) ∧ w' = w := by
  have hl := fld_lt x 2
  have hc := (field_in h i x 2 hi (by omega))
  clear hi h
  by_cases h0 : fld x 2 = 0
  · have e : bhd x = none := by simp [bhd, h0]
    rw [e]
    rw [h0] at hc
    clear h0 hl e
    go_enter Tryz.func193, Tryz.ntmps193
    go_wp2_with (go_at_call 130; refine hc.mono ?_; clear hc; rintro e w' ⟨rfl, rfl⟩)
    go_ret
    exact ⟨rfl, rfl⟩
  · have e : bhd x = some (fld x 2) := by simp [bhd, h0]
    have h1 : 0 < fld x 2 := by omega
    rw [e]
    go_enter Tryz.func193, Tryz.ntmps193
    go_wp2_with (go_at_call 130; refine hc.mono ?_; clear hc; rintro e w' ⟨rfl, rfl⟩)
    go_ret
    exact ⟨rfl, rfl⟩

/-- The place right behind an object. -/
def endAt (A : Ar) : Option Nat → Nat
  | none => 0
  | some i => i + 1 + fld (A.ws.getD i 0) 0

set_option maxHeartbeats 400000 in
theorem endOf_in (h : IsAr n₀ b vw vb w A) (o : Option Nat) (ho : ∀ i, o = some i → i < A.ws.length) :
    Calls Tryz.prog 175 #[.pointer (some ⟨b, 0, none⟩), .int .i64 (optI o)] w fun e w' => e = .returned (.int .i64 (endAt A o)) ∧ w' = w := by
  cases o with
  | none =>
    clear h
    unfold optI endAt
    go_enter Tryz.func175, Tryz.ntmps175
    go_wp2
    go_ret
    exact ⟨rfl, rfl⟩
  | some i =>
    have hi := ho i rfl
    have hl := fld_lt (A.ws.getD i 0) 0
    have hc := (field_in h i (A.ws.getD i 0) 0 (by simp [List.getD, hi]) (by omega))
    have hle := h.le
    have hlim := h.lim
    unfold optI endAt
    dsimp only
    obtain ⟨y, hy⟩ : ∃ y, fld (A.ws.getD i 0) 0 = y := ⟨_, rfl⟩
    rw [hy] at hc hl ⊢
    clear h ho hy
    go_enter Tryz.func175, Tryz.ntmps175
    go_wp2_with (go_at_call 130; refine hc.mono ?_; clear hc; rintro e w' ⟨rfl, rfl⟩)
    go_ret
    exact ⟨ret_int (by omega), rfl⟩

def tieA (A : Ar) (x y : Option Nat) : Ar :=
  let A1 := match x with | some i => setW A i 2 (y.getD 0) | none => A
  match y with | some j => setW A1 j 1 (x.elim 0 (· + 1)) | none => { A1 with last := x }

set_option maxHeartbeats 1000000 in
theorem tie_in (h : IsAr n₀ b vw vb w A) (x y : Option Nat) (hx : ∀ i, x = some i → i < A.ws.length ∧ (y ≠ none → i + 1 < 1048576)) (hy : ∀ j, y = some j → j < A.ws.length) :
    Calls Tryz.prog 191 #[.pointer (some ⟨b, 0, none⟩), .int .i64 (optI x), .int .i64 (optI y)] w fun e w' => e = .returned (.tuple #[]) ∧
      IsAr n₀ b vw vb w' (tieA A x y) ∧ Step b vw vb w vw vb w' := by
  have hle := h.le
  have hlim := h.lim
  cases x with
  | none =>
    cases y with
    | none =>
      have hl := h.setLast none
      have H : Hid _ := hl
      have hf := h.f 3
      have hc3 := h.c3
      clear hl h hx hy
      unfold optI tieA
      dsimp only
      go_enter Tryz.func191, Tryz.ntmps191
      go_wp2
      go_end0
      exact ⟨rfl, H.out⟩
    | some j =>
      have hj := hy j rfl
      have hs := setField_at h j 1 0 hj (by omega) (by omega)
      unfold optI tieA
      dsimp only
      clear hx hy h
      go_enter Tryz.func191, Tryz.ntmps191
      go_wp2_with (go_at_call 192; refine hs.mono ?_; clear hs; rintro e w' ⟨rfl, hA', hS'⟩)
      go_end0
      exact ⟨rfl, hA', hS'⟩
  | some i =>
    obtain ⟨hi, hi2⟩ := hx i rfl
    cases y with
    | none =>
      have hs := setField_at h i 2 0 hi (by omega) (by omega)
      unfold optI tieA
      dsimp only
      clear hx hy h
      go_enter Tryz.func191, Tryz.ntmps191
      go_wp2_with (go_at_call 192; refine hs.mono ?_; clear hs; rintro e w' ⟨rfl, hA', hS'⟩; have hf := hA'.f 3; have hc3 := hA'.c3; have H : Hid _ := hA'.setLast (some i))
      go_end0
      exact ⟨rfl, H.out.1, hS'.trans H.out.2⟩
    | some j =>
      have hj := hy j rfl
      have hi2 := hi2 (by simp)
      have hs := setField_at h i 2 j hi (by omega) (by omega)
      unfold optI tieA
      dsimp only
      clear hx hy h
      go_enter Tryz.func191, Tryz.ntmps191
      go_wp2_with (first
        | (go_at_call 192; refine hs.mono ?_; clear hs; rintro e w1 ⟨rfl, hA1, hS1⟩; have hs2 := setField_at hA1 j 1 (i + 1) (by simpa using hj) (by omega) (by omega))
        | (go_at_call 192; refine hs2.mono ?_; clear hs2; rintro e w2 ⟨rfl, hA2, hS2⟩))
      go_end0
      exact ⟨rfl, hA2, hS1.trans hS2⟩

end Go.Proofs.YtampilfebmfhaaaGreatDoor

namespace Go.Proofs.YtampilfebmfhaaaGreatDoor
open Go.RowKit

variable {n₀ b : Nat} {vw vb : Value} {w : World} {A : Ar}

theorem info29 : (Tryz.prog.info? 71).map (fun i => (i.zero, i.size, i.bytes)) = some (some (.int .u64 0), 1, 8) := by kernel_rfl

theorem info4 : (Tryz.prog.info? 4).map (fun i => (i.zero, i.size, i.bytes)) = some (some (.bool false), 1, 1) := by kernel_rfl

set_option maxHeartbeats 1000000 in
theorem has_in (h : IsAr n₀ b vw vb w A) (hl : A.bs.length = A.ws.length) (i : Int) :
    Calls Tryz.prog 189 #[.pointer (some ⟨b, 0, none⟩), .int .i64 i] w fun e w' => e = .returned (.bool (decide (0 ≤ i) && A.bs.getD i.toNat false)) ∧ w' = w := by
  have he := end_in h
  have hle := h.le
  have hlim := h.lim
  by_cases h0 : 0 ≤ i
  · obtain ⟨j, rfl⟩ : ∃ j : Nat, i = j := ⟨i.toNat, by omega⟩
    by_cases h1 : j < A.ws.length
    · obtain ⟨x, hx⟩ : ∃ x, A.bs[j]? = some x := ⟨A.bs[j]'(by omega), by simp [hl, h1]⟩
      obtain ⟨g, c, hvb, hcell, _⟩ := h.mark hx
      have hc2 := h.c2
      rw [hvb, hl] at hc2
      have e : (decide (0 ≤ (j : Int)) && A.bs.getD (j : Int).toNat false) = x := by simp [List.getD, hx]
      rw [e]
      clear h hx e hvb
      obtain ⟨n, hn⟩ : ∃ n, A.ws.length = n := ⟨_, rfl⟩
      rw [hn] at *
      clear hn hl
      go_enter Tryz.func189, Tryz.ntmps189
      go_wp2_with (go_at_call 126; refine he.mono ?_; clear he; rintro e w' ⟨rfl, rfl⟩)
      go_ret
      exact ⟨rfl, rfl⟩
    · have e : (decide (0 ≤ (j : Int)) && A.bs.getD (j : Int).toNat false) = false := by simp [List.getD, hl, h1]
      rw [e]
      clear h e
      obtain ⟨n, hn⟩ : ∃ n, A.ws.length = n := ⟨_, rfl⟩
      rw [hn] at *
      clear hn hl
      go_enter Tryz.func189, Tryz.ntmps189
      go_wp2_with (go_at_call 126; refine he.mono ?_; clear he; rintro e w' ⟨rfl, rfl⟩)
      go_ret
      exact ⟨rfl, rfl⟩
  · have e : (decide (0 ≤ i) && A.bs.getD i.toNat false) = false := by simp [h0]
    rw [e]
    clear h e he hl hle hlim
    go_enter Tryz.func189, Tryz.ntmps189
    go_wp2
    go_ret
    exact ⟨rfl, rfl⟩

theorem grown_cell {w w1 : World} {row : Option Nat} (hg : w.grownBy w1 row) {k : Nat} (hk : k < w.heap.size) (hne : row ≠ some k) (j : Nat) : w1.cell? ⟨k, j, none⟩ = w.cell? ⟨k, j, none⟩ :=
  World.cell?_of_block (a := ⟨k, j, none⟩) (hg.block k hk (fun e => hne e.symm))

theorem grown_frozen {w w1 : World} {row : Option Nat} (hg : w.grownBy w1 row) {k : Nat} (hk : k < w.heap.size) (hne : row ≠ some k) (j : Nat) : w1.frozen? ⟨k, j, none⟩ = w.frozen? ⟨k, j, none⟩ :=
  World.frozen?_of_block (a := ⟨k, j, none⟩) (hg.block k hk (fun e => hne e.symm))

theorem mark_new {n₀ b g2 N k2 m : Nat} {v : Value} {w2 : World} {A : Ar} {W : List Nat} (h : IsAr n₀ b v (.slice (some ⟨g2, 0, none⟩) N k2) w2 { A with ws := W, bs := A.bs ++ List.replicate (m + 1) false }) (j : Nat) (hj : j = A.bs.length) :
    w2.cell? ⟨g2, j, none⟩ = some (.bool false) ∧ w2.frozen? ⟨g2, j, none⟩ = false := by
  obtain ⟨gm, cm, hvm, hcm, hfm⟩ := h.mark (i := j) (x := false) (by rw [List.getElem?_append_right (by omega)]; simp [hj])
  simp only [Value.slice.injEq, Option.some.injEq, Addr.mk.injEq, and_true] at hvm
  obtain ⟨rfl, _, _⟩ := hvm
  exact ⟨hcm, hfm⟩

/-- The arena behind 'add'. -/
def addA (A : Ar) (k size : Nat) : Ar :=
  let A1 : Ar := { A with ws := A.ws ++ List.replicate (size + 1) 0, bs := (A.bs ++ List.replicate (size + 1) false).set A.ws.length true }
  let A3 := setW (setW A1 A.ws.length 0 size) A.ws.length 3 k
  tieA (tieA A3 A.last (some A.ws.length)) (some A.ws.length) none

theorem tieA_len (A : Ar) (x y : Option Nat) : (tieA A x y).ws.length = A.ws.length := by
  cases x <;> cases y <;> simp [tieA]

theorem tieA_bs (A : Ar) (x y : Option Nat) : (tieA A x y).bs = A.bs := by
  cases x <;> cases y <;> simp [tieA]

theorem tieA_limit (A : Ar) (x y : Option Nat) : (tieA A x y).limit = A.limit := by
  cases x <;> cases y <;> simp [tieA]

set_option maxHeartbeats 1000000 in
theorem add_in (h : IsAr n₀ b vw vb w A) (hl : A.bs.length = A.ws.length) (hlast : ∀ i, A.last = some i → i < A.ws.length) (k size : Nat) (hk : k < 16) (hs : A.ws.length + size + 1 ≤ A.limit) :
    Calls Tryz.prog 181 #[.pointer (some ⟨b, 0, none⟩), .int .u8 k, .int .i64 size] w fun e w' => e = .returned (.int .i64 A.ws.length) ∧
      ∃ vw' vb', IsAr n₀ b vw' vb' w' (addA A k size) ∧ Step b vw vb w vw' vb' w' := by
  have he := end_in h
  have hle := h.le
  have hlim := h.lim
  have hbase : n₀ ≤ w.heap.size := Nat.le_trans h.base (Nat.le_of_lt h.lt)
  obtain ⟨i0, hi, hz0, hz1, hz2⟩ := info_parts info29
  obtain ⟨j0, hj, hy0, hy1, hy2⟩ := info_parts info4
  have hc1 := h.c1
  have hc2 := h.c2
  have hc3 := h.c3
  obtain ⟨p, c, rfl, _, _⟩ := IsAr.row_form h.rw
  obtain ⟨p2, c2, rfl, _, _⟩ := IsAr.row_form h.rb
  have HL : Hid (A.bs.length = A.ws.length) := hl
  have hbl : A.bs.length + size + 1 ≤ A.limit := by omega
  have hbq : A.ws.length < A.bs.length + (size + 1) := by omega
  clear hl
  go_enter Tryz.func181, Tryz.ntmps181
  go_wp2_with (first
    | (go_at_call 126; refine he.mono ?_; clear he; rintro e w' ⟨rfl, rfl⟩)
    | (at_builtin; refine wpList_append_zeros _ rfl _ _ 83 3 rfl n₀ 71 .i64 i0 (.int .u64 0) 8 Tryz.underlying83 Tryz.underlying3 hi hz0 hz1 hz2 rfl rfl _ _ _ rfl h.rw (size + 1) (by go_num) (by omega) (by unfold maxLen; omega) (by omega) hbase ?_; intro v' w1 hown1 hgrow1 hfr1
       obtain ⟨hA1, hS1⟩ := h.grownWords hown1 hgrow1 hfr1 (by omega)
       have d0 := grown_cell hgrow1 h.lt h.nw
       have d1 := grown_frozen hgrow1 h.lt h.nw
       have f1 := d1 1
       have f2 := d1 2
       have f3 := d1 3
       rw [h.f] at f1 f2 f3
       have e1 := (d0 1).trans hc1
       have e2 := (d0 2).trans hc2
       have e3 := (d0 3).trans hc3
       clear d0 d1
       obtain ⟨g1, k1, rfl, _, _⟩ := IsAr.row_some hown1 (by omega)
       clear hown1 hgrow1 hfr1 h hc1 hc2 hc3)
    | (at_builtin; refine wpList_append_zeros _ rfl _ _ 81 3 rfl n₀ 4 .i64 j0 (.bool false) 1 Tryz.underlying81 Tryz.underlying3 hj hy0 hy1 hy2 rfl rfl _ A.bs.length (A.bs.map Value.bool) rfl hA1.rb (size + 1) (by go_num) (by omega) (by unfold maxLen; omega) (by omega) (Nat.le_trans hbase hS1.size) ?_; intro v' w2 hown2 hgrow2 hfr2
       obtain ⟨hA2, hS2⟩ := hA1.grownMarks hown2 hgrow2 hfr2 (by dsimp only; omega)
       have d0 := grown_cell hgrow2 hA1.lt hA1.nb
       have d1 := grown_frozen hgrow2 hA1.lt hA1.nb
       have f1' := d1 1
       have f2' := d1 2
       have f3' := d1 3
       rw [hA1.f] at f1' f2' f3'
       have e1' := (d0 1).trans hA1.c1
       have e2' := (d0 2).trans hA1.c2
       have e3' := (d0 3).trans hA1.c3
       clear d0 d1
       obtain ⟨g2, k2, rfl, _, _⟩ := IsAr.row_some hown2 (by omega)
       clear hown2 hgrow2 hfr2 hA1 f1 f2 f3 e1 e2 e3
       obtain ⟨hcm, hfm⟩ := mark_new hA2 A.ws.length HL.out.symm
       have hgb : ¬ g2 = b := fun e => hA2.nb (by rw [e]; rfl)
       have hgb' : ¬ b = g2 := fun e => hgb e.symm
       have hA3 := hA2.setMark (g := g2) (c := k2) (i := A.ws.length) (y := true) (by simp)
       have hc3x := hA2.c3
       have hc2x := hA2.c2))
  have hS12 := hS1.trans (hS2.trans hA3.2)
  have hA3' := hA3.1
  have hx := setField_at hA3' A.ws.length 0 size (by simp) (by omega) (by omega)
  clear hA3 hA2 hS1 hS2 hcm hfm hc3x hc2x f1' f2' f3' e1' e2' e3' hA3'
  refine hx.mono ?_
  rintro e w4 ⟨rfl, hA4, hS4⟩
  clear hx
  have hS14 := hS12.trans hS4
  have hx := setField_at hA4 A.ws.length 3 k (by simp) (by omega) (by omega)
  clear hS12 hS4 hA4
  go_wp2_with (first
    | (go_at_call 192; refine hx.mono ?_; clear hx; rintro e w5 ⟨rfl, hA5, hS5⟩; have hc5 := hA5.c3; have hy := tie_in hA5 A.last (some A.ws.length) (fun i hi => ⟨by have := hlast i hi; simp; omega, fun _ => by have := hlast i hi; omega⟩) (fun i hi => by cases hi; simp))
    | (go_at_call 191; refine hy.mono ?_; clear hy; rintro e w6 ⟨rfl, hA6, hS6⟩; have hz := tie_in hA6 (some A.ws.length) none (fun i hi => ⟨by cases hi; simp [tieA_len], fun h => (h rfl).elim⟩) (fun i hi => by cases hi))
    | (go_at_call 191; refine hz.mono ?_; clear hz; rintro e w7 ⟨rfl, hA7, hS7⟩))
  go_ret
  exact ⟨rfl, _, _, hA7, hS14.trans (hS5.trans (hS6.trans hS7))⟩

end Go.Proofs.YtampilfebmfhaaaGreatDoor
