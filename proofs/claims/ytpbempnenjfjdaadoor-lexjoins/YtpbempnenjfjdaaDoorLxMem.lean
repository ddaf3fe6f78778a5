/- A reader in memory; bytes. -/
import Derived.Test.YtpbempnenjfjdaaDoorShMem
import Derived.Test.YtpbempnenjfjdaaDoorLxMath
namespace Go.Proofs.YtpbempnenjfjdaaDoor
set_option linter.unusedVariables false
set_option linter.unusedSimpArgs false
open Go.RowKit

variable {w : World}

/-- A goal at which the walk stands. -/
def Halted (p : Prop) : Prop := p

theorem halt_here {p : Prop} (h : Halted p) : p := h

theorem tw_all (p : UInt8 → Bool) (l : List UInt8) : ∀ c ∈ l.takeWhile p, p c = true := by
  induction l with
  | nil => simp
  | cons d r ih =>
    intro c hc
    by_cases hd : p d = true
    · simp only [List.takeWhile, hd, List.mem_cons] at hc
      rcases hc with rfl | hc
      · exact hd
      · exact ih c hc
    · simp [List.takeWhile, hd] at hc

theorem dw_len (p : UInt8 → Bool) (l : List UInt8) : (l.dropWhile p).length ≤ l.length := by
  induction l with
  | nil => simp
  | cons d r ih =>
    by_cases hd : p d = true
    · simp only [List.dropWhile, hd, List.length_cons]; omega
    · simp [List.dropWhile, hd]

/-- A text of these bytes. -/
def bs (l : List UInt8) : ByteArray := ⟨l.toArray⟩

theorem bs_size (l : List UInt8) : (bs l).size = l.length := by show l.toArray.size = _; simp

theorem bs_list (l : List UInt8) : (bs l).data.toList = l := by simp [bs]

theorem bs_toList (l : List UInt8) : (bs l).toList = l := by
  have h := Lib.extract_toList (bs l) 0 l.length
  rw [bs_list] at h
  have e : (bs l).extract 0 l.length = bs l := by
    apply ByteArray.ext
    simp [bs, ByteArray.data_extract]
  rw [e] at h
  simpa using h

theorem bs_of (s : ByteArray) : bs s.data.toList = s := by simp [bs]

theorem bs_inj {a b : List UInt8} (h : bs a = bs b) : a = b := by rw [← bs_list a, h, bs_list]

theorem bs_eq {a b : List UInt8} : bs a = bs b ↔ a = b := ⟨bs_inj, fun h => by rw [h]⟩

theorem bs_app (a b : List UInt8) : bs a ++ bs b = bs (a ++ b) := by
  apply ByteArray.ext
  simp [bs]

theorem bs_get {l : List UInt8} {j : Nat} (h : j < (bs l).size) : l[j]? = some ((bs l)[j]'h) := by
  have h2 : j < l.length := by rw [bs_size] at h; exact h
  rw [List.getElem?_eq_getElem h2]
  rfl

theorem bs_from (l : List UInt8) (k : Nat) : (bs l).extract k l.length = bs (l.drop k) := by
  apply ByteArray.ext
  simp [bs, ByteArray.data_extract]
  rw [List.take_of_length_le (by simp)]

theorem bs_upto (l : List UInt8) (k : Nat) : (bs l).extract 0 k = bs (l.take k) := by
  apply ByteArray.ext
  simp [bs, ByteArray.data_extract]

theorem bs_piece (l : List UInt8) (i j : Nat) : (bs l).extract i j = bs ((l.drop i).take (j - i)) := by
  apply ByteArray.ext
  simp [bs, ByteArray.data_extract]

/-- A step that turns one block alone of those that are there. -/
structure Rst (b : Nat) (w w' : World) : Prop where
  os : w'.os = w.os
  tape : w'.tape = w.tape
  output : w'.output = w.output
  size : w.heap.size ≤ w'.heap.size
  block : ∀ k, k < w.heap.size → k ≠ b → w'.heap[k]? = w.heap[k]?

theorem Rst.refl (b : Nat) (w : World) : Rst b w w := ⟨rfl, rfl, rfl, Nat.le_refl _, fun _ _ _ => rfl⟩

theorem Rst.trans {b : Nat} {w w' w'' : World} (h : Rst b w w') (g : Rst b w' w'') : Rst b w w'' :=
  ⟨g.os.trans h.os, g.tape.trans h.tape, g.output.trans h.output, Nat.le_trans h.size g.size, fun k hk hb => (g.block k (Nat.lt_of_lt_of_le hk h.size) hb).trans (h.block k hk hb)⟩

theorem Rst.of_below {b : Nat} {w w' : World} (h : Below w.heap.size w w') : Rst b w w' := ⟨h.os, h.tape, h.output, h.size, fun k hk _ => h.block k hk⟩

theorem Rst.set {b i : Nat} {w w' : World} (h : Rst b w w') (v : Value) : Rst b w (w'.setCell ⟨b, i, none⟩ v) :=
  ⟨h.os, h.tape, h.output, by simpa [World.setCell] using h.size, fun k hk hb => (heap_setCell_other w' ⟨b, i, none⟩ k v hb).trans (h.block k hk hb)⟩

theorem Rst.below {b n : Nat} {w w' : World} (h : Rst b w w') (hn : n ≤ b) (hs : n ≤ w.heap.size) : Below n w w' :=
  ⟨h.os, h.tape, h.output, h.size, fun k hk => h.block k (by omega) (by omega)⟩

theorem Rst.drew {b : Nat} {w w' : World} (h : Rst b w w') : Rst b w w'.drew := ⟨h.os, h.tape, h.output, h.size, h.block⟩

theorem Rst.alloc {b : Nat} {w w' : World} (h : Rst b w w') (o : Obj) : Rst b w (w'.alloc o) := h.trans (.of_below (below1 w' o))

/-- A reader: what is left, and the line. -/
def IsRd (w : World) (b : Nat) (l : List UInt8) (ln : Nat) : Prop := w.heap[b]? = some (.cells #[.string (bs l), .int .i64 ln] 39 (0, 0))

theorem cell_row2 {W : World} {g : Nat} {a b : Value} {t : TypeId} (h : W.heap[g]? = some (.cells #[a, b] t (0, 0))) :
    (W.cell? ⟨g, 0, none⟩ = some a ∧ W.cell? ⟨g, 1, none⟩ = some b) ∧ W.frozen? ⟨g, 0, none⟩ = false ∧ W.frozen? ⟨g, 1, none⟩ = false :=
  ⟨⟨by rw [cell_of_row W g 0 _ _ _ h]; rfl, by rw [cell_of_row W g 1 _ _ _ h]; rfl⟩, frozen_of_row W g 0 _ _ h, frozen_of_row W g 1 _ _ h⟩

theorem IsRd.rest {b : Nat} {l : List UInt8} {ln : Nat} (h : IsRd w b l ln) (l' : List UInt8) : IsRd (w.setCell ⟨b, 0, none⟩ (.string (bs l'))) b l' ln := by
  have := heap_setCell_same w b 0 _ _ (.string (bs l')) h
  simpa [IsRd] using this

theorem IsRd.line {b : Nat} {l : List UInt8} {ln : Nat} (h : IsRd w b l ln) (m : Nat) : IsRd (w.setCell ⟨b, 1, none⟩ (.int .i64 m)) b l m := by
  have := heap_setCell_same w b 1 _ _ (.int .i64 m) h
  simpa [IsRd] using this

theorem IsRd.lt {b : Nat} {l : List UInt8} {ln : Nat} (h : IsRd w b l ln) : b < w.heap.size := (Array.getElem?_eq_some_iff.1 h).1

theorem IsRd.below {b : Nat} {l : List UInt8} {ln : Nat} (h : IsRd w b l ln) {w' : World} (hB : Below w.heap.size w w') : IsRd w' b l ln := (hB.block b h.lt).trans h

theorem bool_ret {a b : Bool} (h : a = true ↔ b = true) : Ending.returned (Value.bool a) = Ending.returned (Value.bool b) := by rw [Bool.eq_iff_iff.2 h]

/-! ### Bytes -/

set_option maxHeartbeats 1000000 in
theorem isLetter_in (c : UInt8) (w : World) : Calls Tryd.prog 19 #[.int .u8 c.toNat] w fun e w' => e = .returned (.bool (isL c)) ∧ w' = w := by
  have hc := c.toNat_lt
  generalize hn : c.toNat = n at *
  go_enter Tryd.func19, Tryd.ntmps19
  go_wp2
  all_goals
    go_ret
    refine ⟨bool_ret ?_, rfl⟩
    simp [isL, hn]
    try omega

set_option maxHeartbeats 1000000 in
theorem isDigit_in (c : UInt8) (w : World) : Calls Tryd.prog 21 #[.int .u8 c.toNat] w fun e w' => e = .returned (.bool (isD c)) ∧ w' = w := by
  generalize hn : c.toNat = n at *
  go_enter Tryd.func21, Tryd.ntmps21
  go_wp2
  all_goals
    go_ret
    refine ⟨bool_ret ?_, rfl⟩
    simp [isD, hn]
    try omega

set_option maxHeartbeats 1000000 in
theorem isInName_in (c : UInt8) (w : World) : Calls Tryd.prog 26 #[.int .u8 c.toNat] w fun e w' => e = .returned (.bool (isN c)) ∧ w' = w := by
  have H1 := isLetter_in c
  have H2 := isDigit_in c
  unfold isN
  go_enter Tryd.func26, Tryd.ntmps26
  go_wp2_with (first
    | (go_at_call 19; refine (H1 _).mono ?_; rintro e w1 ⟨rfl, rfl⟩)
    | (go_at_call 21; refine (H2 _).mono ?_; rintro e w1 ⟨rfl, rfl⟩))
  all_goals
    go_ret
    refine ⟨?_, rfl⟩
    simp [*]

set_option maxHeartbeats 1000000 in
theorem blank_in (c : UInt8) (w : World) : Calls Tryd.prog 15 #[.int .u8 c.toNat] w fun e w' => e = .returned (.bool (isB c)) ∧ w' = w := by
  generalize hn : c.toNat = n at *
  go_enter Tryd.func15, Tryd.ntmps15
  go_wp2
  all_goals
    go_ret
    refine ⟨bool_ret ?_, rfl⟩
    simp [isB, hn]
    try omega

set_option maxHeartbeats 1000000 in
theorem noNl_in (c : UInt8) (w : World) : Calls Tryd.prog 18 #[.int .u8 c.toNat] w fun e w' => e = .returned (.bool (noNl c)) ∧ w' = w := by
  generalize hn : c.toNat = n at *
  go_enter Tryd.func18, Tryd.ntmps18
  go_wp2
  all_goals
    go_ret
    refine ⟨bool_ret ?_, rfl⟩
    simp [noNl, hn]
    try omega

end Go.Proofs.YtpbempnenjfjdaaDoor
