/- listing's line: its small calls. -/
import Derived.Test.YtnekcomkochmjaaGreatDoorLpMath
import Derived.Test.YtnekcomkochmjaaGreatDoorLkPage
import Derived.Test.YtnekcomkochmjaaGreatDoorShelf
import Derived.Test.YtnekcomkochmjaaGreatDoorLkTab
import Derived.Test.YtnekcomkochmjaaGreatDoorLkIns
namespace Go.Proofs.YtnekcomkochmjaaGreatDoor
set_option linter.unusedVariables false
set_option linter.unusedSimpArgs false
open Go.RowKit

namespace Lp
open Lk

variable {w : World}

/-- A line in memory. -/
def IsLn (b : Nat) (l : Ln) (w : World) : Prop := w.heap[b]? = some (.cells #[.string (bs l.rest), .bool l.wrong] 87 (0, 0))

/-- A step that turns one block alone of those that are there. -/
structure Rst (b : Nat) (w w' : World) : Prop where
  os : w'.os = w.os
  tape : w'.tape = w.tape
  output : w'.output = w.output
  size : w.heap.size ≤ w'.heap.size
  block : ∀ k, k < w.heap.size → k ≠ b → w'.heap[k]? = w.heap[k]?

theorem Rst.refl (b : Nat) (w : World) : Rst b w w := ⟨rfl, rfl, rfl, Nat.le_refl _, fun _ _ _ => rfl⟩

theorem Rst.trans {b : Nat} {w w' w'' : World} (h : Rst b w w') (g : Rst b w' w'') : Rst b w w'' :=
  ⟨g.os.trans h.os, g.tape.trans h.tape, g.output.trans h.output, Nat.le_trans h.size g.size, fun k hk hb => (g.block k (Nat.lt_of_lt_of_le hk h.size) hb).trans (h.block k hk hb)⟩

theorem Rst.of_below {b : Nat} {w w' : World} (h : Below w.heap.size w w') : Rst b w w' := ⟨h.os, h.tape, h.output, h.size, fun k hk _ => h.block k hk⟩

theorem Rst.set {b i : Nat} {w w' : World} (h : Rst b w w') (v : Value) : Rst b w (w'.setCell ⟨b, i, none⟩ v) :=
  ⟨h.os, h.tape, h.output, by simpa [World.setCell] using h.size, fun k hk hb => (heap_setCell_other w' ⟨b, i, none⟩ k v hb).trans (h.block k hk hb)⟩

theorem Rst.below {b n : Nat} {w w' : World} (h : Rst b w w') (hb : n ≤ b) (hn : n ≤ w.heap.size) : Below n w w' :=
  ⟨h.os, h.tape, h.output, h.size, fun k hk => h.block k (by omega) (by omega)⟩

theorem IsLn.lt {b : Nat} {l : Ln} (h : IsLn b l w) : b < w.heap.size := (Array.getElem?_eq_some_iff.1 h).1

theorem IsLn.below {b : Nat} {l : Ln} (h : IsLn b l w) {w' : World} (hB : Below w.heap.size w w') : IsLn b l w' := (hB.block _ h.lt).trans h

theorem IsLn.setRest {b : Nat} {l : Ln} (h : IsLn b l w) (r : List UInt8) : IsLn b ⟨r, l.wrong⟩ (w.setCell ⟨b, 0, none⟩ (.string (bs r))) := by
  have := heap_setCell_same w b 0 _ _ (.string (bs r)) h
  unfold IsLn
  simpa using this

theorem IsLn.setWrong {b : Nat} {l : Ln} (h : IsLn b l w) (x : Bool) : IsLn b ⟨l.rest, x⟩ (w.setCell ⟨b, 1, none⟩ (.bool x)) := by
  have := heap_setCell_same w b 1 _ _ (.bool x) h
  unfold IsLn
  simpa using this

set_option maxHeartbeats 1000000 in
theorem want_in {b : Nat} {l : Ln} (h : IsLn b l w) (x : Bool) :
    Calls Tryz.prog 101 #[.pointer (some ⟨b, 0, none⟩), .bool x] w fun e w' => e = .returned (.tuple #[]) ∧ IsLn b (l.want x) w' ∧ Rst b w w' := by
  obtain ⟨⟨c0, c1⟩, f0, f1⟩ := cell_row2 h
  have HL : Hid (IsLn b l w) := h
  clear h
  cases x with
  | true =>
    go_enter Tryz.func101, Tryz.ntmps101
    go_wp2
    go_end0
    exact ⟨rfl, by simpa [Ln.want] using HL.out, Rst.refl _ _⟩
  | false =>
    go_enter Tryz.func101, Tryz.ntmps101
    go_wp2
    go_end0
    exact ⟨rfl, by simpa [Ln.want] using HL.out.setWrong true, (Rst.refl _ _).set _⟩

set_option maxHeartbeats 1000000 in
theorem eat_in {b : Nat} {l : Ln} (h : IsLn b l w) (s : List UInt8) :
    Calls Tryz.prog 96 #[.pointer (some ⟨b, 0, none⟩), .string (bs s)] w fun e w' => e = .returned (.tuple #[]) ∧ IsLn b (l.eat s) w' ∧ Rst b w w' := by
  obtain ⟨⟨c0, c1⟩, f0, f1⟩ := cell_row2 h
  have HL : Hid (IsLn b l w) := h
  have HC := Tryz.strings_CutPrefix (bs l.rest) (bs s) w
  rw [bs_list, bs_list] at HC
  have h1 := h.setRest (Lib.trimPrefix l.rest s)
  have HW := want_in h1 (Lib.hasPrefix l.rest s)
  have e : (Ln.want ⟨Lib.trimPrefix l.rest s, l.wrong⟩ (Lib.hasPrefix l.rest s)) = l.eat s := by
    unfold Ln.want Ln.eat Lib.trimPrefix
    by_cases hp : Lib.hasPrefix l.rest s = true
    · simp [hp]
    · simp [hp]
  rw [e] at HW
  clear h e h1
  go_enter Tryz.func96, Tryz.ntmps96
  go_wp2_with (first
    | (go_at_call 111; refine HC.mono ?_; clear HC; rintro e w1 ⟨rfl, rfl⟩)
    | (go_at_call 101; refine HW.mono ?_; clear HW; rintro e w2 ⟨rfl, hl2, hr2⟩))
  go_end0
  exact ⟨rfl, hl2, ((Rst.refl _ _).set _).trans hr2⟩

end Lp

end Go.Proofs.YtnekcomkochmjaaGreatDoor

namespace Go.Proofs.YtnekcomkochmjaaGreatDoor
set_option linter.unusedVariables false
set_option linter.unusedSimpArgs false
open Go.RowKit

namespace Lp
open Lk

variable {w : World}

theorem bs_from (l : List UInt8) (k : Nat) : (bs l).extract k l.length = bs (l.drop k) := by
  apply ByteArray.ext
  simp [bs, ByteArray.data_extract]
  rw [List.take_of_length_le (by simp)]

theorem bs_upto (l : List UInt8) (k : Nat) : (bs l).extract 0 k = bs (l.take k) := by
  apply ByteArray.ext
  simp [bs, ByteArray.data_extract]

theorem bs_toList (l : List UInt8) : (bs l).toList = l := by
  have h := Lib.extract_toList (bs l) 0 l.length
  rw [bs_list] at h
  have e : (bs l).extract 0 l.length = bs l := by
    apply ByteArray.ext
    simp [bs, ByteArray.data_extract]
  rw [e] at h
  simpa using h

set_option maxRecDepth 20000 in
set_option maxHeartbeats 2000000 in
theorem first_in {b : Nat} {l : Ln} (h : IsLn b l w) (hl : l.rest.length ≤ 1048576) :
    Calls Tryz.prog 29 #[.pointer (some ⟨b, 0, none⟩)] w fun e w' => e = .returned (.string (bs l.first)) ∧ IsLn b l.behind w' ∧ Rst b w w' := by
  obtain ⟨⟨c0, c1⟩, f0, f1⟩ := cell_row2 h
  have HL : Hid (IsLn b l w) := h
  have HC := Tryz.strings_IndexByte (bs l.rest) 32 w
  rw [bs_list] at HC
  simp only [show (32 : Int).toNat.toUInt8 = 32 from rfl] at HC
  have hsz := bs_size l.rest
  obtain ⟨h1, h2⟩ := split_first l.rest
  have hta := List.takeWhile_append_dropWhile (p := (· != (32 : UInt8))) (l := l.rest)
  rcases h2 with h2 | ⟨t, h2⟩
  · rw [h2, List.append_nil] at hta
    rw [hta] at h1
    rw [index_none h1] at HC
    have e1 : l.first = l.rest := hta
    have e2 : l.behind = ⟨[], l.wrong⟩ := by unfold Ln.behind; rw [h2]
    rw [e1, e2]
    have hup := bs_upto l.rest l.rest.length
    have hfr := bs_from l.rest l.rest.length
    rw [List.take_length] at hup
    rw [List.drop_length] at hfr
    have h3 := HL.out.setRest []
    have HL3 : Hid _ := h3
    clear h h1 h2 hta e1 e2 h3
    go_enter Tryz.func29, Tryz.ntmps29
    go_wp2_with (first
      | (go_at_call 60; refine HC.mono ?_; clear HC; rintro e w1 ⟨rfl, rfl⟩))
    go_ret
    exact ⟨rfl, HL3.out, (Rst.refl _ _).set _⟩
  · rw [h2] at hta
    have hra : l.rest = l.first ++ 32 :: t := hta.symm
    have e2 : l.behind = ⟨32 :: t, l.wrong⟩ := by unfold Ln.behind; rw [h2]
    have hi : Lib.indexByte l.rest 32 = (l.first.length : Int) := by rw [hra]; exact index_at h1
    rw [hi] at HC
    rw [e2]
    obtain ⟨a, ha⟩ : ∃ a, l.first = a := ⟨_, rfl⟩
    rw [ha] at hra HC ⊢
    have hup := bs_upto l.rest a.length
    have hfr := bs_from l.rest a.length
    have t1 : l.rest.take a.length = a := by rw [hra]; simp
    have t2 : l.rest.drop a.length = 32 :: t := by rw [hra]; simp
    rw [t1] at hup
    rw [t2] at hfr
    have hle : (a.length : Int) ≤ (l.rest.length : Int) := by have := congrArg List.length hra; simp only [List.length_append, List.length_cons] at this; omega
    have hge : ¬ ((a.length : Int) < 0) := by omega
    have h3 := HL.out.setRest (32 :: t)
    have HL3 : Hid _ := h3
    clear h h1 h2 hta e2 h3 hi hra t1 t2 ha
    go_enter Tryz.func29, Tryz.ntmps29
    go_wp2_with (first
      | (go_at_call 60; refine HC.mono ?_; clear HC; rintro e w1 ⟨rfl, rfl⟩))
    go_ret
    exact ⟨rfl, HL3.out, (Rst.refl _ _).set _⟩

theorem eat_len (l : Ln) (s : List UInt8) : (l.eat s).rest.length ≤ l.rest.length := by
  unfold Ln.eat
  split <;> simp

set_option maxHeartbeats 1000000 in
theorem word_in {b : Nat} {l : Ln} (h : IsLn b l w) (hl : l.rest.length ≤ 1048576) :
    Calls Tryz.prog 103 #[.pointer (some ⟨b, 0, none⟩)] w fun e w' => e = .returned (.string (bs l.word)) ∧ IsLn b l.past w' ∧ Rst b w w' := by
  have H1 := eat_in h [32]
  have H2 := fun (W : World) (hW : IsLn b (l.eat [32]) W) => first_in hW (Nat.le_trans (eat_len l [32]) hl)
  clear h
  go_enter Tryz.func103, Tryz.ntmps103
  go_wp2_with (first
    | (go_at_call 96; refine H1.mono ?_; clear H1; rintro e w1 ⟨rfl, hl1, hr1⟩)
    | (go_at_call 29; refine (H2 _ hl1).mono ?_; clear H2; rintro e w2 ⟨rfl, hl2, hr2⟩))
  go_ret
  exact ⟨rfl, hl2, hr1.trans hr2⟩

/-- The two errors of strconv are there. -/
structure ErrT (w : World) : Prop where
  syn : ∃ te pe, w.cell? ⟨6, 0, none⟩ = some (.iface te pe) ∧ 6 < w.heap.size
  rng : ∃ te pe, w.cell? ⟨7, 0, none⟩ = some (.iface te pe) ∧ 7 < w.heap.size

theorem ErrT.below (h : ErrT w) {w' : World} (hB : Below w.heap.size w w') : ErrT w' := by
  obtain ⟨⟨a, b, h1, h2⟩, c, d, h3, h4⟩ := h
  exact ⟨⟨a, b, (hB.cell (p := ⟨_, 0, none⟩) h2).trans h1, Nat.lt_of_lt_of_le h2 hB.size⟩, c, d, (hB.cell (p := ⟨_, 0, none⟩) h4).trans h3, Nat.lt_of_lt_of_le h4 hB.size⟩

theorem itoa_fits {s : List UInt8} {v : Int} (h : Lib.parseIntB 64 s = .ok v) : -9223372036854775808 ≤ v ∧ v ≤ 9223372036854775807 := by
  unfold Lib.parseIntB at h
  cases s with
  | nil => cases h
  | cons c r =>
    simp only at h
    cases hu : Lib.parseUintB 64 (if c.toNat = 43 ∨ c.toNat = 45 then r else c :: r) with
    | range => rw [hu] at h; cases h
    | ok u =>
      rw [hu] at h
      simp only at h
      split at h
      · cases h
      · rename_i h1
        split at h
        · cases h
        · rename_i h2
          cases h
          by_cases hn : c.toNat = 45
          · rw [if_pos hn]
            have : ¬ (2 ^ (64 - 1) < u) := fun h => h2 ⟨hn, h⟩
            omega
          · rw [if_neg hn]
            have : ¬ (2 ^ (64 - 1) ≤ u) := fun h => h1 ⟨hn, h⟩
            omega
    | _ => rw [hu] at h; cases h

theorem below_bytes {w w' : World} (h : w' = w ∨ ∃ t, w' = Lib.bytesWorld w 5 t) : Below w.heap.size w w' := by
  rcases h with rfl | ⟨t, rfl⟩
  · exact Below.refl _ _
  · exact Lib.bytesWorld_below _ _ _

set_option maxRecDepth 20000 in
set_option maxHeartbeats 2000000 in
theorem numberOf_in (s : List UInt8) (hs : s.length ≤ 1048576) (he : ErrT w) (tab : Tab w) :
    Calls Tryz.prog 100 #[.string (bs s)] w fun e w' => e = .returned (.tuple #[.int .i64 (numP s).1, .bool (numP s).2]) ∧ Below w.heap.size w w' := by
  have hsz := bs_size s
  unfold numP
  cases hp : Lib.parseIntB 64 s with
  | ok v =>
    obtain ⟨v0, v1⟩ := itoa_fits hp
    have H1 := Tryz.strconv_ParseInt_10_at64_ok (bs s) (by rw [bs_size]; omega) v (by rw [bs_list]; exact hp) w
    have H2 := fun (W : World) (hW : Below w.heap.size w W) => (Tryz.strconv_FormatInt_10 v v0 v1 W (tab.below hW)).mono (R' := fun e w' => e = .returned (.string (bs (Lib.itoa v))) ∧ Below W.heap.size W w') (fun e w' hh => ⟨hh.1, by obtain ⟨k, os, e⟩ := hh.2; rw [e]; exact grow_below' W k os⟩)
    clear hp he tab
    simp only
    by_cases hv : Lib.itoa v = s
    · rw [decide_eq_true hv]
      have hv2 : ((bs (Lib.itoa v)).toList == (bs s).toList) = true := by rw [hv]; simp
      clear hv
      go_enter Tryz.func100, Tryz.ntmps100
      go_wp2_with (first
        | (go_at_call 116; refine H1.mono ?_; clear H1; rintro e w1 ⟨rfl, hw1⟩; have hB1 := below_bytes hw1; clear hw1)
        | (go_at_call 86; refine (H2 _ hB1).mono ?_; clear H2; rintro e w2 ⟨rfl, hB2⟩))
      go_ret2
      exact ⟨rfl, hB1.trans (hB2.mono hB1.size)⟩
    · rw [decide_eq_false hv]
      have hv2 : ((bs (Lib.itoa v)).toList == (bs s).toList) = false := by rw [bs_toList, bs_toList, beq_eq_false_iff_ne]; exact hv
      clear hv
      go_enter Tryz.func100, Tryz.ntmps100
      go_wp2_with (first
        | (go_at_call 116; refine H1.mono ?_; clear H1; rintro e w1 ⟨rfl, hw1⟩; have hB1 := below_bytes hw1; clear hw1)
        | (go_at_call 86; refine (H2 _ hB1).mono ?_; clear H2; rintro e w2 ⟨rfl, hB2⟩))
      go_ret2
      exact ⟨rfl, hB1.trans (hB2.mono hB1.size)⟩
  | range =>
    obtain ⟨te, pe, hc, _⟩ := he.rng
    have H1 := Tryz.strconv_ParseInt_10_at64_range (bs s) (by rw [bs_size]; omega) (by rw [bs_list]; exact hp) _ w hc (.inr ⟨te, pe, rfl⟩)
    rw [bs_list] at H1
    clear hp he tab hc
    simp only
    go_enter Tryz.func100, Tryz.ntmps100
    go_wp2_with (first
      | (go_at_call 116; refine H1.mono ?_; clear H1; rintro e w1 ⟨N, rfl, _, _, hB1⟩))
    go_ret2
    exact ⟨rfl, hB1⟩
  | _ =>
    obtain ⟨te, pe, hc, _⟩ := he.syn
    have H1 := Tryz.strconv_ParseInt_10_at64_none (bs s) (by rw [bs_size]; omega) ((congrArg (Lib.parseIntB 64) (bs_list s)).trans hp) trivial _ w hc (.inr ⟨te, pe, rfl⟩)
    clear hp he tab hc
    simp only
    go_enter Tryz.func100, Tryz.ntmps100
    go_wp2_with (first
      | (go_at_call 116; refine H1.mono ?_; clear H1; rintro e w1 ⟨N, rfl, _, _, hB1⟩))
    go_ret2
    exact ⟨rfl, hB1⟩


end Lp

end Go.Proofs.YtnekcomkochmjaaGreatDoor

namespace Go.Proofs.YtnekcomkochmjaaGreatDoor
set_option linter.unusedVariables false
set_option linter.unusedSimpArgs false
open Go.RowKit

namespace Lp
open Lk

variable {w : World}

/-- What stands of the world while a line is read: all that was there before it. -/
def Halted (p : Prop) : Prop := p

theorem halt_here {p : Prop} (h : Halted p) : p := h

structure Rd (w0 : World) (b : Nat) (l : Ln) (w : World) : Prop where
  ln : IsLn b l w
  base : w0.heap.size ≤ b
  bel : Below w0.heap.size w0 w
  len : l.rest.length ≤ 1048576

theorem Rd.step {w0 : World} {b : Nat} {l l' : Ln} {w w' : World} (h : Rd w0 b l w) (hl : IsLn b l' w') (hr : Rst b w w') (hn : l'.rest.length ≤ l.rest.length) : Rd w0 b l' w' :=
  ⟨hl, h.base, h.bel.trans (hr.below h.base h.bel.size), Nat.le_trans hn h.len⟩

theorem Rd.below {w0 : World} {b : Nat} {l : Ln} {w w' : World} (h : Rd w0 b l w) (hB : Below w.heap.size w w') : Rd w0 b l w' := ⟨h.ln.below hB, h.base, h.bel.trans (hB.mono h.bel.size), h.len⟩

theorem behind_len (l : Ln) : l.behind.rest.length ≤ l.rest.length := by
  unfold Ln.behind
  exact (List.dropWhile_sublist _).length_le

theorem past_len (l : Ln) : l.past.rest.length ≤ l.rest.length := Nat.le_trans (behind_len _) (eat_len l [32])

theorem first_len (l : Ln) : l.first.length ≤ l.rest.length := (List.takeWhile_sublist _).length_le

theorem word_len (l : Ln) : l.word.length ≤ l.rest.length := Nat.le_trans (first_len _) (eat_len l [32])

theorem numd_len (l : Ln) : l.numd.rest.length ≤ l.rest.length := past_len l

set_option maxRecDepth 20000 in
set_option maxHeartbeats 2000000 in
theorem long_in {w0 : World} {b : Nat} {l : Ln} (h : Rd w0 b l w) (he : ErrT w0) (tab : Tab w0) :
    Calls Tryz.prog 99 #[.pointer (some ⟨b, 0, none⟩)] w fun e w' => e = .returned (.int .i64 l.num) ∧ Rd w0 b l.numd w' ∧ Rst b w w' := by
  have H1 := word_in h.ln h.len
  have H2 := fun (W : World) (hW : Below w0.heap.size w0 W) => numberOf_in (w := W) l.word (Nat.le_trans (word_len l) h.len) (he.below hW) (tab.below hW)
  have H3 := fun (W : World) (hW : IsLn b l.past W) => want_in hW (numP l.word).2
  have HR : Hid _ := h
  unfold Ln.num
  have e0 : l.numd = l.past.want (numP l.word).2 := rfl
  have HE : Hid _ := e0
  generalize (numP l.word).1 = n at *
  generalize (numP l.word).2 = ok at *
  clear h e0 he tab
  go_enter Tryz.func99, Tryz.ntmps99
  go_wp2_with (first
    | (go_at_call 103; refine H1.mono ?_; clear H1; rintro e w1 ⟨rfl, hl1, hr1⟩; have hd1 := HR.out.step hl1 hr1 (past_len _))
    | (go_at_call 100; refine (H2 _ hd1.bel).mono ?_; clear H2; rintro e w2 ⟨rfl, hB2⟩; have hd2 := hd1.below hB2)
    | (go_at_call 101; refine (H3 _ hd2.ln).mono ?_; clear H3; rintro e w3 ⟨rfl, hl3, hr3⟩))
  go_ret
  refine ⟨rfl, ?_, (hr1.trans (Rst.of_below hB2)).trans hr3⟩
  rw [HE.out]
  exact hd2.step hl3 hr3 (Nat.le_refl _)

set_option maxRecDepth 20000 in
set_option maxHeartbeats 2000000 in
theorem number_in {w0 : World} {b : Nat} {l : Ln} (h : Rd w0 b l w) (he : ErrT w0) (tab : Tab w0) :
    Calls Tryz.prog 62 #[.pointer (some ⟨b, 0, none⟩)] w fun e w' => e = .returned (.int .i64 l.num) ∧ Rd w0 b l.numd w' ∧ Rst b w w' := by
  have H1 := long_in h he tab
  clear h he tab
  go_enter Tryz.func62, Tryz.ntmps62
  go_wp2_with (first
    | (go_at_call 99; refine H1.mono ?_; clear H1; rintro e w1 ⟨rfl, hl1, hr1⟩))
  go_ret
  exact ⟨rfl, hl1, hr1⟩

def Ln.right (l : Ln) : Bool := decide (l.rest = []) && !l.wrong

set_option maxRecDepth 20000 in
set_option maxHeartbeats 2000000 in
theorem isRight_in {b : Nat} {l : Ln} (h : IsLn b l w) :
    Calls Tryz.prog 35 #[.pointer (some ⟨b, 0, none⟩)] w fun e w' => e = .returned (.bool l.right) ∧ w' = w := by
  obtain ⟨⟨c0, c1⟩, -⟩ := cell_row2 h
  unfold Ln.right
  clear h
  have htl := bs_toList l.rest
  by_cases hr : l.rest = []
  · skip
    have e2 : bs l.rest = ⟨#[]⟩ := by rw [hr]; rfl
    rw [decide_eq_true hr]
    rw [e2] at c0
    clear hr htl e2
    cases hw : l.wrong with
    | true =>
      rw [hw] at c1
      go_enter Tryz.func35, Tryz.ntmps35
      go_wp2
      go_ret
      exact ⟨rfl, rfl⟩
    | false =>
      rw [hw] at c1
      go_enter Tryz.func35, Tryz.ntmps35
      go_wp2
      go_ret
      exact ⟨rfl, rfl⟩
  · rw [decide_eq_false hr]
    obtain ⟨c, r, hc⟩ : ∃ c r, l.rest = c :: r := by cases h : l.rest with | nil => exact absurd h hr | cons c r => exact ⟨c, r, rfl⟩
    have e1 : ((bs (c :: r)).toList == (⟨#[]⟩ : ByteArray).toList) = false := by rw [bs_toList, show (⟨#[]⟩ : ByteArray) = bs [] from rfl, bs_toList]; rfl
    have e3 : ¬ ((bs (c :: r)).toList = []) := by rw [bs_toList]; simp
    have e4 : ((bs (c :: r)).toList == ([] : List UInt8)) = false := by rw [bs_toList]; rfl
    have e5 : (bs (c :: r)).toList.isEmpty = false := by rw [bs_toList]; rfl
    rw [hc] at c0
    clear hr htl hc
    go_enter Tryz.func35, Tryz.ntmps35
    go_wp2
    go_ret
    exact ⟨rfl, rfl⟩

/-- The number of an instruction's line; the line behind it. -/
def Ln.lined (l : Ln) (s : List UInt8) : Ln := l.want ((numP s).2 && decide (0 ≤ (numP s).1))

set_option maxRecDepth 20000 in
set_option maxHeartbeats 2000000 in
theorem lineOf_in {w0 : World} {b : Nat} {l : Ln} (h : Rd w0 b l w) (s : List UInt8) (hs : s.length ≤ 1048576) (he : ErrT w0) (tab : Tab w0) :
    Calls Tryz.prog 67 #[.pointer (some ⟨b, 0, none⟩), .string (bs s)] w fun e w' => e = .returned (.int .i64 (numP s).1) ∧ Rd w0 b (l.lined s) w' ∧ Rst b w w' := by
  have H2 := numberOf_in (w := w) s hs (he.below h.bel) (tab.below h.bel)
  have H3 := fun (W : World) (x : Bool) (hW : IsLn b l W) => want_in hW x
  have HR : Hid _ := h
  unfold Ln.lined
  generalize (numP s).1 = n at *
  generalize (numP s).2 = ok at *
  clear h he tab
  cases ok with
  | true =>
    by_cases hn : 0 ≤ n
    · have hx : (true && decide (0 ≤ n)) = true := by simp [hn]
      rw [hx]
      clear hx
      go_enter Tryz.func67, Tryz.ntmps67
      go_wp2_with (first
        | (go_at_call 100; refine H2.mono ?_; clear H2; rintro e w2 ⟨rfl, hB2⟩; have hd2 := HR.out.below hB2)
        | (go_at_call 101; refine (H3 _ true hd2.ln).mono ?_; clear H3; rintro e w3 ⟨rfl, hl3, hr3⟩))
      go_ret
      exact ⟨rfl, hd2.step hl3 hr3 (Nat.le_refl _), (Rst.of_below hB2).trans hr3⟩
    · have hx : (true && decide (0 ≤ n)) = false := by simp [hn]
      have hn2 : n < 0 := by omega
      have hd : decide (0 ≤ n) = false := by simp; omega
      rw [hx]
      clear hx
      go_enter Tryz.func67, Tryz.ntmps67
      go_wp2_with (first
        | (go_at_call 100; refine H2.mono ?_; clear H2; rintro e w2 ⟨rfl, hB2⟩; have hd2 := HR.out.below hB2)
        | (go_at_call 101; refine (H3 _ false hd2.ln).mono ?_; clear H3; rintro e w3 ⟨rfl, hl3, hr3⟩))
      go_ret
      exact ⟨rfl, hd2.step hl3 hr3 (Nat.le_refl _), (Rst.of_below hB2).trans hr3⟩
  | false =>
    rw [Bool.false_and]
    go_enter Tryz.func67, Tryz.ntmps67
    go_wp2_with (first
      | (go_at_call 100; refine H2.mono ?_; clear H2; rintro e w2 ⟨rfl, hB2⟩; have hd2 := HR.out.below hB2)
      | (go_at_call 101; refine (H3 _ false hd2.ln).mono ?_; clear H3; rintro e w3 ⟨rfl, hl3, hr3⟩))
    go_ret
    exact ⟨rfl, hd2.step hl3 hr3 (Nat.le_refl _), (Rst.of_below hB2).trans hr3⟩

end Lp

end Go.Proofs.YtnekcomkochmjaaGreatDoor
