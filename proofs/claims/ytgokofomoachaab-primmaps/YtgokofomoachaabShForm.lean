/- show's hasRoom and hasForm: is an object as the document says, the values in it aside? -/
import Derived.Test.YtgokofomoachaabShLead
namespace Go.Proofs.Ytgokofomoachaab
set_option linter.unusedVariables false
set_option linter.unusedSimpArgs false
open Go.RowKit

variable {w : World}

def roomP (o : Om) : Prop := (o.l.length : Int) ≤ o.room ∧ o.room ≤ 262144

def formP (o : Om) : Prop :=
  (o.k = 3 → (o.s.size : Int) ≤ 4096 ∧ (o.l.length : Int) = 0 ∧ o.room = 0 ∧ o.fn = 0) ∧
  (o.k = 4 → (o.l.length : Int) ≤ 65536 ∧ roomP o ∧ o.s = ⟨#[]⟩ ∧ o.fn = 0) ∧
  (o.k = 5 → (o.l.length : Int) % 2 = 0 ∧ (o.l.length : Int) ≤ 131072 ∧ roomP o ∧ o.s = ⟨#[]⟩ ∧ o.fn = 0) ∧
  (o.k = 6 → 0 ≤ o.fn ∧ o.fn < 256 ∧ o.s = ⟨#[]⟩ ∧ o.room = 0) ∧
  (o.k = 7 → (o.l.length : Int) = 1 ∧ o.s = ⟨#[]⟩ ∧ o.room = 0 ∧ o.fn = 0)

theorem toList_ne {s : ByteArray} (h : ¬ s = ⟨#[]⟩) : ¬ s.toList = [] := by
  intro e
  rw [ByteArray.toList_eq] at e
  apply h
  cases s with
  | mk d => congr 1; simpa using e

theorem b_false {b : Bool} {p : Prop} (hb : b = true ↔ p) (h : ¬ p) : b = false := by cases b with | false => rfl | true => exact (h (hb.1 rfl)).elim

theorem b_true {b : Bool} {p : Prop} (hb : b = true ↔ p) (h : p) : b = true := hb.2 h

theorem b_of (p : Prop) : ∃ b : Bool, b = true ↔ p := by
  by_cases h : p
  · exact ⟨true, by simp [h]⟩
  · exact ⟨false, by simp [h]⟩

set_option maxHeartbeats 1000000 in
theorem hasRoom_in (o : Om) (q : Option Addr) (c : Nat) (w : World) (b : Bool) (hb : b = true ↔ roomP o) :
    Calls Try.prog 81 #[objV o q c] w fun e w' => e = .returned (.bool b) ∧ Below w.heap.size w w' := by
  unfold objV
  by_cases h1 : (o.l.length : Int) ≤ o.room
  · by_cases h2 : o.room ≤ 262144
    · rw [b_true hb ⟨h1, h2⟩]
      clear hb
      go_enter Try.func81, Try.ntmps81
      go_wp2
      go_ret
      exact ⟨rfl, below1 _ _⟩
    · rw [b_false hb (fun h => h2 h.2)]
      clear hb
      go_enter Try.func81, Try.ntmps81
      go_wp2
      go_ret
      exact ⟨rfl, below1 _ _⟩
  · rw [b_false hb (fun h => h1 h.1)]
    clear hb
    go_enter Try.func81, Try.ntmps81
    go_wp2
    go_ret
    exact ⟨rfl, below1 _ _⟩

set_option maxHeartbeats 1000000 in
theorem hasForm_3_0 (s : ByteArray) (l : List Vl) (room fn : Int) (q : Option Addr) (c : Nat) (w : World)  (h0 : ¬ ((s.size : Int) ≤ 4096)) :
    Calls Try.prog 77 #[.agg #[.int .u8 3, .string s, .slice q l.length c, .int .i64 room, .int .i64 fn]] w fun e w' => e = .returned (.bool false) ∧ Below w.heap.size w w' := by
  go_enter Try.func77, Try.ntmps77
  go_wp2
  go_ret
  refine ⟨?_, below1 _ _⟩
  first | rfl | (simp_all; done)

set_option maxHeartbeats 1000000 in
theorem hasForm_3_1 (s : ByteArray) (l : List Vl) (room fn : Int) (q : Option Addr) (c : Nat) (w : World) (h0 : (s.size : Int) ≤ 4096) (h1 : ¬ ((l.length : Int) = 0)) :
    Calls Try.prog 77 #[.agg #[.int .u8 3, .string s, .slice q l.length c, .int .i64 room, .int .i64 fn]] w fun e w' => e = .returned (.bool false) ∧ Below w.heap.size w w' := by
  have g : ((l.length : Int) == 0) = false := by simpa using h1
  go_enter Try.func77, Try.ntmps77
  go_wp2
  go_ret
  refine ⟨?_, below1 _ _⟩
  first | rfl | (simp_all; done)

set_option maxHeartbeats 1000000 in
theorem hasForm_3_2 (s : ByteArray) (l : List Vl) (room fn : Int) (q : Option Addr) (c : Nat) (w : World) (h0 : (s.size : Int) ≤ 4096) (h1 : (l.length : Int) = 0) (h2 : ¬ (room = 0)) :
    Calls Try.prog 77 #[.agg #[.int .u8 3, .string s, .slice q l.length c, .int .i64 room, .int .i64 fn]] w fun e w' => e = .returned (.bool false) ∧ Below w.heap.size w w' := by
  have g : (room == 0) = false := by simpa using h2
  go_enter Try.func77, Try.ntmps77
  go_wp2
  go_ret
  refine ⟨?_, below1 _ _⟩
  first | rfl | (simp_all; done)

set_option maxHeartbeats 1000000 in
theorem hasForm_3_3 (s : ByteArray) (l : List Vl) (room fn : Int) (q : Option Addr) (c : Nat) (w : World) (h0 : (s.size : Int) ≤ 4096) (h1 : (l.length : Int) = 0) (h2 : room = 0) (h3 : ¬ (fn = 0)) :
    Calls Try.prog 77 #[.agg #[.int .u8 3, .string s, .slice q l.length c, .int .i64 room, .int .i64 fn]] w fun e w' => e = .returned (.bool false) ∧ Below w.heap.size w w' := by
  subst h2
  have g : (fn == 0) = false := by simpa using h3
  go_enter Try.func77, Try.ntmps77
  go_wp2
  go_ret
  refine ⟨?_, below1 _ _⟩
  first | rfl | (simp_all; done)

set_option maxHeartbeats 1000000 in
theorem hasForm_3_4 (s : ByteArray) (l : List Vl) (room fn : Int) (q : Option Addr) (c : Nat) (w : World) (h0 : (s.size : Int) ≤ 4096) (h1 : (l.length : Int) = 0) (h2 : room = 0) (h3 : fn = 0) :
    Calls Try.prog 77 #[.agg #[.int .u8 3, .string s, .slice q l.length c, .int .i64 room, .int .i64 fn]] w fun e w' => e = .returned (.bool true) ∧ Below w.heap.size w w' := by
  subst h2
  subst h3
  go_enter Try.func77, Try.ntmps77
  go_wp2
  go_ret
  refine ⟨?_, below1 _ _⟩
  first | rfl | (simp_all; done)

theorem hasForm_3 (o : Om) (q : Option Addr) (c : Nat) (w : World) (hk : o.k = 3) (b : Bool) (hb : b = true ↔ formP o) :
    Calls Try.prog 77 #[objV o q c] w fun e w' => e = .returned (.bool b) ∧ Below w.heap.size w w' := by
  obtain ⟨k, s, l, room, fn⟩ := o
  dsimp only at hk
  subst hk
  unfold objV
  by_cases h0 : (s.size : Int) ≤ 4096
  · by_cases h1 : (l.length : Int) = 0
    · by_cases h2 : room = 0
      · by_cases h3 : fn = 0
        · rw [b_true hb ⟨fun _ => ⟨h0, h1, h2, h3⟩, fun h => absurd h (by dsimp only; omega), fun h => absurd h (by dsimp only; omega), fun h => absurd h (by dsimp only; omega), fun h => absurd h (by dsimp only; omega)⟩]; exact hasForm_3_4 s l room fn q c w h0 h1 h2 h3
        · rw [b_false hb (fun h => h3 (h.1 rfl).2.2.2)]; exact hasForm_3_3 s l room fn q c w h0 h1 h2 h3
      · rw [b_false hb (fun h => h2 (h.1 rfl).2.2.1)]; exact hasForm_3_2 s l room fn q c w h0 h1 h2
    · rw [b_false hb (fun h => h1 (h.1 rfl).2.1)]; exact hasForm_3_1 s l room fn q c w h0 h1
  · rw [b_false hb (fun h => h0 (h.1 rfl).1)]; exact hasForm_3_0 s l room fn q c w h0

set_option maxHeartbeats 1000000 in
theorem hasForm_4_0 (s : ByteArray) (l : List Vl) (room fn : Int) (q : Option Addr) (c : Nat) (w : World)  (h0 : ¬ ((l.length : Int) ≤ 65536)) :
    Calls Try.prog 77 #[.agg #[.int .u8 4, .string s, .slice q l.length c, .int .i64 room, .int .i64 fn]] w fun e w' => e = .returned (.bool false) ∧ Below w.heap.size w w' := by
  go_enter Try.func77, Try.ntmps77
  go_wp2
  go_ret
  refine ⟨?_, below1 _ _⟩
  first | rfl | (simp_all; done)

set_option maxHeartbeats 1000000 in
theorem hasForm_4_1 (s : ByteArray) (l : List Vl) (room fn : Int) (q : Option Addr) (c : Nat) (w : World) (h0 : (l.length : Int) ≤ 65536) (h1 : ¬ (roomP ⟨4, s, l, room, fn⟩)) :
    Calls Try.prog 77 #[.agg #[.int .u8 4, .string s, .slice q l.length c, .int .i64 room, .int .i64 fn]] w fun e w' => e = .returned (.bool false) ∧ Below w.heap.size w w' := by
  have hob := heap_alloc_new w (.cells #[.int .u8 4, .string s, .slice q l.length c, .int .i64 room, .int .i64 fn] 46)
  have hR := fun (W : World) => hasRoom_in ⟨4, s, l, room, fn⟩ q c W false (by simpa using h1)
  unfold objV at hR
  clear h1
  go_enter Try.func77, Try.ntmps77
  go_wp2_with (first
    | (go_at_call 81; refine (hR _).mono ?_; clear hR; rintro e w1 ⟨rfl, hB1⟩; obtain ⟨⟨d0, d1, d2, d3, d4⟩, -⟩ := cell_row5 ((hB1.block w.heap.size (by simp)).trans hob)))
  go_ret
  refine ⟨?_, (below1 w _).trans (hB1.mono (by simp))⟩
  first | rfl | (simp_all; done)

set_option maxHeartbeats 1000000 in
theorem hasForm_4_2 (s : ByteArray) (l : List Vl) (room fn : Int) (q : Option Addr) (c : Nat) (w : World) (h0 : (l.length : Int) ≤ 65536) (h1 : roomP ⟨4, s, l, room, fn⟩) (h2 : ¬ (s = ⟨#[]⟩)) :
    Calls Try.prog 77 #[.agg #[.int .u8 4, .string s, .slice q l.length c, .int .i64 room, .int .i64 fn]] w fun e w' => e = .returned (.bool false) ∧ Below w.heap.size w w' := by
  have g := toList_ne h2
  have hob := heap_alloc_new w (.cells #[.int .u8 4, .string s, .slice q l.length c, .int .i64 room, .int .i64 fn] 46)
  have hR := fun (W : World) => hasRoom_in ⟨4, s, l, room, fn⟩ q c W true (by simpa using h1)
  unfold objV at hR
  clear h1
  go_enter Try.func77, Try.ntmps77
  go_wp2_with (first
    | (go_at_call 81; refine (hR _).mono ?_; clear hR; rintro e w1 ⟨rfl, hB1⟩; obtain ⟨⟨d0, d1, d2, d3, d4⟩, -⟩ := cell_row5 ((hB1.block w.heap.size (by simp)).trans hob)))
  go_ret
  refine ⟨?_, (below1 w _).trans (hB1.mono (by simp))⟩
  first | rfl | (simp_all; done)

set_option maxHeartbeats 1000000 in
theorem hasForm_4_3 (s : ByteArray) (l : List Vl) (room fn : Int) (q : Option Addr) (c : Nat) (w : World) (h0 : (l.length : Int) ≤ 65536) (h1 : roomP ⟨4, s, l, room, fn⟩) (h2 : s = ⟨#[]⟩) (h3 : ¬ (fn = 0)) :
    Calls Try.prog 77 #[.agg #[.int .u8 4, .string s, .slice q l.length c, .int .i64 room, .int .i64 fn]] w fun e w' => e = .returned (.bool false) ∧ Below w.heap.size w w' := by
  subst h2
  have g : (fn == 0) = false := by simpa using h3
  have hob := heap_alloc_new w (.cells #[.int .u8 4, .string ⟨#[]⟩, .slice q l.length c, .int .i64 room, .int .i64 fn] 46)
  have hR := fun (W : World) => hasRoom_in ⟨4, ⟨#[]⟩, l, room, fn⟩ q c W true (by simpa using h1)
  unfold objV at hR
  clear h1
  go_enter Try.func77, Try.ntmps77
  go_wp2_with (first
    | (go_at_call 81; refine (hR _).mono ?_; clear hR; rintro e w1 ⟨rfl, hB1⟩; obtain ⟨⟨d0, d1, d2, d3, d4⟩, -⟩ := cell_row5 ((hB1.block w.heap.size (by simp)).trans hob)))
  go_ret
  refine ⟨?_, (below1 w _).trans (hB1.mono (by simp))⟩
  first | rfl | (simp_all; done)

set_option maxHeartbeats 1000000 in
theorem hasForm_4_4 (s : ByteArray) (l : List Vl) (room fn : Int) (q : Option Addr) (c : Nat) (w : World) (h0 : (l.length : Int) ≤ 65536) (h1 : roomP ⟨4, s, l, room, fn⟩) (h2 : s = ⟨#[]⟩) (h3 : fn = 0) :
    Calls Try.prog 77 #[.agg #[.int .u8 4, .string s, .slice q l.length c, .int .i64 room, .int .i64 fn]] w fun e w' => e = .returned (.bool true) ∧ Below w.heap.size w w' := by
  subst h2
  subst h3
  have hob := heap_alloc_new w (.cells #[.int .u8 4, .string ⟨#[]⟩, .slice q l.length c, .int .i64 room, .int .i64 0] 46)
  have hR := fun (W : World) => hasRoom_in ⟨4, ⟨#[]⟩, l, room, 0⟩ q c W true (by simpa using h1)
  unfold objV at hR
  clear h1
  go_enter Try.func77, Try.ntmps77
  go_wp2_with (first
    | (go_at_call 81; refine (hR _).mono ?_; clear hR; rintro e w1 ⟨rfl, hB1⟩; obtain ⟨⟨d0, d1, d2, d3, d4⟩, -⟩ := cell_row5 ((hB1.block w.heap.size (by simp)).trans hob)))
  go_ret
  refine ⟨?_, (below1 w _).trans (hB1.mono (by simp))⟩
  first | rfl | (simp_all; done)

theorem hasForm_4 (o : Om) (q : Option Addr) (c : Nat) (w : World) (hk : o.k = 4) (b : Bool) (hb : b = true ↔ formP o) :
    Calls Try.prog 77 #[objV o q c] w fun e w' => e = .returned (.bool b) ∧ Below w.heap.size w w' := by
  obtain ⟨k, s, l, room, fn⟩ := o
  dsimp only at hk
  subst hk
  unfold objV
  by_cases h0 : (l.length : Int) ≤ 65536
  · by_cases h1 : roomP ⟨4, s, l, room, fn⟩
    · by_cases h2 : s = ⟨#[]⟩
      · by_cases h3 : fn = 0
        · rw [b_true hb ⟨fun h => absurd h (by dsimp only; omega), fun _ => ⟨h0, h1, h2, h3⟩, fun h => absurd h (by dsimp only; omega), fun h => absurd h (by dsimp only; omega), fun h => absurd h (by dsimp only; omega)⟩]; exact hasForm_4_4 s l room fn q c w h0 h1 h2 h3
        · rw [b_false hb (fun h => h3 (h.2.1 rfl).2.2.2)]; exact hasForm_4_3 s l room fn q c w h0 h1 h2 h3
      · rw [b_false hb (fun h => h2 (h.2.1 rfl).2.2.1)]; exact hasForm_4_2 s l room fn q c w h0 h1 h2
    · rw [b_false hb (fun h => h1 (h.2.1 rfl).2.1)]; exact hasForm_4_1 s l room fn q c w h0 h1
  · rw [b_false hb (fun h => h0 (h.2.1 rfl).1)]; exact hasForm_4_0 s l room fn q c w h0

set_option maxHeartbeats 1000000 in
theorem hasForm_5_0 (s : ByteArray) (l : List Vl) (room fn : Int) (q : Option Addr) (c : Nat) (w : World)  (h0 : ¬ ((l.length : Int) % 2 = 0)) :
    Calls Try.prog 77 #[.agg #[.int .u8 5, .string s, .slice q l.length c, .int .i64 room, .int .i64 fn]] w fun e w' => e = .returned (.bool false) ∧ Below w.heap.size w w' := by
  have g : ((l.length : Int) % 2 == 0) = false := by simpa using h0
  go_enter Try.func77, Try.ntmps77
  go_wp2
  go_ret
  refine ⟨?_, below1 _ _⟩
  first | rfl | (simp_all; done)

set_option maxHeartbeats 1000000 in
theorem hasForm_5_1 (s : ByteArray) (l : List Vl) (room fn : Int) (q : Option Addr) (c : Nat) (w : World) (h0 : (l.length : Int) % 2 = 0) (h1 : ¬ ((l.length : Int) ≤ 131072)) :
    Calls Try.prog 77 #[.agg #[.int .u8 5, .string s, .slice q l.length c, .int .i64 room, .int .i64 fn]] w fun e w' => e = .returned (.bool false) ∧ Below w.heap.size w w' := by
  go_enter Try.func77, Try.ntmps77
  go_wp2
  go_ret
  refine ⟨?_, below1 _ _⟩
  first | rfl | (simp_all; done)

set_option maxHeartbeats 1000000 in
theorem hasForm_5_2 (s : ByteArray) (l : List Vl) (room fn : Int) (q : Option Addr) (c : Nat) (w : World) (h0 : (l.length : Int) % 2 = 0) (h1 : (l.length : Int) ≤ 131072) (h2 : ¬ (roomP ⟨5, s, l, room, fn⟩)) :
    Calls Try.prog 77 #[.agg #[.int .u8 5, .string s, .slice q l.length c, .int .i64 room, .int .i64 fn]] w fun e w' => e = .returned (.bool false) ∧ Below w.heap.size w w' := by
  have hob := heap_alloc_new w (.cells #[.int .u8 5, .string s, .slice q l.length c, .int .i64 room, .int .i64 fn] 46)
  have hR := fun (W : World) => hasRoom_in ⟨5, s, l, room, fn⟩ q c W false (by simpa using h2)
  unfold objV at hR
  clear h2
  go_enter Try.func77, Try.ntmps77
  go_wp2_with (first
    | (go_at_call 81; refine (hR _).mono ?_; clear hR; rintro e w1 ⟨rfl, hB1⟩; obtain ⟨⟨d0, d1, d2, d3, d4⟩, -⟩ := cell_row5 ((hB1.block w.heap.size (by simp)).trans hob)))
  go_ret
  refine ⟨?_, (below1 w _).trans (hB1.mono (by simp))⟩
  first | rfl | (simp_all; done)

set_option maxHeartbeats 1000000 in
theorem hasForm_5_3 (s : ByteArray) (l : List Vl) (room fn : Int) (q : Option Addr) (c : Nat) (w : World) (h0 : (l.length : Int) % 2 = 0) (h1 : (l.length : Int) ≤ 131072) (h2 : roomP ⟨5, s, l, room, fn⟩) (h3 : ¬ (s = ⟨#[]⟩)) :
    Calls Try.prog 77 #[.agg #[.int .u8 5, .string s, .slice q l.length c, .int .i64 room, .int .i64 fn]] w fun e w' => e = .returned (.bool false) ∧ Below w.heap.size w w' := by
  have g := toList_ne h3
  have hob := heap_alloc_new w (.cells #[.int .u8 5, .string s, .slice q l.length c, .int .i64 room, .int .i64 fn] 46)
  have hR := fun (W : World) => hasRoom_in ⟨5, s, l, room, fn⟩ q c W true (by simpa using h2)
  unfold objV at hR
  clear h2
  go_enter Try.func77, Try.ntmps77
  go_wp2_with (first
    | (go_at_call 81; refine (hR _).mono ?_; clear hR; rintro e w1 ⟨rfl, hB1⟩; obtain ⟨⟨d0, d1, d2, d3, d4⟩, -⟩ := cell_row5 ((hB1.block w.heap.size (by simp)).trans hob)))
  go_ret
  refine ⟨?_, (below1 w _).trans (hB1.mono (by simp))⟩
  first | rfl | (simp_all; done)

set_option maxHeartbeats 1000000 in
theorem hasForm_5_4 (s : ByteArray) (l : List Vl) (room fn : Int) (q : Option Addr) (c : Nat) (w : World) (h0 : (l.length : Int) % 2 = 0) (h1 : (l.length : Int) ≤ 131072) (h2 : roomP ⟨5, s, l, room, fn⟩) (h3 : s = ⟨#[]⟩) (h4 : ¬ (fn = 0)) :
    Calls Try.prog 77 #[.agg #[.int .u8 5, .string s, .slice q l.length c, .int .i64 room, .int .i64 fn]] w fun e w' => e = .returned (.bool false) ∧ Below w.heap.size w w' := by
  subst h3
  have g : (fn == 0) = false := by simpa using h4
  have hob := heap_alloc_new w (.cells #[.int .u8 5, .string ⟨#[]⟩, .slice q l.length c, .int .i64 room, .int .i64 fn] 46)
  have hR := fun (W : World) => hasRoom_in ⟨5, ⟨#[]⟩, l, room, fn⟩ q c W true (by simpa using h2)
  unfold objV at hR
  clear h2
  go_enter Try.func77, Try.ntmps77
  go_wp2_with (first
    | (go_at_call 81; refine (hR _).mono ?_; clear hR; rintro e w1 ⟨rfl, hB1⟩; obtain ⟨⟨d0, d1, d2, d3, d4⟩, -⟩ := cell_row5 ((hB1.block w.heap.size (by simp)).trans hob)))
  go_ret
  refine ⟨?_, (below1 w _).trans (hB1.mono (by simp))⟩
  first | rfl | (simp_all; done)

set_option maxHeartbeats 1000000 in
theorem hasForm_5_5 (s : ByteArray) (l : List Vl) (room fn : Int) (q : Option Addr) (c : Nat) (w : World) (h0 : (l.length : Int) % 2 = 0) (h1 : (l.length : Int) ≤ 131072) (h2 : roomP ⟨5, s, l, room, fn⟩) (h3 : s = ⟨#[]⟩) (h4 : fn = 0) :
    Calls Try.prog 77 #[.agg #[.int .u8 5, .string s, .slice q l.length c, .int .i64 room, .int .i64 fn]] w fun e w' => e = .returned (.bool true) ∧ Below w.heap.size w w' := by
  subst h3
  subst h4
  have hob := heap_alloc_new w (.cells #[.int .u8 5, .string ⟨#[]⟩, .slice q l.length c, .int .i64 room, .int .i64 0] 46)
  have hR := fun (W : World) => hasRoom_in ⟨5, ⟨#[]⟩, l, room, 0⟩ q c W true (by simpa using h2)
  unfold objV at hR
  clear h2
  go_enter Try.func77, Try.ntmps77
  go_wp2_with (first
    | (go_at_call 81; refine (hR _).mono ?_; clear hR; rintro e w1 ⟨rfl, hB1⟩; obtain ⟨⟨d0, d1, d2, d3, d4⟩, -⟩ := cell_row5 ((hB1.block w.heap.size (by simp)).trans hob)))
  go_ret
  refine ⟨?_, (below1 w _).trans (hB1.mono (by simp))⟩
  first | rfl | (simp_all; done)

theorem hasForm_5 (o : Om) (q : Option Addr) (c : Nat) (w : World) (hk : o.k = 5) (b : Bool) (hb : b = true ↔ formP o) :
    Calls Try.prog 77 #[objV o q c] w fun e w' => e = .returned (.bool b) ∧ Below w.heap.size w w' := by
  obtain ⟨k, s, l, room, fn⟩ := o
  dsimp only at hk
  subst hk
  unfold objV
  by_cases h0 : (l.length : Int) % 2 = 0
  · by_cases h1 : (l.length : Int) ≤ 131072
    · by_cases h2 : roomP ⟨5, s, l, room, fn⟩
      · by_cases h3 : s = ⟨#[]⟩
        · by_cases h4 : fn = 0
          · rw [b_true hb ⟨fun h => absurd h (by dsimp only; omega), fun h => absurd h (by dsimp only; omega), fun _ => ⟨h0, h1, h2, h3, h4⟩, fun h => absurd h (by dsimp only; omega), fun h => absurd h (by dsimp only; omega)⟩]; exact hasForm_5_5 s l room fn q c w h0 h1 h2 h3 h4
          · rw [b_false hb (fun h => h4 (h.2.2.1 rfl).2.2.2.2)]; exact hasForm_5_4 s l room fn q c w h0 h1 h2 h3 h4
        · rw [b_false hb (fun h => h3 (h.2.2.1 rfl).2.2.2.1)]; exact hasForm_5_3 s l room fn q c w h0 h1 h2 h3
      · rw [b_false hb (fun h => h2 (h.2.2.1 rfl).2.2.1)]; exact hasForm_5_2 s l room fn q c w h0 h1 h2
    · rw [b_false hb (fun h => h1 (h.2.2.1 rfl).2.1)]; exact hasForm_5_1 s l room fn q c w h0 h1
  · rw [b_false hb (fun h => h0 (h.2.2.1 rfl).1)]; exact hasForm_5_0 s l room fn q c w h0

set_option maxHeartbeats 1000000 in
theorem hasForm_6_0 (s : ByteArray) (l : List Vl) (room fn : Int) (q : Option Addr) (c : Nat) (w : World)  (h0 : ¬ (0 ≤ fn)) :
    Calls Try.prog 77 #[.agg #[.int .u8 6, .string s, .slice q l.length c, .int .i64 room, .int .i64 fn]] w fun e w' => e = .returned (.bool false) ∧ Below w.heap.size w w' := by
  go_enter Try.func77, Try.ntmps77
  go_wp2
  go_ret
  refine ⟨?_, below1 _ _⟩
  first | rfl | (simp_all; done)

set_option maxHeartbeats 1000000 in
theorem hasForm_6_1 (s : ByteArray) (l : List Vl) (room fn : Int) (q : Option Addr) (c : Nat) (w : World) (h0 : 0 ≤ fn) (h1 : ¬ (fn < 256)) :
    Calls Try.prog 77 #[.agg #[.int .u8 6, .string s, .slice q l.length c, .int .i64 room, .int .i64 fn]] w fun e w' => e = .returned (.bool false) ∧ Below w.heap.size w w' := by
  go_enter Try.func77, Try.ntmps77
  go_wp2
  go_ret
  refine ⟨?_, below1 _ _⟩
  first | rfl | (simp_all; done)

set_option maxHeartbeats 1000000 in
theorem hasForm_6_2 (s : ByteArray) (l : List Vl) (room fn : Int) (q : Option Addr) (c : Nat) (w : World) (h0 : 0 ≤ fn) (h1 : fn < 256) (h2 : ¬ (s = ⟨#[]⟩)) :
    Calls Try.prog 77 #[.agg #[.int .u8 6, .string s, .slice q l.length c, .int .i64 room, .int .i64 fn]] w fun e w' => e = .returned (.bool false) ∧ Below w.heap.size w w' := by
  have g := toList_ne h2
  go_enter Try.func77, Try.ntmps77
  go_wp2
  go_ret
  refine ⟨?_, below1 _ _⟩
  first | rfl | (simp_all; done)

set_option maxHeartbeats 1000000 in
theorem hasForm_6_3 (s : ByteArray) (l : List Vl) (room fn : Int) (q : Option Addr) (c : Nat) (w : World) (h0 : 0 ≤ fn) (h1 : fn < 256) (h2 : s = ⟨#[]⟩) (h3 : ¬ (room = 0)) :
    Calls Try.prog 77 #[.agg #[.int .u8 6, .string s, .slice q l.length c, .int .i64 room, .int .i64 fn]] w fun e w' => e = .returned (.bool false) ∧ Below w.heap.size w w' := by
  subst h2
  have g : (room == 0) = false := by simpa using h3
  go_enter Try.func77, Try.ntmps77
  go_wp2
  go_ret
  refine ⟨?_, below1 _ _⟩
  first | rfl | (simp_all; done)

set_option maxHeartbeats 1000000 in
theorem hasForm_6_4 (s : ByteArray) (l : List Vl) (room fn : Int) (q : Option Addr) (c : Nat) (w : World) (h0 : 0 ≤ fn) (h1 : fn < 256) (h2 : s = ⟨#[]⟩) (h3 : room = 0) :
    Calls Try.prog 77 #[.agg #[.int .u8 6, .string s, .slice q l.length c, .int .i64 room, .int .i64 fn]] w fun e w' => e = .returned (.bool true) ∧ Below w.heap.size w w' := by
  subst h2
  subst h3
  go_enter Try.func77, Try.ntmps77
  go_wp2
  go_ret
  refine ⟨?_, below1 _ _⟩
  first | rfl | (simp_all; done)

theorem hasForm_6 (o : Om) (q : Option Addr) (c : Nat) (w : World) (hk : o.k = 6) (b : Bool) (hb : b = true ↔ formP o) :
    Calls Try.prog 77 #[objV o q c] w fun e w' => e = .returned (.bool b) ∧ Below w.heap.size w w' := by
  obtain ⟨k, s, l, room, fn⟩ := o
  dsimp only at hk
  subst hk
  unfold objV
  by_cases h0 : 0 ≤ fn
  · by_cases h1 : fn < 256
    · by_cases h2 : s = ⟨#[]⟩
      · by_cases h3 : room = 0
        · rw [b_true hb ⟨fun h => absurd h (by dsimp only; omega), fun h => absurd h (by dsimp only; omega), fun h => absurd h (by dsimp only; omega), fun _ => ⟨h0, h1, h2, h3⟩, fun h => absurd h (by dsimp only; omega)⟩]; exact hasForm_6_4 s l room fn q c w h0 h1 h2 h3
        · rw [b_false hb (fun h => h3 (h.2.2.2.1 rfl).2.2.2)]; exact hasForm_6_3 s l room fn q c w h0 h1 h2 h3
      · rw [b_false hb (fun h => h2 (h.2.2.2.1 rfl).2.2.1)]; exact hasForm_6_2 s l room fn q c w h0 h1 h2
    · rw [b_false hb (fun h => h1 (h.2.2.2.1 rfl).2.1)]; exact hasForm_6_1 s l room fn q c w h0 h1
  · rw [b_false hb (fun h => h0 (h.2.2.2.1 rfl).1)]; exact hasForm_6_0 s l room fn q c w h0

set_option maxHeartbeats 1000000 in
theorem hasForm_7_0 (s : ByteArray) (l : List Vl) (room fn : Int) (q : Option Addr) (c : Nat) (w : World)  (h0 : ¬ ((l.length : Int) = 1)) :
    Calls Try.prog 77 #[.agg #[.int .u8 7, .string s, .slice q l.length c, .int .i64 room, .int .i64 fn]] w fun e w' => e = .returned (.bool false) ∧ Below w.heap.size w w' := by
  have g : ((l.length : Int) == 1) = false := by simpa using h0
  go_enter Try.func77, Try.ntmps77
  go_wp2
  go_ret
  refine ⟨?_, below1 _ _⟩
  first | rfl | (simp_all; done)

set_option maxHeartbeats 1000000 in
theorem hasForm_7_1 (s : ByteArray) (l : List Vl) (room fn : Int) (q : Option Addr) (c : Nat) (w : World) (h0 : (l.length : Int) = 1) (h1 : ¬ (s = ⟨#[]⟩)) :
    Calls Try.prog 77 #[.agg #[.int .u8 7, .string s, .slice q l.length c, .int .i64 room, .int .i64 fn]] w fun e w' => e = .returned (.bool false) ∧ Below w.heap.size w w' := by
  have g := toList_ne h1
  go_enter Try.func77, Try.ntmps77
  go_wp2
  go_ret
  refine ⟨?_, below1 _ _⟩
  first | rfl | (simp_all; done)

set_option maxHeartbeats 1000000 in
theorem hasForm_7_2 (s : ByteArray) (l : List Vl) (room fn : Int) (q : Option Addr) (c : Nat) (w : World) (h0 : (l.length : Int) = 1) (h1 : s = ⟨#[]⟩) (h2 : ¬ (room = 0)) :
    Calls Try.prog 77 #[.agg #[.int .u8 7, .string s, .slice q l.length c, .int .i64 room, .int .i64 fn]] w fun e w' => e = .returned (.bool false) ∧ Below w.heap.size w w' := by
  subst h1
  have g : (room == 0) = false := by simpa using h2
  go_enter Try.func77, Try.ntmps77
  go_wp2
  go_ret
  refine ⟨?_, below1 _ _⟩
  first | rfl | (simp_all; done)

set_option maxHeartbeats 1000000 in
theorem hasForm_7_3 (s : ByteArray) (l : List Vl) (room fn : Int) (q : Option Addr) (c : Nat) (w : World) (h0 : (l.length : Int) = 1) (h1 : s = ⟨#[]⟩) (h2 : room = 0) (h3 : ¬ (fn = 0)) :
    Calls Try.prog 77 #[.agg #[.int .u8 7, .string s, .slice q l.length c, .int .i64 room, .int .i64 fn]] w fun e w' => e = .returned (.bool false) ∧ Below w.heap.size w w' := by
  subst h1
  subst h2
  have g : (fn == 0) = false := by simpa using h3
  go_enter Try.func77, Try.ntmps77
  go_wp2
  go_ret
  refine ⟨?_, below1 _ _⟩
  first | rfl | (simp_all; done)

set_option maxHeartbeats 1000000 in
theorem hasForm_7_4 (s : ByteArray) (l : List Vl) (room fn : Int) (q : Option Addr) (c : Nat) (w : World) (h0 : (l.length : Int) = 1) (h1 : s = ⟨#[]⟩) (h2 : room = 0) (h3 : fn = 0) :
    Calls Try.prog 77 #[.agg #[.int .u8 7, .string s, .slice q l.length c, .int .i64 room, .int .i64 fn]] w fun e w' => e = .returned (.bool true) ∧ Below w.heap.size w w' := by
  subst h1
  subst h2
  subst h3
  go_enter Try.func77, Try.ntmps77
  go_wp2
  go_ret
  refine ⟨?_, below1 _ _⟩
  first | rfl | (simp_all; done)

theorem hasForm_7 (o : Om) (q : Option Addr) (c : Nat) (w : World) (hk : o.k = 7) (b : Bool) (hb : b = true ↔ formP o) :
    Calls Try.prog 77 #[objV o q c] w fun e w' => e = .returned (.bool b) ∧ Below w.heap.size w w' := by
  obtain ⟨k, s, l, room, fn⟩ := o
  dsimp only at hk
  subst hk
  unfold objV
  by_cases h0 : (l.length : Int) = 1
  · by_cases h1 : s = ⟨#[]⟩
    · by_cases h2 : room = 0
      · by_cases h3 : fn = 0
        · rw [b_true hb ⟨fun h => absurd h (by dsimp only; omega), fun h => absurd h (by dsimp only; omega), fun h => absurd h (by dsimp only; omega), fun h => absurd h (by dsimp only; omega), fun _ => ⟨h0, h1, h2, h3⟩⟩]; exact hasForm_7_4 s l room fn q c w h0 h1 h2 h3
        · rw [b_false hb (fun h => h3 (h.2.2.2.2 rfl).2.2.2)]; exact hasForm_7_3 s l room fn q c w h0 h1 h2 h3
      · rw [b_false hb (fun h => h2 (h.2.2.2.2 rfl).2.2.1)]; exact hasForm_7_2 s l room fn q c w h0 h1 h2
    · rw [b_false hb (fun h => h1 (h.2.2.2.2 rfl).2.1)]; exact hasForm_7_1 s l room fn q c w h0 h1
  · rw [b_false hb (fun h => h0 (h.2.2.2.2 rfl).1)]; exact hasForm_7_0 s l room fn q c w h0

/-- Is an object as the document says? -/
theorem hasForm_in (o : Om) (q : Option Addr) (c : Nat) (w : World) (h3 : 3 ≤ o.k) (h7 : o.k ≤ 7) (b : Bool) (hb : b = true ↔ formP o) :
    Calls Try.prog 77 #[objV o q c] w fun e w' => e = .returned (.bool b) ∧ Below w.heap.size w w' := by
  rcases (show o.k = 3 ∨ o.k = 4 ∨ o.k = 5 ∨ o.k = 6 ∨ o.k = 7 by omega) with h | h | h | h | h
  · exact hasForm_3 o q c w h b hb
  · exact hasForm_4 o q c w h b hb
  · exact hasForm_5 o q c w h b hb
  · exact hasForm_6 o q c w h b hb
  · exact hasForm_7 o q c w h b hb

end Go.Proofs.Ytgokofomoachaab
