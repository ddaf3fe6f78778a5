/- show's hasRoom and hasForm: is an object as the document says, the values in it aside? -/
import Derived.Test.YtgokofomoachaaaGreatDoorShLead
import Derived.Test.YtgokofomoachaaaGreatDoorShTold
import Derived.Test.YtgokofomoachaaaGreatDoorShTour
namespace Go.Proofs.YtgokofomoachaaaGreatDoor
set_option linter.unusedVariables false
set_option linter.unusedSimpArgs false
open Go.RowKit

variable {w : World}

def roomP (o : Om) : Prop := (o.l.length : Int) ≤ o.room ∧ o.room ≤ 262144

def formP (o : Om) : Prop :=
  (o.k = 3 → (o.s.size : Int) ≤ 4096 ∧ (o.l.length : Int) = 0 ∧ o.room = 0 ∧ o.fn = 0) ∧
  (o.k = 4 → (o.l.length : Int) ≤ 65536 ∧ roomP o ∧ o.s = ⟨#[]⟩ ∧ o.fn = 0) ∧
  (o.k = 5 → (o.l.length : Int) % 2 = 0 ∧ (o.l.length : Int) ≤ 131072 ∧ roomP o ∧ o.s = ⟨#[]⟩ ∧ o.fn = 0) ∧
  (o.k = 6 → 0 ≤ o.fn ∧ o.fn < 256 ∧ o.s = ⟨#[]⟩ ∧ o.room = 0) ∧
  (o.k = 7 → (o.l.length : Int) = 1 ∧ o.s = ⟨#[]⟩ ∧ o.room = 0 ∧ o.fn = 0)

theorem toList_ne {s : ByteArray} (h : ¬ s = ⟨#[]⟩) : ¬ s.toList = [] := by
  intro e
  rw [ByteArray.toList_eq] at e
  apply h
  cases s with
  | mk d => congr 1; simpa using e

theorem b_false {b : Bool} {p : Prop} (hb : b = true ↔ p) (h : ¬ p) : b = false := by cases b with | false => rfl | true => exact (h (hb.1 rfl)).elim

theorem b_true {b : Bool} {p : Prop} (hb : b = true ↔ p) (h : p) : b = true := hb.2 h

theorem b_of (p : Prop) : ∃ b : Bool, b = true ↔ p := by
  by_cases h : p
  · exact ⟨true, by simp [h]⟩
  · exact ⟨false, by simp [h]⟩

set_option maxHeartbeats 1000000 in
theorem hasRoom_in (o : Om) (q : Option Addr) (c : Nat) (w : World) (b : Bool) (hb : b = true ↔ roomP o) :
    Calls Tryz.prog 260 #[objV o q c] w fun e w' => e = .returned (.bool b) ∧ Below w.heap.size w w' := by
  unfold objV
  by_cases h1 : (o.l.length : Int) ≤ o.room
  · by_cases h2 : o.room ≤ 262144
    · rw [b_true hb ⟨h1, h2⟩]
      clear hb
      go_enter Tryz.func260, Tryz.ntmps260
      go_wp2
      go_ret
      exact ⟨rfl, below1 _ _⟩
    · rw [b_false hb (fun h => h2 h.2)]
      clear hb
      go_enter Tryz.func260, Tryz.ntmps260
      go_wp2
      go_ret
      exact ⟨rfl, below1 _ _⟩
  · rw [b_false hb (fun h => h1 h.1)]
    clear hb
    go_enter Tryz.func260, Tryz.ntmps260
    go_wp2
    go_ret
    exact ⟨rfl, below1 _ _⟩

set_option maxHeartbeats 1000000 in
theorem hasForm_3_0 (s : ByteArray) (l : List Vl) (room fn : Int) (q : Option Addr) (c : Nat) (w : World)  (h0 : ¬ ((s.size : Int) ≤ 4096)) :
    Calls Tryz.prog 237 #[.agg #[.int .u8 3, .string s, .slice q l.length c, .int .i64 room, .int .i64 fn]] w fun e w' => e = .returned (.bool false) ∧ Below w.heap.size w w' := by
  go_enter Tryz.func237, Tryz.ntmps237
  go_wp2
  go_ret
  refine ⟨?_, below1 _ _⟩
  first | rfl | (simp_all; done)

set_option maxHeartbeats 1000000 in
theorem hasForm_3_1 (s : ByteArray) (l : List Vl) (room fn : Int) (q : Option Addr) (c : Nat) (w : World) (h0 : (s.size : Int) ≤ 4096) (h1 : ¬ ((l.length : Int) = 0)) :
    Calls Tryz.prog 237 #[.agg #[.int .u8 3, .string s, .slice q l.length c, .int .i64 room, .int .i64 fn]] w fun e w' => e = .returned (.bool false) ∧ Below w.heap.size w w' := by
  have g : ((l.length : Int) == 0) = false := by simpa using h1
  go_enter Tryz.func237, Tryz.ntmps237
  go_wp2
  go_ret
  refine ⟨?_, below1 _ _⟩
  first | rfl | (simp_all; done)

set_option maxHeartbeats 1000000 in
theorem hasForm_3_2 (s : ByteArray) (l : List Vl) (room fn : Int) (q : Option Addr) (c : Nat) (w : World) (h0 : (s.size : Int) ≤ 4096) (h1 : (l.length : Int) = 0) (h2 : ¬ (room = 0)) :
    Calls Tryz.prog 237 #[.agg #[.int .u8 3, .string s, .slice q l.length c, .int .i64 room, .int .i64 fn]] w fun e w' => e = .returned (.bool false) ∧ Below w.heap.size w w' := by
  have g : (room == 0) = false := by simpa using h2
  go_enter Tryz.func237, Tryz.ntmps237
  go_wp2
  go_ret
  refine ⟨?_, below1 _ _⟩
  first | rfl | (simp_all; done)

set_option maxHeartbeats 1000000 in
theorem hasForm_3_3 (s : ByteArray) (l : List Vl) (room fn : Int) (q : Option Addr) (c : Nat) (w : World) (h0 : (s.size : Int) ≤ 4096) (h1 : (l.length : Int) = 0) (h2 : room = 0) (h3 : ¬ (fn = 0)) :
    Calls Tryz.prog 237 #[.agg #[.int .u8 3, .string s, .slice q l.length c, .int .i64 room, .int .i64 fn]] w fun e w' => e = .returned (.bool false) ∧ Below w.heap.size w w' := by
  subst h2
  have g : (fn == 0) = false := by simpa using h3
  go_enter Tryz.func237, Tryz.ntmps237
  go_wp2
  go_ret
  refine ⟨?_, below1 _ _⟩
  first | rfl | (simp_all; done)

set_option maxHeartbeats 1000000 in
theorem hasForm_3_4 (s : ByteArray) (l : List Vl) (room fn : Int) (q : Option Addr) (c : Nat) (w : World) (h0 : (s.size : Int) ≤ 4096) (h1 : (l.length : Int) = 0) (h2 : room = 0) (h3 : fn = 0) :
    Calls Tryz.prog 237 #[.agg #[.int .u8 3, .string s, .slice q l.length c, .int .i64 room, .int .i64 fn]] w fun e w' => e = .returned (.bool true) ∧ Below w.heap.size w w' := by
  subst h2
  subst h3
  go_enter Tryz.func237, Tryz.ntmps237
  go_wp2
  go_ret
  refine ⟨?_, below1 _ _⟩
  first | rfl | (simp_all; done)

theorem hasForm_3 (o : Om) (q : Option Addr) (c : Nat) (w : World) (hk : o.k = 3) (b : Bool) (hb : b = true ↔ formP o) :
    Calls Tryz.prog 237 #[objV o q c] w fun e w' => e = .returned (.bool b) ∧ Below w.heap.size w w' := by
  obtain ⟨k, s, l, room, fn⟩ := o
  dsimp only at hk
  subst hk
  unfold objV
  by_cases h0 : (s.size : Int) ≤ 4096
  · by_cases h1 : (l.length : Int) = 0
    · by_cases h2 : room = 0
      · by_cases h3 : fn = 0
        · rw [b_true hb ⟨fun _ => ⟨h0, h1, h2, h3⟩, fun h => absurd h (by dsimp only; omega), fun h => absurd h (by dsimp only; omega), fun h => absurd h (by dsimp only; omega), fun h => absurd h (by dsimp only; omega)⟩]; exact hasForm_3_4 s l room fn q c w h0 h1 h2 h3
        · rw [b_false hb (fun h => h3 (h.1 rfl).2.2.2)]; exact hasForm_3_3 s l room fn q c w h0 h1 h2 h3
      · rw [b_false hb (fun h => h2 (h.1 rfl).2.2.1)]; exact hasForm_3_2 s l room fn q c w h0 h1 h2
    · rw [b_false hb (fun h => h1 (h.1 rfl).2.1)]; exact hasForm_3_1 s l room fn q c w h0 h1
  · rw [b_false hb (fun h => h0 (h.1 rfl).1)]; exact hasForm_3_0 s l room fn q c w h0

set_option maxHeartbeats 1000000 in
theorem hasForm_4_0 (s : ByteArray) (l : List Vl) (room fn : Int) (q : Option Addr) (c : Nat) (w : World)  (h0 : ¬ ((l.length : Int) ≤ 65536)) :
    Calls Tryz.prog 237 #[.agg #[.int .u8 4, .string s, .slice q l.length c, .int .i64 room, .int .i64 fn]] w fun e w' => e = .returned (.bool false) ∧ Below w.heap.size w w' := by
  go_enter Tryz.func237, Tryz.ntmps237
  go_wp2
  go_ret
  refine ⟨?_, below1 _ _⟩
  first | rfl | (simp_all; done)

set_option maxHeartbeats 1000000 in
theorem hasForm_4_1 (s : ByteArray) (l : List Vl) (room fn : Int) (q : Option Addr) (c : Nat) (w : World) (h0 : (l.length : Int) ≤ 65536) (h1 : ¬ (roomP ⟨4, s, l, room, fn⟩)) :
    Calls Tryz.prog 237 #[.agg #[.int .u8 4, .string s, .slice q l.length c, .int .i64 room, .int .i64 fn]] w fun e w' => e = .returned (.bool false) ∧ Below w.heap.size w w' := by
  have hob := heap_alloc_new w (.cells #[.int .u8 4, .string s, .slice q l.length c, .int .i64 room, .int .i64 fn] 96)
  have hR := fun (W : World) => hasRoom_in ⟨4, s, l, room, fn⟩ q c W false (by simpa using h1)
  unfold objV at hR
  clear h1
  go_enter Tryz.func237, Tryz.ntmps237
  go_wp2_with (first
    | (go_at_call 260; refine (hR _).mono ?_; clear hR; rintro e w1 ⟨rfl, hB1⟩; obtain ⟨⟨d0, d1, d2, d3, d4⟩, -⟩ := cell_row5 ((hB1.block w.heap.size (by simp)).trans hob)))
  go_ret
  refine ⟨?_, (below1 w _).trans (hB1.mono (by simp))⟩
  first | rfl | (simp_all; done)

set_option maxHeartbeats 1000000 in
theorem hasForm_4_2 (s : ByteArray) (l : List Vl) (room fn : Int) (q : Option Addr) (c : Nat) (w : World) (h0 : (l.length : Int) ≤ 65536) (h1 : roomP ⟨4, s, l, room, fn⟩) (h2 : ¬ (s = ⟨#[]⟩)) :
    Calls Tryz.prog 237 #[.agg #[.int .u8 4, .string s, .slice q l.length c, .int .i64 room, .int .i64 fn]] w fun e w' => e = .returned (.bool false) ∧ Below w.heap.size w w' := by
  have g := toList_ne h2
  have hob := heap_alloc_new w (.cells #[.int .u8 4, .string s, .slice q l.length c, .int .i64 room, .int .i64 fn] 96)
  have hR := fun (W : World) => hasRoom_in ⟨4, s, l, room, fn⟩ q c W true (by simpa using h1)
  unfold objV at hR
  clear h1
  go_enter Tryz.func237, Tryz.ntmps237
  go_wp2_with (first
    | (go_at_call 260; refine (hR _).mono ?_; clear hR; rintro e w1 ⟨rfl, hB1⟩; obtain ⟨⟨d0, d1, d2, d3, d4⟩, -⟩ := cell_row5 ((hB1.block w.heap.size (by simp)).trans hob)))
  go_ret
  refine ⟨?_, (below1 w _).trans (hB1.mono (by simp))⟩
  first | rfl | (simp_all; done)

set_option maxHeartbeats 1000000 in
theorem hasForm_4_3 (s : ByteArray) (l : List Vl) (room fn : Int) (q : Option Addr) (c : Nat) (w : World) (h0 : (l.length : Int) ≤ 65536) (h1 : roomP ⟨4, s, l, room, fn⟩) (h2 : s = ⟨#[]⟩) (h3 : ¬ (fn = 0)) :
    Calls Tryz.prog 237 #[.agg #[.int .u8 4, .string s, .slice q l.length c, .int .i64 room, .int .i64 fn]] w fun e w' => e = .returned (.bool false) ∧ Below w.heap.size w w' := by
  subst h2
  have g : (fn == 0) = false := by simpa using h3
  have hob := heap_alloc_new w (.cells #[.int .u8 4, .string ⟨#[]⟩, .slice q l.length c, .int .i64 room, .int .i64 fn] 96)
  have hR := fun (W : World) => hasRoom_in ⟨4, ⟨#[]⟩, l, room, fn⟩ q c W true (by simpa using h1)
  unfold objV at hR
  clear h1
  go_enter Tryz.func237, Tryz.ntmps237
  go_wp2_with (first
    | (go_at_call 260; refine (hR _).mono ?_; clear hR; rintro e w1 ⟨rfl, hB1⟩; obtain ⟨⟨d0, d1, d2, d3, d4⟩, -⟩ := cell_row5 ((hB1.block w.heap.size (by simp)).trans hob)))
  go_ret
  refine ⟨?_, (below1 w _).trans (hB1.mono (by simp))⟩
  first | rfl | (simp_all; done)

set_option maxHeartbeats 1000000 in
theorem hasForm_4_4 (s : ByteArray) (l : List Vl) (room fn : Int) (q : Option Addr) (c : Nat) (w : World) (h0 : (l.length : Int) ≤ 65536) (h1 : roomP ⟨4, s, l, room, fn⟩) (h2 : s = ⟨#[]⟩) (h3 : fn = 0) :
    Calls Tryz.prog 237 #[.agg #[.int .u8 4, .string s, .slice q l.length c, .int .i64 room, .int .i64 fn]] w fun e w' => e = .returned (.bool true) ∧ Below w.heap.size w w' := by
  subst h2
  subst h3
  have hob := heap_alloc_new w (.cells #[.int .u8 4, .string ⟨#[]⟩, .slice q l.length c, .int .i64 room, .int .i64 0] 96)
  have hR := fun (W : World) => hasRoom_in ⟨4, ⟨#[]⟩, l, room, 0⟩ q c W true (by simpa using h1)
  unfold objV at hR
  clear h1
  go_enter Tryz.func237, Tryz.ntmps237
  go_wp2_with (first
    | (go_at_call 260; refine (hR _).mono ?_; clear hR; rintro e w1 ⟨rfl, hB1⟩; obtain ⟨⟨d0, d1, d2, d3, d4⟩, -⟩ := cell_row5 ((hB1.block w.heap.size (by simp)).trans hob)))
  go_ret
  refine ⟨?_, (below1 w _).trans (hB1.mono (by simp))⟩
  first | rfl | (simp_all; done)

theorem hasForm_4 (o : Om) (q : Option Addr) (c : Nat) (w : World) (hk : o.k = 4) (b : Bool) (hb : b = true ↔ formP o) :
    Calls Tryz.prog 237 #[objV o q c] w fun e w' => e = .returned (.bool b) ∧ Below w.heap.size w w' := by
  obtain ⟨k, s, l, room, fn⟩ := o
  dsimp only at hk
  subst hk
  unfold objV
  by_cases h0 : (l.length : Int) ≤ 65536
  · by_cases h1 : roomP ⟨4, s, l, room, fn⟩
    · by_cases h2 : s = ⟨#[]⟩
      · by_cases h3 : fn = 0
        · rw [b_true hb ⟨fun h => absurd h (by dsimp only; omega), fun _ => ⟨h0, h1, h2, h3⟩, fun h => absurd h (by dsimp only; omega), fun h => absurd h (by dsimp only; omega), fun h => absurd h (by dsimp only; omega)⟩]; exact hasForm_4_4 s l room fn q c w h0 h1 h2 h3
        · rw [b_false hb (fun h => h3 (h.2.1 rfl).2.2.2)]; exact hasForm_4_3 s l room fn q c w h0 h1 h2 h3
      · rw [b_false hb (fun h => h2 (h.2.1 rfl).2.2.1)]; exact hasForm_4_2 s l room fn q c w h0 h1 h2
    · rw [b_false hb (fun h => h1 (h.2.1 rfl).2.1)]; exact hasForm_4_1 s l room fn q c w h0 h1
  · rw [b_false hb (fun h => h0 (h.2.1 rfl).1)]; exact hasForm_4_0 s l room fn q c w h0

set_option maxHeartbeats 1000000 in
theorem hasForm_5_0 (s : ByteArray) (l : List Vl) (room fn : Int) (q : Option Addr) (c : Nat) (w : World)  (h0 : ¬ ((l.length : Int) % 2 = 0)) :
    Calls Tryz.prog 237 #[.agg #[.int .u8 5, .string s, .slice q l.length c, .int .i64 room, .int .i64 fn]] w fun e w' => e = .returned (.bool false) ∧ Below w.heap.size w w' := by
  have g : ((l.length : Int) % 2 == 0) = false := by simpa using h0
  go_enter Tryz.func237, Tryz.ntmps237
  go_wp2
  go_ret
  refine ⟨?_, below1 _ _⟩
  first | rfl | (simp_all; done)

set_option maxHeartbeats 1000000 in
theorem hasForm_5_1 (s : ByteArray) (l : List Vl) (room fn : Int) (q : Option Addr) (c : Nat) (w : World) (h0 : (l.length : Int) % 2 = 0) (h1 : ¬ ((l.length : Int) ≤ 131072)) :
    Calls Tryz.prog 237 #[.agg #[.int .u8 5, .string s, .slice q l.length c, .int .i64 room, .int .i64 fn]] w fun e w' => e = .returned (.bool false) ∧ Below w.heap.size w w' := by
  go_enter Tryz.func237, Tryz.ntmps237
  go_wp2
  go_ret
  refine ⟨?_, below1 _ _⟩
  first | rfl | (simp_all; done)

set_option maxHeartbeats 1000000 in
theorem hasForm_5_2 (s : ByteArray) (l : List Vl) (room fn : Int) (q : Option Addr) (c : Nat) (w : World) (h0 : (l.length : Int) % 2 = 0) (h1 : (l.length : Int) ≤ 131072) (h2 : ¬ (roomP ⟨5, s, l, room, fn⟩)) :
    Calls Tryz.prog 237 #[.agg #[.int .u8 5, .string s, .slice q l.length c, .int .i64 room, .int .i64 fn]] w fun e w' => e = .returned (.bool false) ∧ Below w.heap.size w w' := by
  have hob := heap_alloc_new w (.cells #[.int .u8 5, .string s, .slice q l.length c, .int .i64 room, .int .i64 fn] 96)
  have hR := fun (W : World) => hasRoom_in ⟨5, s, l, room, fn⟩ q c W false (by simpa using h2)
  unfold objV at hR
  clear h2
  go_enter Tryz.func237, Tryz.ntmps237
  go_wp2_with (first
    | (go_at_call 260; refine (hR _).mono ?_; clear hR; rintro e w1 ⟨rfl, hB1⟩; obtain ⟨⟨d0, d1, d2, d3, d4⟩, -⟩ := cell_row5 ((hB1.block w.heap.size (by simp)).trans hob)))
  go_ret
  refine ⟨?_, (below1 w _).trans (hB1.mono (by simp))⟩
  first | rfl | (simp_all; done)

set_option maxHeartbeats 1000000 in
theorem hasForm_5_3 (s : ByteArray) (l : List Vl) (room fn : Int) (q : Option Addr) (c : Nat) (w : World) (h0 : (l.length : Int) % 2 = 0) (h1 : (l.length : Int) ≤ 131072) (h2 : roomP ⟨5, s, l, room, fn⟩) (h3 : ¬ (s = ⟨#[]⟩)) :
    Calls Tryz.prog 237 #[.agg #[.int .u8 5, .string s, .slice q l.length c, .int .i64 room, .int .i64 fn]] w fun e w' => e = .returned (.bool false) ∧ Below w.heap.size w w' := by
  have g := toList_ne h3
  have hob := heap_alloc_new w (.cells #[.int .u8 5, .string s, .slice q l.length c, .int .i64 room, .int .i64 fn] 96)
  have hR := fun (W : World) => hasRoom_in ⟨5, s, l, room, fn⟩ q c W true (by simpa using h2)
  unfold objV at hR
  clear h2
  go_enter Tryz.func237, Tryz.ntmps237
  go_wp2_with (first
    | (go_at_call 260; refine (hR _).mono ?_; clear hR; rintro e w1 ⟨rfl, hB1⟩; obtain ⟨⟨d0, d1, d2, d3, d4⟩, -⟩ := cell_row5 ((hB1.block w.heap.size (by simp)).trans hob)))
  go_ret
  refine ⟨?_, (below1 w _).trans (hB1.mono (by simp))⟩
  first | rfl | (simp_all; done)

set_option maxHeartbeats 1000000 in
theorem hasForm_5_4 (s : ByteArray) (l : List Vl) (room fn : Int) (q : Option Addr) (c : Nat) (w : World) (h0 : (l.length : Int) % 2 = 0) (h1 : (l.length : Int) ≤ 131072) (h2 : roomP ⟨5, s, l, room, fn⟩) (h3 : s = ⟨#[]⟩) (h4 : ¬ (fn = 0)) :
    Calls Tryz.prog 237 #[.agg #[.int .u8 5, .string s, .slice q l.length c, .int .i64 room, .int .i64 fn]] w fun e w' => e = .returned (.bool false) ∧ Below w.heap.size w w' := by
  subst h3
  have g : (fn == 0) = false := by simpa using h4
  have hob := heap_alloc_new w (.cells #[.int .u8 5, .string ⟨#[]⟩, .slice q l.length c, .int .i64 room, .int .i64 fn] 96)
  have hR := fun (W : World) => hasRoom_in ⟨5, ⟨#[]⟩, l, room, fn⟩ q c W true (by simpa using h2)
  unfold objV at hR
  clear h2
  go_enter Tryz.func237, Tryz.ntmps237
  go_wp2_with (first
    | (go_at_call 260; refine (hR _).mono ?_; clear hR; rintro e w1 ⟨rfl, hB1⟩; obtain ⟨⟨d0, d1, d2, d3, d4⟩, -⟩ := cell_row5 ((hB1.block w.heap.size (by simp)).trans hob)))
  go_ret
  refine ⟨?_, (below1 w _).trans (hB1.mono (by simp))⟩
  first | rfl | (simp_all; done)

set_option maxHeartbeats 1000000 in
theorem hasForm_5_5 (s : ByteArray) (l : List Vl) (room fn : Int) (q : Option Addr) (c : Nat) (w : World) (h0 : (l.length : Int) % 2 = 0) (h1 : (l.length : Int) ≤ 131072) (h2 : roomP ⟨5, s, l, room, fn⟩) (h3 : s = ⟨#[]⟩) (h4 : fn = 0) :
    Calls Tryz.prog 237 #[.agg #[.int .u8 5, .string s, .slice q l.length c, .int .i64 room, .int .i64 fn]] w fun e w' => e = .returned (.bool true) ∧ Below w.heap.size w w' := by
  subst h3
  subst h4
  have hob := heap_alloc_new w (.cells #[.int .u8 5, .string ⟨#[]⟩, .slice q l.length c, .int .i64 room, .int .i64 0] 96)
  have hR := fun (W : World) => hasRoom_in ⟨5, ⟨#[]⟩, l, room, 0⟩ q c W true (by simpa using h2)
  unfold objV at hR
  clear h2
  go_enter Tryz.func237, Tryz.ntmps237
  go_wp2_with (first
    | (go_at_call 260; refine (hR _).mono ?_; clear hR; rintro e w1 ⟨rfl, hB1⟩; obtain ⟨⟨d0, d1, d2, d3, d4⟩, -⟩ := cell_row5 ((hB1.block w.heap.size (by simp)).trans hob)))
  go_ret
  refine ⟨?_, (below1 w _).trans (hB1.mono (by simp))⟩
  first | rfl | (simp_all; done)

theorem hasForm_5 (o : Om) (q : Option Addr) (c : Nat) (w : World) (hk : o.k = 5) (b : Bool) (hb : b = true ↔ formP o) :
    Calls Tryz.prog 237 #[objV o q c] w fun e w' => e = .returned (.bool b) ∧ Below w.heap.size w w' := by
  obtain ⟨k, s, l, room, fn⟩ := o
  dsimp only at hk
  subst hk
  unfold objV
  by_cases h0 : (l.length : Int) % 2 = 0
  · by_cases h1 : (l.length : Int) ≤ 131072
    · by_cases h2 : roomP ⟨5, s, l, room, fn⟩
      · by_cases h3 : s = ⟨#[]⟩
        · by_cases h4 : fn = 0
          · rw [b_true hb ⟨fun h => absurd h (by dsimp only; omega), fun h => absurd h (by dsimp only; omega), fun _ => ⟨h0, h1, h2, h3, h4⟩, fun h => absurd h (by dsimp only; omega), fun h => absurd h (by dsimp only; omega)⟩]; exact hasForm_5_5 s l room fn q c w h0 h1 h2 h3 h4
          · rw [b_false hb (fun h => h4 (h.2.2.1 rfl).2.2.2.2)]; exact hasForm_5_4 s l room fn q c w h0 h1 h2 h3 h4
        · rw [b_false hb (fun h => h3 (h.2.2.1 rfl).2.2.2.1)]; exact hasForm_5_3 s l room fn q c w h0 h1 h2 h3
      · rw [b_false hb (fun h => h2 (h.2.2.1 rfl).2.2.1)]; exact hasForm_5_2 s l room fn q c w h0 h1 h2
    · rw [b_false hb (fun h => h1 (h.2.2.1 rfl).2.1)]; exact hasForm_5_1 s l room fn q c w h0 h1
  · rw [b_false hb (fun h => h0 (h.2.2.1 rfl).1)]; exact hasForm_5_0 s l room fn q c w h0

set_option maxHeartbeats 1000000 in
theorem hasForm_6_0 (s : ByteArray) (l : List Vl) (room fn : Int) (q : Option Addr) (c : Nat) (w : World)  (h0 : ¬ (0 ≤ fn)) :
    Calls Tryz.prog 237 #[.agg #[.int .u8 6, .string s, .slice q l.length c, .int .i64 room, .int .i64 fn]] w fun e w' => e = .returned (.bool false) ∧ Below w.heap.size w w' := by
  go_enter Tryz.func237, Tryz.ntmps237
  go_wp2
  go_ret
  refine ⟨?_, below1 _ _⟩
  first | rfl | (simp_all; done)

set_option maxHeartbeats 1000000 in
theorem hasForm_6_1 (s : ByteArray) (l : List Vl) (room fn : Int) (q : Option Addr) (c : Nat) (w : World) (h0 : 0 ≤ fn) (h1 : ¬ (fn < 256)) :
    Calls Tryz.prog 237 #[.agg #[.int .u8 6, .string s, .slice q l.length c, .int .i64 room, .int .i64 fn]] w fun e w' => e = .returned (.bool false) ∧ Below w.heap.size w w' := by
  go_enter Tryz.func237, Tryz.ntmps237
  go_wp2
  go_ret
  refine ⟨?_, below1 _ _⟩
  first | rfl | (simp_all; done)

set_option maxHeartbeats 1000000 in
theorem hasForm_6_2 (s : ByteArray) (l : List Vl) (room fn : Int) (q : Option Addr) (c : Nat) (w : World) (h0 : 0 ≤ fn) (h1 : fn < 256) (h2 : ¬ (s = ⟨#[]⟩)) :
    Calls Tryz.prog 237 #[.agg #[.int .u8 6, .string s, .slice q l.length c, .int .i64 room, .int .i64 fn]] w fun e w' => e = .returned (.bool false) ∧ Below w.heap.size w w' := by
  have g := toList_ne h2
  go_enter Tryz.func237, Tryz.ntmps237
  go_wp2
  go_ret
  refine ⟨?_, below1 _ _⟩
  first | rfl | (simp_all; done)

set_option maxHeartbeats 1000000 in
theorem hasForm_6_3 (s : ByteArray) (l : List Vl) (room fn : Int) (q : Option Addr) (c : Nat) (w : World) (h0 : 0 ≤ fn) (h1 : fn < 256) (h2 : s = ⟨#[]⟩) (h3 : ¬ (room = 0)) :
    Calls Tryz.prog 237 #[.agg #[.int .u8 6, .string s, .slice q l.length c, .int .i64 room, .int .i64 fn]] w fun e w' => e = .returned (.bool false) ∧ Below w.heap.size w w' := by
  subst h2
  have g : (room == 0) = false := by simpa using h3
  go_enter Tryz.func237, Tryz.ntmps237
  go_wp2
  go_ret
  refine ⟨?_, below1 _ _⟩
  first | rfl | (simp_all; done)

set_option maxHeartbeats 1000000 in
theorem hasForm_6_4 (s : ByteArray) (l : List Vl) (room fn : Int) (q : Option Addr) (c : Nat) (w : World) (h0 : 0 ≤ fn) (h1 : fn < 256) (h2 : s = ⟨#[]⟩) (h3 : room = 0) :
    Calls Tryz.prog 237 #[.agg #[.int .u8 6, .string s, .slice q l.length c, .int .i64 room, .int .i64 fn]] w fun e w' => e = .returned (.bool true) ∧ Below w.heap.size w w' := by
  subst h2
  subst h3
  go_enter Tryz.func237, Tryz.ntmps237
  go_wp2
  go_ret
  refine ⟨?_, below1 _ _⟩
  first | rfl | (simp_all; done)

theorem hasForm_6 (o : Om) (q : Option Addr) (c : Nat) (w : World) (hk : o.k = 6) (b : Bool) (hb : b = true ↔ formP o) :
    Calls Tryz.prog 237 #[objV o q c] w fun e w' => e = .returned (.bool b) ∧ Below w.heap.size w w' := by
  obtain ⟨k, s, l, room, fn⟩ := o
  dsimp only at hk
  subst hk
  unfold objV
  by_cases h0 : 0 ≤ fn
  · by_cases h1 : fn < 256
    · by_cases h2 : s = ⟨#[]⟩
      · by_cases h3 : room = 0
        · rw [b_true hb ⟨fun h => absurd h (by dsimp only; omega), fun h => absurd h (by dsimp only; omega), fun h => absurd h (by dsimp only; omega), fun _ => ⟨h0, h1, h2, h3⟩, fun h => absurd h (by dsimp only; omega)⟩]; exact hasForm_6_4 s l room fn q c w h0 h1 h2 h3
        · rw [b_false hb (fun h => h3 (h.2.2.2.1 rfl).2.2.2)]; exact hasForm_6_3 s l room fn q c w h0 h1 h2 h3
      · rw [b_false hb (fun h => h2 (h.2.2.2.1 rfl).2.2.1)]; exact hasForm_6_2 s l room fn q c w h0 h1 h2
    · rw [b_false hb (fun h => h1 (h.2.2.2.1 rfl).2.1)]; exact hasForm_6_1 s l room fn q c w h0 h1
  · rw [b_false hb (fun h => h0 (h.2.2.2.1 rfl).1)]; exact hasForm_6_0 s l room fn q c w h0

set_option maxHeartbeats 1000000 in
theorem hasForm_7_0 (s : ByteArray) (l : List Vl) (room fn : Int) (q : Option Addr) (c : Nat) (w : World)  (h0 : ¬ ((l.length : Int) = 1)) :
    Calls Tryz.prog 237 #[.agg #[.int .u8 7, .string s, .slice q l.length c, .int .i64 room, .int .i64 fn]] w fun e w' => e = .returned (.bool false) ∧ Below w.heap.size w w' := by
  have g : ((l.length : Int) == 1) = false := by simpa using h0
  go_enter Tryz.func237, Tryz.ntmps237
  go_wp2
  go_ret
  refine ⟨?_, below1 _ _⟩
  first | rfl | (simp_all; done)

set_option maxHeartbeats 1000000 in
theorem hasForm_7_1 (s : ByteArray) (l : List Vl) (room fn : Int) (q : Option Addr) (c : Nat) (w : World) (h0 : (l.length : Int) = 1) (h1 : ¬ (s = ⟨#[]⟩)) :
    Calls Tryz.prog 237 #[.agg #[.int .u8 7, .string s, .slice q l.length c, .int .i64 room, .int .i64 fn]] w fun e w' => e = .returned (.bool false) ∧ Below w.heap.size w w' := by
  have g := toList_ne h1
  go_enter Tryz.func237, Tryz.ntmps237
  go_wp2
  go_ret
  refine ⟨?_, below1 _ _⟩
  first | rfl | (simp_all; done)

set_option maxHeartbeats 1000000 in
theorem hasForm_7_2 (s : ByteArray) (l : List Vl) (room fn : Int) (q : Option Addr) (c : Nat) (w : World) (h0 : (l.length : Int) = 1) (h1 : s = ⟨#[]⟩) (h2 : ¬ (room = 0)) :
    Calls Tryz.prog 237 #[.agg #[.int .u8 7, .string s, .slice q l.length c, .int .i64 room, .int .i64 fn]] w fun e w' => e = .returned (.bool false) ∧ Below w.heap.size w w' := by
  subst h1
  have g : (room == 0) = false := by simpa using h2
  go_enter Tryz.func237, Tryz.ntmps237
  go_wp2
  go_ret
  refine ⟨?_, below1 _ _⟩
  first | rfl | (simp_all; done)

set_option maxHeartbeats 1000000 in
theorem hasForm_7_3 (s : ByteArray) (l : List Vl) (room fn : Int) (q : Option Addr) (c : Nat) (w : World) (h0 : (l.length : Int) = 1) (h1 : s = ⟨#[]⟩) (h2 : room = 0) (h3 : ¬ (fn = 0)) :
    Calls Tryz.prog 237 #[.agg #[.int .u8 7, .string s, .slice q l.length c, .int .i64 room, .int .i64 fn]] w fun e w' => e = .returned (.bool false) ∧ Below w.heap.size w w' := by
  subst h1
  subst h2
  have g : (fn == 0) = false := by simpa using h3
  go_enter Tryz.func237, Tryz.ntmps237
  go_wp2
  go_ret
  refine ⟨?_, below1 _ _⟩
  first | rfl | (simp_all; done)

set_option maxHeartbeats 1000000 in
theorem hasForm_7_4 (s : ByteArray) (l : List Vl) (room fn : Int) (q : Option Addr) (c : Nat) (w : World) (h0 : (l.length : Int) = 1) (h1 : s = ⟨#[]⟩) (h2 : room = 0) (h3 : fn = 0) :
    Calls Tryz.prog 237 #[.agg #[.int .u8 7, .string s, .slice q l.length c, .int .i64 room, .int .i64 fn]] w fun e w' => e = .returned (.bool true) ∧ Below w.heap.size w w' := by
  subst h1
  subst h2
  subst h3
  go_enter Tryz.func237, Tryz.ntmps237
  go_wp2
  go_ret
  refine ⟨?_, below1 _ _⟩
  first | rfl | (simp_all; done)

theorem hasForm_7 (o : Om) (q : Option Addr) (c : Nat) (w : World) (hk : o.k = 7) (b : Bool) (hb : b = true ↔ formP o) :
    Calls Tryz.prog 237 #[objV o q c] w fun e w' => e = .returned (.bool b) ∧ Below w.heap.size w w' := by
  obtain ⟨k, s, l, room, fn⟩ := o
  dsimp only at hk
  subst hk
  unfold objV
  by_cases h0 : (l.length : Int) = 1
  · by_cases h1 : s = ⟨#[]⟩
    · by_cases h2 : room = 0
      · by_cases h3 : fn = 0
        · rw [b_true hb ⟨fun h => absurd h (by dsimp only; omega), fun h => absurd h (by dsimp only; omega), fun h => absurd h (by dsimp only; omega), fun h => absurd h (by dsimp only; omega), fun _ => ⟨h0, h1, h2, h3⟩⟩]; exact hasForm_7_4 s l room fn q c w h0 h1 h2 h3
        · rw [b_false hb (fun h => h3 (h.2.2.2.2 rfl).2.2.2)]; exact hasForm_7_3 s l room fn q c w h0 h1 h2 h3
      · rw [b_false hb (fun h => h2 (h.2.2.2.2 rfl).2.2.1)]; exact hasForm_7_2 s l room fn q c w h0 h1 h2
    · rw [b_false hb (fun h => h1 (h.2.2.2.2 rfl).2.1)]; exact hasForm_7_1 s l room fn q c w h0 h1
  · rw [b_false hb (fun h => h0 (h.2.2.2.2 rfl).1)]; exact hasForm_7_0 s l room fn q c w h0

/-- Is an object as the document says? -/
theorem hasForm_in (o : Om) (q : Option Addr) (c : Nat) (w : World) (h3 : 3 ≤ o.k) (h7 : o.k ≤ 7) (b : Bool) (hb : b = true ↔ formP o) :
    Calls Tryz.prog 237 #[objV o q c] w fun e w' => e = .returned (.bool b) ∧ Below w.heap.size w w' := by
  rcases (show o.k = 3 ∨ o.k = 4 ∨ o.k = 5 ∨ o.k = 6 ∨ o.k = 7 by omega) with h | h | h | h | h
  · exact hasForm_3 o q c w h b hb
  · exact hasForm_4 o q c w h b hb
  · exact hasForm_5 o q c w h b hb
  · exact hasForm_6 o q c w h b hb
  · exact hasForm_7 o q c w h b hb

end Go.Proofs.YtgokofomoachaaaGreatDoor

namespace Go.Proofs.YtgokofomoachaaaGreatDoor
set_option linter.unusedVariables false
set_option linter.unusedSimpArgs false
open Go.RowKit

variable {w : World}

/-- May a value be, but for what its object has? -/
def valP (S : List Om) (v : Vl) : Prop := (v.k = 0 → v.n = 0) ∧ (v.k = 1 → v.n = 0 ∨ v.n = 1) ∧ (3 ≤ v.k → leadO S v ≠ none)

/-- May all values be, and are they all cells, or none? -/
def heldP (S : List Om) (l : List Vl) (cells : Prop) : Prop := ∀ v ∈ l, valP S v ∧ (v.k = 7 ↔ cells)

/-- Are two values the same? -/
def sameP (S : List Om) (a b : Vl) : Prop := a.k = b.k ∧ (a.k = 0 ∨ a.n = b.n ∨ (a.k = 3 ∧ ∃ o o', leadO S a = some o ∧ leadO S b = some o' ∧ o.s = o'.s))

/-- No two keys are the same. -/
def keysP (S : List Om) (l : List Vl) : Prop := ∀ i j a b, l[2 * i]? = some a → l[2 * j]? = some b → j < i → ¬ sameP S a b

/-- May an object be, but for the objects of its values? -/
def objP (S : List Om) (o : Om) : Prop := formP o ∧ heldP S o.l (o.k = 6) ∧ (o.k = 5 → keysP S o.l)

end Go.Proofs.YtgokofomoachaaaGreatDoor

namespace Go.Proofs.YtgokofomoachaaaGreatDoor
set_option linter.unusedVariables false
set_option linter.unusedSimpArgs false
open Go.RowKit

variable {w : World}

/-- May a value be, and its object have its form? -/
def mayP (S : List Om) (v : Vl) : Prop := valP S v ∧ ∀ o, leadO S v = some o → formP o

theorem lead_low {S : List Om} {k : Nat} {n : Int} (h : k < 3) : leadO S ⟨k, n⟩ = none := by
  unfold leadO; rw [if_neg (by dsimp only; omega)]

set_option maxHeartbeats 1000000 in
/-- Values without objects. -/
theorem mayBe_low {bt : Nat} (S : List Om) (k : Nat) (n : Int) (hk : k < 3) (b : Bool) (hb : b = true ↔ mayP S ⟨k, n⟩) :
    Calls Tryz.prog 145 #[.agg #[.pointer (some ⟨bt, 0, none⟩)], .agg #[.int .u8 k, .int .i64 n]] w fun e w' => e = .returned (.bool b) ∧ Below w.heap.size w w' := by
  have hlo : ∀ o, leadO S ⟨k, n⟩ = some o → formP o := fun o h => by rw [lead_low hk] at h; cases h
  rcases (show k = 0 ∨ k = 1 ∨ k = 2 by omega) with h | h | h
  · subst h
    by_cases hn : n = 0
    · have e := b_true hb ⟨⟨fun _ => hn, (fun h => absurd h (by dsimp only; omega)), fun h => absurd h (by dsimp only; omega)⟩, hlo⟩
      subst e hn
      clear hb hlo
      go_enter Tryz.func145, Tryz.ntmps145
      go_wp2
      go_ret
      refine ⟨?_, below2' _ _ _⟩
      first | rfl | (simp_all; done)
    · have e := b_false hb (fun h => hn (h.1.1 rfl))
      subst e
      clear hb hlo
      have g : (n == 0) = false := by simpa using hn
      go_enter Tryz.func145, Tryz.ntmps145
      go_wp2
      go_ret
      refine ⟨?_, below2' _ _ _⟩
      first | rfl | (simp_all; done)
  · subst h
    by_cases hn : n = 0
    · have e := b_true hb ⟨⟨(fun h => absurd h (by dsimp only; omega)), fun _ => .inl hn, fun h => absurd h (by dsimp only; omega)⟩, hlo⟩
      subst e hn
      clear hb hlo
      go_enter Tryz.func145, Tryz.ntmps145
      go_wp2
      go_ret
      refine ⟨?_, below2' _ _ _⟩
      first | rfl | (simp_all; done)
    · by_cases hn1 : n = 1
      · have e := b_true hb ⟨⟨(fun h => absurd h (by dsimp only; omega)), fun _ => .inr hn1, fun h => absurd h (by dsimp only; omega)⟩, hlo⟩
        clear hb hlo hn
        subst e hn1
        go_enter Tryz.func145, Tryz.ntmps145
        go_wp2
        go_ret
        refine ⟨?_, below2' _ _ _⟩
        first | rfl | (simp_all; done)
      · have e := b_false hb (fun h => by rcases h.1.2.1 rfl with h | h; exact hn h; exact hn1 h)
        subst e
        clear hb hlo
        have g : (n == 0) = false := by simpa using hn
        have g' : (n == 1) = false := by simpa using hn1
        go_enter Tryz.func145, Tryz.ntmps145
        go_wp2
        go_ret
        refine ⟨?_, below2' _ _ _⟩
        first | rfl | (simp_all; done)
  · subst h
    have e := b_true hb ⟨⟨(fun h => absurd h (by dsimp only; omega)), (fun h => absurd h (by dsimp only; omega)), fun h => absurd h (by dsimp only; omega)⟩, hlo⟩
    subst e
    clear hb hlo
    go_enter Tryz.func145, Tryz.ntmps145
    go_wp2
    go_ret
    refine ⟨?_, below2' _ _ _⟩
    first | rfl | (simp_all; done)

/-- A walk stands here. -/
def Halted (p : Prop) : Prop := p

theorem halt_here {p : Prop} (h : Halted p) : p := h

set_option maxRecDepth 20000 in
set_option maxHeartbeats 2000000 in
theorem mayBe_high {w0 : World} {bt bM K c : Nat} {vt : Value} {t : Tr} {p : Option Addr} {S : List Om} (hs : IsSt w0 p S) (hl : S.length ≤ maxLen) (hB : Below w0.heap.size w0 w) (ht : IsTo w0.heap.size bt bM (.slice p S.length c) vt K t w) (hK : K + 1 ≤ 1099511627776) (v : Vl) (hk : 3 ≤ v.k) (b : Bool) (hb : b = true ↔ mayP S v) :
    Calls Tryz.prog 145 #[.agg #[.pointer (some ⟨bt, 0, none⟩)], .agg #[.int .u8 v.k, .int .i64 v.n]] w fun e w' => e = .returned (.bool b) ∧ ∃ vt', IsTo w0.heap.size bt bM (.slice p S.length c) vt' (K + 1) (meetL S t [v]) w' ∧ TStep bt bM vt w vt' w' := by
  have b0 : ¬ ((v.k : Int) = 0) := by omega
  have b1 : ¬ ((v.k : Int) = 1) := by omega
  have b2 : ¬ ((v.k : Int) = 2) := by omega
  have g0 : ((v.k : Int) == 0) = false := by simpa using b0
  have g1 : ((v.k : Int) == 1) = false := by simpa using b1
  have g2 : ((v.k : Int) == 2) = false := by simpa using b2
  have hbt := ht.lt
  have hbM := ht.cnt.lt
  have hvl : ∀ k, vt.ownBlock = some k → w.heap.size ≤ k → False := fun k e h => by have := (ht.todo.lt k e).2; omega
  have e0 := heap3_0 w (.cells #[.pointer (some ⟨bt, 0, none⟩)] 135) (.cells #[.int .u8 v.k, .int .i64 v.n] 27) (.cells #[.int .u8 v.k, .int .i64 v.n] 27)
  have e1 := heap3_1 w (.cells #[.pointer (some ⟨bt, 0, none⟩)] 135) (.cells #[.int .u8 v.k, .int .i64 v.n] 27) (.cells #[.int .u8 v.k, .int .i64 v.n] 27)
  have hob0 := heap3_2 w (.cells #[.pointer (some ⟨bt, 0, none⟩)] 135) (.cells #[.int .u8 v.k, .int .i64 v.n] 27) (.cells #[.int .u8 v.k, .int .i64 v.n] 27)
  have hB3 := below3' w (.cells #[.pointer (some ⟨bt, 0, none⟩)] 135) (.cells #[.int .u8 v.k, .int .i64 v.n] 27) (.cells #[.int .u8 v.k, .int .i64 v.n] 27)
  have hsz : (((w.alloc (.cells #[.pointer (some ⟨bt, 0, none⟩)] 135)).alloc (.cells #[.int .u8 v.k, .int .i64 v.n] 27)).alloc (.cells #[.int .u8 v.k, .int .i64 v.n] 27)).heap.size = w.heap.size + 3 := by simp
  have ht1 := ht.below hB3
  have hB1 := hB.trans (hB3.mono hB.size)
  have HM := meet_any (q := some ⟨w.heap.size + 1 + 1, 0, none⟩) (cq := 1) (l := [v]) hs hl (fun vt1 wr h => by
    intro j u hj
    have : j = 0 := by have := (List.getElem?_eq_some_iff.1 hj).1; simp at this; omega
    subst this
    simp at hj; subst hj
    obtain ⟨h1, h2⟩ := cell_row2 ((h.block (w.heap.size + 1 + 1) (by omega) (by omega) (by omega) (by intro e; exact hvl _ e.symm (by omega))).trans hob0)
    exact ⟨_, 0, rfl, by simpa using h1, by simpa using h2⟩) hB1 ht1 (by simpa using hK)
  simp only [List.length_cons, List.length_nil, Nat.zero_add] at HM
  have hT1 : TStep bt bM vt w vt (((w.alloc (.cells #[.pointer (some ⟨bt, 0, none⟩)] 135)).alloc (.cells #[.int .u8 v.k, .int .i64 v.n] 27)).alloc (.cells #[.int .u8 v.k, .int .i64 v.n] 27)) := TStep.of_below hB3
  cases hlead : leadO S v with
  | none =>
    have eb := b_false hb (fun h => h.1.2.2 hk hlead)
    subst eb
    clear hb
    have HL := fun (W : World) (h : Below w0.heap.size w0 W) => lead_none (c := c) (hs.below h) hl hlead
    unfold noObj at HL
    go_enter Tryz.func145, Tryz.ntmps145
    go_wp2_with (first
      | (go_at_call 148; refine HM.mono ?_; clear HM; rintro e w2 ⟨rfl, vt', hto2, hS2⟩
         have k0 := (hS2.block w.heap.size (by omega) (by omega) (by omega) (by intro e; exact hvl _ e.symm (by omega))).trans e0; have k1 := (hS2.block (w.heap.size + 1) (by omega) (by omega) (by omega) (by intro e; exact hvl _ e.symm (by omega))).trans e1
         have hB2 : Below w0.heap.size w0 w2 := hB1.trans (ht1.below0 hS2)
         obtain ⟨t0, -⟩ := cell_row1 k0; obtain ⟨v0, v1⟩ := cell_row2 k1; obtain ⟨⟨s0, s1, s2⟩, -⟩ := cell_row3 hto2.blk; refine halt_here ?_))
    unfold Halted
    clear hob0
    have hsz2 : w.heap.size + 3 ≤ w2.heap.size := by have := hS2.size; omega
    have hA := below1 w2 (.cells #[.int .u8 0, .string ⟨#[]⟩, .slice none 0 0, .int .i64 0, .int .i64 0] 96)
    have hAd : ∀ k, k < w2.heap.size → (w2.alloc (.cells #[.int .u8 0, .string ⟨#[]⟩, .slice none 0 0, .int .i64 0, .int .i64 0] 96)).heap[k]? = w2.heap[k]? := fun k hk => Below.heap_alloc _ _ _ hk
    have hbtl := hto2.lt
    obtain ⟨t0', -⟩ := cell_row1 ((hAd w.heap.size (by omega)).trans k0)
    obtain ⟨v0', v1'⟩ := cell_row2 ((hAd (w.heap.size + 1) (by omega)).trans k1)
    obtain ⟨⟨s0', s1', s2'⟩, -⟩ := cell_row3 ((hAd bt hbtl).trans hto2.blk)
    have hnew := heap_alloc_new w2 (.cells #[.int .u8 0, .string ⟨#[]⟩, .slice none 0 0, .int .i64 0, .int .i64 0] 96)
    obtain ⟨⟨z0, z1, z2, z3, z4⟩, y0, y1, y2, y3, y4⟩ := cell_row5 hnew
    go_wp2
    have ne1 : w.heap.size ≠ w2.heap.size := by omega
    have ne2 : w.heap.size + 1 ≠ w2.heap.size := by omega
    have ne3 : bt ≠ w2.heap.size := by omega
    go_region_held3 (fun W => W.cell? ⟨w.heap.size, 0, none⟩ = some (.pointer (some ⟨bt, 0, none⟩)) ∧ W.cell? ⟨bt, 0, none⟩ = some (.slice p S.length c) ∧ W.cell? ⟨w.heap.size + 1, 0, none⟩ = some (.int .u8 v.k) ∧ W.cell? ⟨w.heap.size + 1, 1, none⟩ = some (.int .i64 v.n)) (first | with_reducible exact ⟨t0, s0, v0, v1⟩ | with_reducible exact ⟨t0', s0', v0', v1'⟩ | with_reducible exact ⟨q0, q1, q2, q3⟩ | with_reducible exact ⟨(cell_set5 ne1).trans q0, (cell_set5 ne3).trans q1, (cell_set5 ne2).trans q2, (cell_set5 ne2).trans q3⟩ | go_keep)
      ((first
        | (go_at_call 236; (with_reducible refine (HL _ (below_drew hB2)).mono ?_); rintro e w3 ⟨hB3, rfl⟩; obtain ⟨q0, -⟩ := cell_row1 ((hB3.block w.heap.size (by show w.heap.size < w2.heap.size; omega)).trans k0); obtain ⟨q2, q3⟩ := cell_row2 ((hB3.block (w.heap.size + 1) (by show w.heap.size + 1 < w2.heap.size; omega)).trans k1); obtain ⟨⟨q1, -, -⟩, -⟩ := cell_row3 ((hB3.block bt hbtl).trans hto2.blk); have hBw : Below w2.heap.size w2 w3 := (below_drew (Below.refl _ w2)).trans hB3)
        | (go_at_call 236; (with_reducible refine (HL _ (below_drew (hB2.trans (hA.mono hB2.size)))).mono ?_); rintro e w3 ⟨hB3, rfl⟩; obtain ⟨q0, -⟩ := cell_row1 ((hB3.block w.heap.size (by simp; omega)).trans ((hAd w.heap.size (by omega)).trans k0)); obtain ⟨q2, q3⟩ := cell_row2 ((hB3.block (w.heap.size + 1) (by simp; omega)).trans ((hAd (w.heap.size + 1) (by omega)).trans k1)); obtain ⟨⟨q1, -, -⟩, -⟩ := cell_row3 ((hB3.block bt (by simp; omega)).trans ((hAd bt hbtl).trans hto2.blk)); have hn3 := (hB3.block w2.heap.size (by simp)).trans hnew; obtain ⟨⟨g0, g1, g2, g3, g4⟩, f0, f1, f2, f3, f4⟩ := cell_row5 hn3; have hBw : Below w2.heap.size w2 w3 := (below_drew hA).trans (hB3.mono (by simp)))))
    all_goals
      first
        | (have hob := set5_row (x0 := .int .u8 0) (x1 := .string ⟨#[]⟩) (x2 := .slice none 0 0) (x3 := .int .i64 0) (x4 := .int .i64 0) hn3; have hBF := below_set5 hBw (Nat.le_refl _) (.int .u8 0) (.string ⟨#[]⟩) (.slice none 0 0) (.int .i64 0) (.int .i64 0); generalize hWF : World.setCell _ ⟨w2.heap.size, 4, none⟩ _ = WF at *)
        | (have hob := heap_alloc_new w3 (.cells #[.int .u8 0, .string ⟨#[]⟩, .slice none 0 0, .int .i64 0, .int .i64 0] 96); have hBF : Below w2.heap.size w2 (w3.alloc (.cells #[.int .u8 0, .string ⟨#[]⟩, .slice none 0 0, .int .i64 0, .int .i64 0] 96)) := hBw.alloc hBw.size _; generalize hWF : World.alloc w3 _ = WF at *)
      clear hWF
      have hend : IsTo w0.heap.size bt bM (.slice p S.length c) vt' (K + 1) (meetL S t [v]) WF ∧ TStep bt bM vt w vt' WF := ⟨hto2.below hBF, hT1.trans (hS2.trans (TStep.of_below hBF))⟩
      go_wp2
      go_ret
      exact ⟨rfl, vt', hend⟩
  | some o =>
    obtain ⟨-, hk7, hok, -⟩ := leadO_some hlead
    have hbf : b = true ↔ formP o := hb.trans ⟨fun h => h.2 o hlead, fun h => ⟨⟨fun h0 => by omega, fun h1 => by omega, fun _ => by rw [hlead]; simp⟩, fun o' ho' => by rw [hlead] at ho'; cases ho'; exact h⟩⟩
    have HF := fun (W : World) (qo : Option Addr) (co : Nat) => hasForm_in o qo co W (by omega) (by omega) b hbf
    unfold objV at HF
    clear hb hbf hok
    have HL := fun (W : World) (h : Below w0.heap.size w0 W) => lead_some (c := c) (hs.below h) hl hlead
    unfold objV at HL
    go_enter Tryz.func145, Tryz.ntmps145
    go_wp2_with (first
      | (go_at_call 148; refine HM.mono ?_; clear HM; rintro e w2 ⟨rfl, vt', hto2, hS2⟩
         have k0 := (hS2.block w.heap.size (by omega) (by omega) (by omega) (by intro e; exact hvl _ e.symm (by omega))).trans e0; have k1 := (hS2.block (w.heap.size + 1) (by omega) (by omega) (by omega) (by intro e; exact hvl _ e.symm (by omega))).trans e1
         have hB2 : Below w0.heap.size w0 w2 := hB1.trans (ht1.below0 hS2)
         obtain ⟨t0, -⟩ := cell_row1 k0; obtain ⟨v0, v1⟩ := cell_row2 k1; obtain ⟨⟨s0, s1, s2⟩, -⟩ := cell_row3 hto2.blk; refine halt_here ?_))
    unfold Halted
    clear hob0
    have hsz2 : w.heap.size + 3 ≤ w2.heap.size := by have := hS2.size; omega
    have hA := below1 w2 (.cells #[.int .u8 0, .string ⟨#[]⟩, .slice none 0 0, .int .i64 0, .int .i64 0] 96)
    have hAd : ∀ k, k < w2.heap.size → (w2.alloc (.cells #[.int .u8 0, .string ⟨#[]⟩, .slice none 0 0, .int .i64 0, .int .i64 0] 96)).heap[k]? = w2.heap[k]? := fun k hk => Below.heap_alloc _ _ _ hk
    have hbtl := hto2.lt
    obtain ⟨t0', -⟩ := cell_row1 ((hAd w.heap.size (by omega)).trans k0)
    obtain ⟨v0', v1'⟩ := cell_row2 ((hAd (w.heap.size + 1) (by omega)).trans k1)
    obtain ⟨⟨s0', s1', s2'⟩, -⟩ := cell_row3 ((hAd bt hbtl).trans hto2.blk)
    have hnew := heap_alloc_new w2 (.cells #[.int .u8 0, .string ⟨#[]⟩, .slice none 0 0, .int .i64 0, .int .i64 0] 96)
    obtain ⟨⟨z0, z1, z2, z3, z4⟩, y0, y1, y2, y3, y4⟩ := cell_row5 hnew
    go_wp2
    have ne1 : w.heap.size ≠ w2.heap.size := by omega
    have ne2 : w.heap.size + 1 ≠ w2.heap.size := by omega
    have ne3 : bt ≠ w2.heap.size := by omega
    go_region_held3 (fun W => W.cell? ⟨w.heap.size, 0, none⟩ = some (.pointer (some ⟨bt, 0, none⟩)) ∧ W.cell? ⟨bt, 0, none⟩ = some (.slice p S.length c) ∧ W.cell? ⟨w.heap.size + 1, 0, none⟩ = some (.int .u8 v.k) ∧ W.cell? ⟨w.heap.size + 1, 1, none⟩ = some (.int .i64 v.n)) (first | with_reducible exact ⟨t0, s0, v0, v1⟩ | with_reducible exact ⟨t0', s0', v0', v1'⟩ | with_reducible exact ⟨q0, q1, q2, q3⟩ | with_reducible exact ⟨(cell_set5 ne1).trans q0, (cell_set5 ne3).trans q1, (cell_set5 ne2).trans q2, (cell_set5 ne2).trans q3⟩ | go_keep)
      ((first
        | (go_at_call 236; (with_reducible refine (HL _ (below_drew hB2)).mono ?_); rintro e w3 ⟨hB3, qo, co, rfl, hvo⟩; obtain ⟨q0, -⟩ := cell_row1 ((hB3.block w.heap.size (by show w.heap.size < w2.heap.size; omega)).trans k0); obtain ⟨q2, q3⟩ := cell_row2 ((hB3.block (w.heap.size + 1) (by show w.heap.size + 1 < w2.heap.size; omega)).trans k1); obtain ⟨⟨q1, -, -⟩, -⟩ := cell_row3 ((hB3.block bt hbtl).trans hto2.blk); have hBw : Below w2.heap.size w2 w3 := (below_drew (Below.refl _ w2)).trans hB3)
        | (go_at_call 236; (with_reducible refine (HL _ (below_drew (hB2.trans (hA.mono hB2.size)))).mono ?_); rintro e w3 ⟨hB3, qo, co, rfl, hvo⟩; obtain ⟨q0, -⟩ := cell_row1 ((hB3.block w.heap.size (by simp; omega)).trans ((hAd w.heap.size (by omega)).trans k0)); obtain ⟨q2, q3⟩ := cell_row2 ((hB3.block (w.heap.size + 1) (by simp; omega)).trans ((hAd (w.heap.size + 1) (by omega)).trans k1)); obtain ⟨⟨q1, -, -⟩, -⟩ := cell_row3 ((hB3.block bt (by simp; omega)).trans ((hAd bt hbtl).trans hto2.blk)); have hn3 := (hB3.block w2.heap.size (by simp)).trans hnew; obtain ⟨⟨g0, g1, g2, g3, g4⟩, f0, f1, f2, f3, f4⟩ := cell_row5 hn3; have hBw : Below w2.heap.size w2 w3 := (below_drew hA).trans (hB3.mono (by simp)))))
    all_goals
      first
        | (have hob := set5_row (x0 := .int .u8 o.k) (x1 := .string o.s) (x2 := .slice qo o.l.length co) (x3 := .int .i64 o.room) (x4 := .int .i64 o.fn) hn3; have hBF := below_set5 hBw (Nat.le_refl _) (.int .u8 o.k) (.string o.s) (.slice qo o.l.length co) (.int .i64 o.room) (.int .i64 o.fn); generalize hWF : World.setCell _ ⟨w2.heap.size, 4, none⟩ _ = WF at *)
        | (have hob := heap_alloc_new w3 (.cells #[.int .u8 o.k, .string o.s, .slice qo o.l.length co, .int .i64 o.room, .int .i64 o.fn] 96); have hBF : Below w2.heap.size w2 (w3.alloc (.cells #[.int .u8 o.k, .string o.s, .slice qo o.l.length co, .int .i64 o.room, .int .i64 o.fn] 96)) := hBw.alloc hBw.size _; generalize hWF : World.alloc w3 _ = WF at *)
      clear hWF
      have hend : IsTo w0.heap.size bt bM (.slice p S.length c) vt' (K + 1) (meetL S t [v]) WF ∧ TStep bt bM vt w vt' WF := ⟨hto2.below hBF, hT1.trans (hS2.trans (TStep.of_below hBF))⟩
      obtain ⟨⟨d0, d1, d2, d3, d4⟩, -⟩ := cell_row5 hob
      clear hob hBF hnew z0 z1 z2 z3 z4 y0 y1 y2 y3 y4 t0 v0 v1 s0 s1 s2 t0' v0' v1' s0' s1' s2' k0 k1 q0 q1 q2 q3
      go_wp2_with (first
        | (go_at_call 237; refine (HF _ _ _).mono ?_; rintro e w4 ⟨rfl, hB4⟩))
      go_ret
      exact ⟨rfl, vt', hend.1.below hB4, hend.2.trans (TStep.of_below hB4)⟩

end Go.Proofs.YtgokofomoachaaaGreatDoor
