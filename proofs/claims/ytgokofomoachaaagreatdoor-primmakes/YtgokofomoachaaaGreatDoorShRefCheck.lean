/- The document's obj: may an object be, but for the objects of its values? -/
import Derived.Test.YtgokofomoachaaaGreatDoorShKeys
import Derived.Test.YtgokofomoachaaaGreatDoorShCheck
import Derived.Test.YtgokofomoachaaaGreatDoorShTold
namespace Go.Proofs.YtgokofomoachaaaGreatDoor
set_option linter.unusedVariables false
set_option linter.unusedSimpArgs false
open Go.RowKit

variable {w : World}

set_option maxHeartbeats 1000000 in
theorem rObj_3_0 {p : Option Addr} {S : List Om} (cS : Nat) (hs : IsSt w p S) (hl : S.length ≤ 1048576) (s : ByteArray) (l : List Vl) (room fn : Int) (q : Option Addr) (c : Nat) (hv : Vals w q l) (hll : l.length ≤ 1048576)  (h0 : ¬ ((s.size : Int) ≤ 4096)) :
    Calls Tryz.prog 185 #[.slice p S.length cS, .agg #[.int .u8 3, .string s, .slice q l.length c, .int .i64 room, .int .i64 fn]] w fun e w' => e = .returned (.bool false) ∧ Below w.heap.size w w' := by
  go_enter Tryz.func185, Tryz.ntmps185
  go_wp2
  go_ret
  refine ⟨?_, below1 _ _⟩
  first | rfl | (simp_all; done)

set_option maxHeartbeats 1000000 in
theorem rObj_3_1 {p : Option Addr} {S : List Om} (cS : Nat) (hs : IsSt w p S) (hl : S.length ≤ 1048576) (s : ByteArray) (l : List Vl) (room fn : Int) (q : Option Addr) (c : Nat) (hv : Vals w q l) (hll : l.length ≤ 1048576) (h0 : (s.size : Int) ≤ 4096) (h1 : ¬ ((l.length : Int) = 0)) :
    Calls Tryz.prog 185 #[.slice p S.length cS, .agg #[.int .u8 3, .string s, .slice q l.length c, .int .i64 room, .int .i64 fn]] w fun e w' => e = .returned (.bool false) ∧ Below w.heap.size w w' := by
  have g : ((l.length : Int) == 0) = false := by simpa using h1
  go_enter Tryz.func185, Tryz.ntmps185
  go_wp2
  go_ret
  refine ⟨?_, below1 _ _⟩
  first | rfl | (simp_all; done)

set_option maxHeartbeats 1000000 in
theorem rObj_3_2 {p : Option Addr} {S : List Om} (cS : Nat) (hs : IsSt w p S) (hl : S.length ≤ 1048576) (s : ByteArray) (l : List Vl) (room fn : Int) (q : Option Addr) (c : Nat) (hv : Vals w q l) (hll : l.length ≤ 1048576) (h0 : (s.size : Int) ≤ 4096) (h1 : (l.length : Int) = 0) (h2 : ¬ (room = 0)) :
    Calls Tryz.prog 185 #[.slice p S.length cS, .agg #[.int .u8 3, .string s, .slice q l.length c, .int .i64 room, .int .i64 fn]] w fun e w' => e = .returned (.bool false) ∧ Below w.heap.size w w' := by
  have g : (room == 0) = false := by simpa using h2
  go_enter Tryz.func185, Tryz.ntmps185
  go_wp2
  go_ret
  refine ⟨?_, below1 _ _⟩
  first | rfl | (simp_all; done)

set_option maxHeartbeats 1000000 in
theorem rObj_3_3 {p : Option Addr} {S : List Om} (cS : Nat) (hs : IsSt w p S) (hl : S.length ≤ 1048576) (s : ByteArray) (l : List Vl) (room fn : Int) (q : Option Addr) (c : Nat) (hv : Vals w q l) (hll : l.length ≤ 1048576) (h0 : (s.size : Int) ≤ 4096) (h1 : (l.length : Int) = 0) (h2 : room = 0) (h3 : ¬ (fn = 0)) :
    Calls Tryz.prog 185 #[.slice p S.length cS, .agg #[.int .u8 3, .string s, .slice q l.length c, .int .i64 room, .int .i64 fn]] w fun e w' => e = .returned (.bool false) ∧ Below w.heap.size w w' := by
  subst h2
  have g : (fn == 0) = false := by simpa using h3
  go_enter Tryz.func185, Tryz.ntmps185
  go_wp2
  go_ret
  refine ⟨?_, below1 _ _⟩
  first | rfl | (simp_all; done)

set_option maxHeartbeats 1000000 in
theorem rObj_3_4 {p : Option Addr} {S : List Om} (cS : Nat) (hs : IsSt w p S) (hl : S.length ≤ 1048576) (s : ByteArray) (l : List Vl) (room fn : Int) (q : Option Addr) (c : Nat) (hv : Vals w q l) (hll : l.length ≤ 1048576) (h0 : (s.size : Int) ≤ 4096) (h1 : (l.length : Int) = 0) (h2 : room = 0) (h3 : fn = 0) :
    Calls Tryz.prog 185 #[.slice p S.length cS, .agg #[.int .u8 3, .string s, .slice q l.length c, .int .i64 room, .int .i64 fn]] w fun e w' => e = .returned (.bool true) ∧ Below w.heap.size w w' := by
  subst h2
  subst h3
  go_enter Tryz.func185, Tryz.ntmps185
  go_wp2
  go_ret
  refine ⟨?_, below1 _ _⟩
  first | rfl | (simp_all; done)

theorem rObj_3 {p : Option Addr} {S : List Om} (cS : Nat) (hs : IsSt w p S) (hl : S.length ≤ 1048576) (s : ByteArray) (l : List Vl) (room fn : Int) (q : Option Addr) (c : Nat) (hv : Vals w q l) (hll : l.length ≤ 1048576) (b : Bool) (hb : b = true ↔ objP S ⟨3, s, l, room, fn⟩) :
    Calls Tryz.prog 185 #[.slice p S.length cS, .agg #[.int .u8 3, .string s, .slice q l.length c, .int .i64 room, .int .i64 fn]] w fun e w' => e = .returned (.bool b) ∧ Below w.heap.size w w' := by
  unfold objP formP heldP roomP at hb
  simp at hb
  by_cases h0 : (s.size : Int) ≤ 4096
  · by_cases h1 : (l.length : Int) = 0
    · by_cases h2 : room = 0
      · by_cases h3 : fn = 0
        · have e := hb.2 (by simp_all [heldP])
          subst e
          exact rObj_3_4 cS hs hl s l room fn q c hv hll h0 h1 h2 h3
        · have e := b_false hb (fun h => h3 (by simp_all [heldP]))
          subst e
          exact rObj_3_3 cS hs hl s l room fn q c hv hll h0 h1 h2 h3
      · have e := b_false hb (fun h => h2 (by simp_all [heldP]))
        subst e
        exact rObj_3_2 cS hs hl s l room fn q c hv hll h0 h1 h2
    · have e := b_false hb (fun h => h1 (by simp_all [heldP]))
      subst e
      exact rObj_3_1 cS hs hl s l room fn q c hv hll h0 h1
  · have e := b_false hb (fun h => h0 (by simp_all [heldP]))
    subst e
    exact rObj_3_0 cS hs hl s l room fn q c hv hll h0

set_option maxHeartbeats 1000000 in
theorem rObj_4_0 {p : Option Addr} {S : List Om} (cS : Nat) (hs : IsSt w p S) (hl : S.length ≤ 1048576) (s : ByteArray) (l : List Vl) (room fn : Int) (q : Option Addr) (c : Nat) (hv : Vals w q l) (hll : l.length ≤ 1048576)  (h0 : ¬ (s = ⟨#[]⟩)) :
    Calls Tryz.prog 185 #[.slice p S.length cS, .agg #[.int .u8 4, .string s, .slice q l.length c, .int .i64 room, .int .i64 fn]] w fun e w' => e = .returned (.bool false) ∧ Below w.heap.size w w' := by
  have g := toList_ne h0
  go_enter Tryz.func185, Tryz.ntmps185
  go_wp2
  go_ret
  refine ⟨?_, below1 _ _⟩
  first | rfl | (simp_all; done)

set_option maxHeartbeats 1000000 in
theorem rObj_4_1 {p : Option Addr} {S : List Om} (cS : Nat) (hs : IsSt w p S) (hl : S.length ≤ 1048576) (s : ByteArray) (l : List Vl) (room fn : Int) (q : Option Addr) (c : Nat) (hv : Vals w q l) (hll : l.length ≤ 1048576) (h0 : s = ⟨#[]⟩) (h1 : ¬ (fn = 0)) :
    Calls Tryz.prog 185 #[.slice p S.length cS, .agg #[.int .u8 4, .string s, .slice q l.length c, .int .i64 room, .int .i64 fn]] w fun e w' => e = .returned (.bool false) ∧ Below w.heap.size w w' := by
  subst h0
  have g : (fn == 0) = false := by simpa using h1
  go_enter Tryz.func185, Tryz.ntmps185
  go_wp2
  go_ret
  refine ⟨?_, below1 _ _⟩
  first | rfl | (simp_all; done)

set_option maxHeartbeats 1000000 in
theorem rObj_4_2 {p : Option Addr} {S : List Om} (cS : Nat) (hs : IsSt w p S) (hl : S.length ≤ 1048576) (s : ByteArray) (l : List Vl) (room fn : Int) (q : Option Addr) (c : Nat) (hv : Vals w q l) (hll : l.length ≤ 1048576) (h0 : s = ⟨#[]⟩) (h1 : fn = 0) (h2 : ¬ ((l.length : Int) ≤ 65536)) :
    Calls Tryz.prog 185 #[.slice p S.length cS, .agg #[.int .u8 4, .string s, .slice q l.length c, .int .i64 room, .int .i64 fn]] w fun e w' => e = .returned (.bool false) ∧ Below w.heap.size w w' := by
  subst h0
  subst h1
  go_enter Tryz.func185, Tryz.ntmps185
  go_wp2
  go_ret
  refine ⟨?_, below1 _ _⟩
  first | rfl | (simp_all; done)

set_option maxHeartbeats 1000000 in
theorem rObj_4_3 {p : Option Addr} {S : List Om} (cS : Nat) (hs : IsSt w p S) (hl : S.length ≤ 1048576) (s : ByteArray) (l : List Vl) (room fn : Int) (q : Option Addr) (c : Nat) (hv : Vals w q l) (hll : l.length ≤ 1048576) (h0 : s = ⟨#[]⟩) (h1 : fn = 0) (h2 : (l.length : Int) ≤ 65536) (h3 : ¬ ((l.length : Int) ≤ room)) :
    Calls Tryz.prog 185 #[.slice p S.length cS, .agg #[.int .u8 4, .string s, .slice q l.length c, .int .i64 room, .int .i64 fn]] w fun e w' => e = .returned (.bool false) ∧ Below w.heap.size w w' := by
  subst h0
  subst h1
  go_enter Tryz.func185, Tryz.ntmps185
  go_wp2
  go_ret
  refine ⟨?_, below1 _ _⟩
  first | rfl | (simp_all; done)

set_option maxHeartbeats 1000000 in
theorem rObj_4_4 {p : Option Addr} {S : List Om} (cS : Nat) (hs : IsSt w p S) (hl : S.length ≤ 1048576) (s : ByteArray) (l : List Vl) (room fn : Int) (q : Option Addr) (c : Nat) (hv : Vals w q l) (hll : l.length ≤ 1048576) (h0 : s = ⟨#[]⟩) (h1 : fn = 0) (h2 : (l.length : Int) ≤ 65536) (h3 : (l.length : Int) ≤ room) (h4 : ¬ (room ≤ 262144)) :
    Calls Tryz.prog 185 #[.slice p S.length cS, .agg #[.int .u8 4, .string s, .slice q l.length c, .int .i64 room, .int .i64 fn]] w fun e w' => e = .returned (.bool false) ∧ Below w.heap.size w w' := by
  subst h0
  subst h1
  go_enter Tryz.func185, Tryz.ntmps185
  go_wp2
  go_ret
  refine ⟨?_, below1 _ _⟩
  first | rfl | (simp_all; done)

set_option maxHeartbeats 1000000 in
theorem rObj_4_5 {p : Option Addr} {S : List Om} (cS : Nat) (hs : IsSt w p S) (hl : S.length ≤ 1048576) (s : ByteArray) (l : List Vl) (room fn : Int) (q : Option Addr) (c : Nat) (hv : Vals w q l) (hll : l.length ≤ 1048576) (h0 : s = ⟨#[]⟩) (h1 : fn = 0) (h2 : (l.length : Int) ≤ 65536) (h3 : (l.length : Int) ≤ room) (h4 : room ≤ 262144) (h5 : ¬ (heldP S l (false = true))) :
    Calls Tryz.prog 185 #[.slice p S.length cS, .agg #[.int .u8 4, .string s, .slice q l.length c, .int .i64 room, .int .i64 fn]] w fun e w' => e = .returned (.bool false) ∧ Below w.heap.size w w' := by
  subst h0
  subst h1
  have hob := heap_alloc_new w (.cells #[.int .u8 4, .string ⟨#[]⟩, .slice q l.length c, .int .i64 room, .int .i64 0] 96)
  have hB0 := below1 w (.cells #[.int .u8 4, .string ⟨#[]⟩, .slice q l.length c, .int .i64 room, .int .i64 0] 96)
  have H1 := fun (W : World) (h : Below w.heap.size w W) => rHeld_in (cq := c) cS (hs.below h) hl (hv.below h) hll false false (by simpa using h5)
  clear h5
  go_enter Tryz.func185, Tryz.ntmps185
  go_wp2_with (first
    | (go_at_call 253; refine (H1 _ (below1 _ _)).mono ?_; clear H1; rintro e w1 ⟨rfl, hB1⟩; obtain ⟨⟨d0, d1, d2, d3, d4⟩, -⟩ := cell_row5 ((hB1.block w.heap.size (by simp)).trans hob); have hB1' : Below w.heap.size w w1 := hB0.trans (hB1.mono (by simp))))
  go_ret
  exact ⟨rfl, hB1'⟩

set_option maxHeartbeats 1000000 in
theorem rObj_4_6 {p : Option Addr} {S : List Om} (cS : Nat) (hs : IsSt w p S) (hl : S.length ≤ 1048576) (s : ByteArray) (l : List Vl) (room fn : Int) (q : Option Addr) (c : Nat) (hv : Vals w q l) (hll : l.length ≤ 1048576) (h0 : s = ⟨#[]⟩) (h1 : fn = 0) (h2 : (l.length : Int) ≤ 65536) (h3 : (l.length : Int) ≤ room) (h4 : room ≤ 262144) (h5 : heldP S l (false = true)) :
    Calls Tryz.prog 185 #[.slice p S.length cS, .agg #[.int .u8 4, .string s, .slice q l.length c, .int .i64 room, .int .i64 fn]] w fun e w' => e = .returned (.bool true) ∧ Below w.heap.size w w' := by
  subst h0
  subst h1
  have hob := heap_alloc_new w (.cells #[.int .u8 4, .string ⟨#[]⟩, .slice q l.length c, .int .i64 room, .int .i64 0] 96)
  have hB0 := below1 w (.cells #[.int .u8 4, .string ⟨#[]⟩, .slice q l.length c, .int .i64 room, .int .i64 0] 96)
  have H1 := fun (W : World) (h : Below w.heap.size w W) => rHeld_in (cq := c) cS (hs.below h) hl (hv.below h) hll false true (by simpa using h5)
  clear h5
  go_enter Tryz.func185, Tryz.ntmps185
  go_wp2_with (first
    | (go_at_call 253; refine (H1 _ (below1 _ _)).mono ?_; clear H1; rintro e w1 ⟨rfl, hB1⟩; obtain ⟨⟨d0, d1, d2, d3, d4⟩, -⟩ := cell_row5 ((hB1.block w.heap.size (by simp)).trans hob); have hB1' : Below w.heap.size w w1 := hB0.trans (hB1.mono (by simp))))
  go_ret
  exact ⟨rfl, hB1'⟩

theorem rObj_4 {p : Option Addr} {S : List Om} (cS : Nat) (hs : IsSt w p S) (hl : S.length ≤ 1048576) (s : ByteArray) (l : List Vl) (room fn : Int) (q : Option Addr) (c : Nat) (hv : Vals w q l) (hll : l.length ≤ 1048576) (b : Bool) (hb : b = true ↔ objP S ⟨4, s, l, room, fn⟩) :
    Calls Tryz.prog 185 #[.slice p S.length cS, .agg #[.int .u8 4, .string s, .slice q l.length c, .int .i64 room, .int .i64 fn]] w fun e w' => e = .returned (.bool b) ∧ Below w.heap.size w w' := by
  unfold objP formP heldP roomP at hb
  simp at hb
  by_cases h0 : s = ⟨#[]⟩
  · by_cases h1 : fn = 0
    · by_cases h2 : (l.length : Int) ≤ 65536
      · by_cases h3 : (l.length : Int) ≤ room
        · by_cases h4 : room ≤ 262144
          · by_cases h5 : heldP S l (false = true)
            · have e := hb.2 (by simp_all [heldP])
              subst e
              exact rObj_4_6 cS hs hl s l room fn q c hv hll h0 h1 h2 h3 h4 h5
            · have e := b_false hb (fun h => h5 (by simp_all [heldP]))
              subst e
              exact rObj_4_5 cS hs hl s l room fn q c hv hll h0 h1 h2 h3 h4 h5
          · have e := b_false hb (fun h => h4 (by simp_all [heldP]))
            subst e
            exact rObj_4_4 cS hs hl s l room fn q c hv hll h0 h1 h2 h3 h4
        · have e := b_false hb (fun h => h3 (by simp_all [heldP]))
          subst e
          exact rObj_4_3 cS hs hl s l room fn q c hv hll h0 h1 h2 h3
      · have e := b_false hb (fun h => h2 (by simp_all [heldP]))
        subst e
        exact rObj_4_2 cS hs hl s l room fn q c hv hll h0 h1 h2
    · have e := b_false hb (fun h => h1 (by simp_all [heldP]))
      subst e
      exact rObj_4_1 cS hs hl s l room fn q c hv hll h0 h1
  · have e := b_false hb (fun h => h0 (by simp_all [heldP]))
    subst e
    exact rObj_4_0 cS hs hl s l room fn q c hv hll h0

set_option maxHeartbeats 1000000 in
theorem rObj_5_0 {p : Option Addr} {S : List Om} (cS : Nat) (hs : IsSt w p S) (hl : S.length ≤ 1048576) (s : ByteArray) (l : List Vl) (room fn : Int) (q : Option Addr) (c : Nat) (hv : Vals w q l) (hll : l.length ≤ 1048576)  (h0 : ¬ (s = ⟨#[]⟩)) :
    Calls Tryz.prog 185 #[.slice p S.length cS, .agg #[.int .u8 5, .string s, .slice q l.length c, .int .i64 room, .int .i64 fn]] w fun e w' => e = .returned (.bool false) ∧ Below w.heap.size w w' := by
  have g := toList_ne h0
  go_enter Tryz.func185, Tryz.ntmps185
  go_wp2
  go_ret
  refine ⟨?_, below1 _ _⟩
  first | rfl | (simp_all; done)

set_option maxHeartbeats 1000000 in
theorem rObj_5_1 {p : Option Addr} {S : List Om} (cS : Nat) (hs : IsSt w p S) (hl : S.length ≤ 1048576) (s : ByteArray) (l : List Vl) (room fn : Int) (q : Option Addr) (c : Nat) (hv : Vals w q l) (hll : l.length ≤ 1048576) (h0 : s = ⟨#[]⟩) (h1 : ¬ (fn = 0)) :
    Calls Tryz.prog 185 #[.slice p S.length cS, .agg #[.int .u8 5, .string s, .slice q l.length c, .int .i64 room, .int .i64 fn]] w fun e w' => e = .returned (.bool false) ∧ Below w.heap.size w w' := by
  subst h0
  have g : (fn == 0) = false := by simpa using h1
  go_enter Tryz.func185, Tryz.ntmps185
  go_wp2
  go_ret
  refine ⟨?_, below1 _ _⟩
  first | rfl | (simp_all; done)

set_option maxHeartbeats 1000000 in
theorem rObj_5_2 {p : Option Addr} {S : List Om} (cS : Nat) (hs : IsSt w p S) (hl : S.length ≤ 1048576) (s : ByteArray) (l : List Vl) (room fn : Int) (q : Option Addr) (c : Nat) (hv : Vals w q l) (hll : l.length ≤ 1048576) (h0 : s = ⟨#[]⟩) (h1 : fn = 0) (h2 : ¬ ((l.length : Int) % 2 = 0)) :
    Calls Tryz.prog 185 #[.slice p S.length cS, .agg #[.int .u8 5, .string s, .slice q l.length c, .int .i64 room, .int .i64 fn]] w fun e w' => e = .returned (.bool false) ∧ Below w.heap.size w w' := by
  subst h0
  subst h1
  have g : ((l.length : Int) % 2 == 0) = false := by simpa using h2
  go_enter Tryz.func185, Tryz.ntmps185
  go_wp2
  go_ret
  refine ⟨?_, below1 _ _⟩
  first | rfl | (simp_all; done)

set_option maxHeartbeats 1000000 in
theorem rObj_5_3 {p : Option Addr} {S : List Om} (cS : Nat) (hs : IsSt w p S) (hl : S.length ≤ 1048576) (s : ByteArray) (l : List Vl) (room fn : Int) (q : Option Addr) (c : Nat) (hv : Vals w q l) (hll : l.length ≤ 1048576) (h0 : s = ⟨#[]⟩) (h1 : fn = 0) (h2 : (l.length : Int) % 2 = 0) (h3 : ¬ ((l.length : Int) ≤ 131072)) :
    Calls Tryz.prog 185 #[.slice p S.length cS, .agg #[.int .u8 5, .string s, .slice q l.length c, .int .i64 room, .int .i64 fn]] w fun e w' => e = .returned (.bool false) ∧ Below w.heap.size w w' := by
  subst h0
  subst h1
  go_enter Tryz.func185, Tryz.ntmps185
  go_wp2
  go_ret
  refine ⟨?_, below1 _ _⟩
  first | rfl | (simp_all; done)

set_option maxHeartbeats 1000000 in
theorem rObj_5_4 {p : Option Addr} {S : List Om} (cS : Nat) (hs : IsSt w p S) (hl : S.length ≤ 1048576) (s : ByteArray) (l : List Vl) (room fn : Int) (q : Option Addr) (c : Nat) (hv : Vals w q l) (hll : l.length ≤ 1048576) (h0 : s = ⟨#[]⟩) (h1 : fn = 0) (h2 : (l.length : Int) % 2 = 0) (h3 : (l.length : Int) ≤ 131072) (h4 : ¬ ((l.length : Int) ≤ room)) :
    Calls Tryz.prog 185 #[.slice p S.length cS, .agg #[.int .u8 5, .string s, .slice q l.length c, .int .i64 room, .int .i64 fn]] w fun e w' => e = .returned (.bool false) ∧ Below w.heap.size w w' := by
  subst h0
  subst h1
  go_enter Tryz.func185, Tryz.ntmps185
  go_wp2
  go_ret
  refine ⟨?_, below1 _ _⟩
  first | rfl | (simp_all; done)

set_option maxHeartbeats 1000000 in
theorem rObj_5_5 {p : Option Addr} {S : List Om} (cS : Nat) (hs : IsSt w p S) (hl : S.length ≤ 1048576) (s : ByteArray) (l : List Vl) (room fn : Int) (q : Option Addr) (c : Nat) (hv : Vals w q l) (hll : l.length ≤ 1048576) (h0 : s = ⟨#[]⟩) (h1 : fn = 0) (h2 : (l.length : Int) % 2 = 0) (h3 : (l.length : Int) ≤ 131072) (h4 : (l.length : Int) ≤ room) (h5 : ¬ (room ≤ 262144)) :
    Calls Tryz.prog 185 #[.slice p S.length cS, .agg #[.int .u8 5, .string s, .slice q l.length c, .int .i64 room, .int .i64 fn]] w fun e w' => e = .returned (.bool false) ∧ Below w.heap.size w w' := by
  subst h0
  subst h1
  go_enter Tryz.func185, Tryz.ntmps185
  go_wp2
  go_ret
  refine ⟨?_, below1 _ _⟩
  first | rfl | (simp_all; done)

set_option maxHeartbeats 1000000 in
theorem rObj_5_6 {p : Option Addr} {S : List Om} (cS : Nat) (hs : IsSt w p S) (hl : S.length ≤ 1048576) (s : ByteArray) (l : List Vl) (room fn : Int) (q : Option Addr) (c : Nat) (hv : Vals w q l) (hll : l.length ≤ 1048576) (h0 : s = ⟨#[]⟩) (h1 : fn = 0) (h2 : (l.length : Int) % 2 = 0) (h3 : (l.length : Int) ≤ 131072) (h4 : (l.length : Int) ≤ room) (h5 : room ≤ 262144) (h6 : ¬ (heldP S l (false = true))) :
    Calls Tryz.prog 185 #[.slice p S.length cS, .agg #[.int .u8 5, .string s, .slice q l.length c, .int .i64 room, .int .i64 fn]] w fun e w' => e = .returned (.bool false) ∧ Below w.heap.size w w' := by
  subst h0
  subst h1
  have hob := heap_alloc_new w (.cells #[.int .u8 5, .string ⟨#[]⟩, .slice q l.length c, .int .i64 room, .int .i64 0] 96)
  have hB0 := below1 w (.cells #[.int .u8 5, .string ⟨#[]⟩, .slice q l.length c, .int .i64 room, .int .i64 0] 96)
  have H1 := fun (W : World) (h : Below w.heap.size w W) => rHeld_in (cq := c) cS (hs.below h) hl (hv.below h) hll false false (by simpa using h6)
  clear h6
  go_enter Tryz.func185, Tryz.ntmps185
  go_wp2_with (first
    | (go_at_call 253; refine (H1 _ (below1 _ _)).mono ?_; clear H1; rintro e w1 ⟨rfl, hB1⟩; obtain ⟨⟨d0, d1, d2, d3, d4⟩, -⟩ := cell_row5 ((hB1.block w.heap.size (by simp)).trans hob); have hB1' : Below w.heap.size w w1 := hB0.trans (hB1.mono (by simp))))
  go_ret
  exact ⟨rfl, hB1'⟩

set_option maxHeartbeats 1000000 in
theorem rObj_5_7 {p : Option Addr} {S : List Om} (cS : Nat) (hs : IsSt w p S) (hl : S.length ≤ 1048576) (s : ByteArray) (l : List Vl) (room fn : Int) (q : Option Addr) (c : Nat) (hv : Vals w q l) (hll : l.length ≤ 1048576) (h0 : s = ⟨#[]⟩) (h1 : fn = 0) (h2 : (l.length : Int) % 2 = 0) (h3 : (l.length : Int) ≤ 131072) (h4 : (l.length : Int) ≤ room) (h5 : room ≤ 262144) (h6 : heldP S l (false = true)) (h7 : ¬ (keysP S l)) :
    Calls Tryz.prog 185 #[.slice p S.length cS, .agg #[.int .u8 5, .string s, .slice q l.length c, .int .i64 room, .int .i64 fn]] w fun e w' => e = .returned (.bool false) ∧ Below w.heap.size w w' := by
  subst h0
  subst h1
  have hob := heap_alloc_new w (.cells #[.int .u8 5, .string ⟨#[]⟩, .slice q l.length c, .int .i64 room, .int .i64 0] 96)
  have hB0 := below1 w (.cells #[.int .u8 5, .string ⟨#[]⟩, .slice q l.length c, .int .i64 room, .int .i64 0] 96)
  have H1 := fun (W : World) (h : Below w.heap.size w W) => rHeld_in (cq := c) cS (hs.below h) hl (hv.below h) hll false true (by simpa using h6)
  have H2 := fun (W : World) (h : Below w.heap.size w W) => rKeys_in (cq := c) cS (hs.below h) hl (hv.below h) hll false (by simpa using h7)
  clear h6 h7
  go_enter Tryz.func185, Tryz.ntmps185
  go_wp2_with (first
    | (go_at_call 253; refine (H1 _ (below1 _ _)).mono ?_; clear H1; rintro e w1 ⟨rfl, hB1⟩; obtain ⟨⟨d0, d1, d2, d3, d4⟩, -⟩ := cell_row5 ((hB1.block w.heap.size (by simp)).trans hob); have hB1' : Below w.heap.size w w1 := hB0.trans (hB1.mono (by simp)))
    | (go_at_call 254; refine (H2 _ hB1').mono ?_; clear H2; rintro e w2 ⟨rfl, hB2⟩))
  go_ret
  exact ⟨rfl, hB1'.trans (hB2.mono hB1'.size)⟩

set_option maxHeartbeats 1000000 in
theorem rObj_5_8 {p : Option Addr} {S : List Om} (cS : Nat) (hs : IsSt w p S) (hl : S.length ≤ 1048576) (s : ByteArray) (l : List Vl) (room fn : Int) (q : Option Addr) (c : Nat) (hv : Vals w q l) (hll : l.length ≤ 1048576) (h0 : s = ⟨#[]⟩) (h1 : fn = 0) (h2 : (l.length : Int) % 2 = 0) (h3 : (l.length : Int) ≤ 131072) (h4 : (l.length : Int) ≤ room) (h5 : room ≤ 262144) (h6 : heldP S l (false = true)) (h7 : keysP S l) :
    Calls Tryz.prog 185 #[.slice p S.length cS, .agg #[.int .u8 5, .string s, .slice q l.length c, .int .i64 room, .int .i64 fn]] w fun e w' => e = .returned (.bool true) ∧ Below w.heap.size w w' := by
  subst h0
  subst h1
  have hob := heap_alloc_new w (.cells #[.int .u8 5, .string ⟨#[]⟩, .slice q l.length c, .int .i64 room, .int .i64 0] 96)
  have hB0 := below1 w (.cells #[.int .u8 5, .string ⟨#[]⟩, .slice q l.length c, .int .i64 room, .int .i64 0] 96)
  have H1 := fun (W : World) (h : Below w.heap.size w W) => rHeld_in (cq := c) cS (hs.below h) hl (hv.below h) hll false true (by simpa using h6)
  have H2 := fun (W : World) (h : Below w.heap.size w W) => rKeys_in (cq := c) cS (hs.below h) hl (hv.below h) hll true (by simpa using h7)
  clear h6 h7
  go_enter Tryz.func185, Tryz.ntmps185
  go_wp2_with (first
    | (go_at_call 253; refine (H1 _ (below1 _ _)).mono ?_; clear H1; rintro e w1 ⟨rfl, hB1⟩; obtain ⟨⟨d0, d1, d2, d3, d4⟩, -⟩ := cell_row5 ((hB1.block w.heap.size (by simp)).trans hob); have hB1' : Below w.heap.size w w1 := hB0.trans (hB1.mono (by simp)))
    | (go_at_call 254; refine (H2 _ hB1').mono ?_; clear H2; rintro e w2 ⟨rfl, hB2⟩))
  go_ret
  exact ⟨rfl, hB1'.trans (hB2.mono hB1'.size)⟩

theorem rObj_5 {p : Option Addr} {S : List Om} (cS : Nat) (hs : IsSt w p S) (hl : S.length ≤ 1048576) (s : ByteArray) (l : List Vl) (room fn : Int) (q : Option Addr) (c : Nat) (hv : Vals w q l) (hll : l.length ≤ 1048576) (b : Bool) (hb : b = true ↔ objP S ⟨5, s, l, room, fn⟩) :
    Calls Tryz.prog 185 #[.slice p S.length cS, .agg #[.int .u8 5, .string s, .slice q l.length c, .int .i64 room, .int .i64 fn]] w fun e w' => e = .returned (.bool b) ∧ Below w.heap.size w w' := by
  unfold objP formP heldP roomP at hb
  simp at hb
  by_cases h0 : s = ⟨#[]⟩
  · by_cases h1 : fn = 0
    · by_cases h2 : (l.length : Int) % 2 = 0
      · by_cases h3 : (l.length : Int) ≤ 131072
        · by_cases h4 : (l.length : Int) ≤ room
          · by_cases h5 : room ≤ 262144
            · by_cases h6 : heldP S l (false = true)
              · by_cases h7 : keysP S l
                · have e := hb.2 (by simp_all [heldP])
                  subst e
                  exact rObj_5_8 cS hs hl s l room fn q c hv hll h0 h1 h2 h3 h4 h5 h6 h7
                · have e := b_false hb (fun h => h7 (by simp_all [heldP]))
                  subst e
                  exact rObj_5_7 cS hs hl s l room fn q c hv hll h0 h1 h2 h3 h4 h5 h6 h7
              · have e := b_false hb (fun h => h6 (by simp_all [heldP]))
                subst e
                exact rObj_5_6 cS hs hl s l room fn q c hv hll h0 h1 h2 h3 h4 h5 h6
            · have e := b_false hb (fun h => h5 (by simp_all [heldP]))
              subst e
              exact rObj_5_5 cS hs hl s l room fn q c hv hll h0 h1 h2 h3 h4 h5
          · have e := b_false hb (fun h => h4 (by simp_all [heldP]))
            subst e
            exact rObj_5_4 cS hs hl s l room fn q c hv hll h0 h1 h2 h3 h4
        · have e := b_false hb (fun h => h3 (by simp_all [heldP]))
          subst e
          exact rObj_5_3 cS hs hl s l room fn q c hv hll h0 h1 h2 h3
      · have e := b_false hb (fun h => h2 (by simp_all [heldP]))
        subst e
        exact rObj_5_2 cS hs hl s l room fn q c hv hll h0 h1 h2
    · have e := b_false hb (fun h => h1 (by simp_all [heldP]))
      subst e
      exact rObj_5_1 cS hs hl s l room fn q c hv hll h0 h1
  · have e := b_false hb (fun h => h0 (by simp_all [heldP]))
    subst e
    exact rObj_5_0 cS hs hl s l room fn q c hv hll h0

set_option maxHeartbeats 1000000 in
theorem rObj_6_0 {p : Option Addr} {S : List Om} (cS : Nat) (hs : IsSt w p S) (hl : S.length ≤ 1048576) (s : ByteArray) (l : List Vl) (room fn : Int) (q : Option Addr) (c : Nat) (hv : Vals w q l) (hll : l.length ≤ 1048576)  (h0 : ¬ (s = ⟨#[]⟩)) :
    Calls Tryz.prog 185 #[.slice p S.length cS, .agg #[.int .u8 6, .string s, .slice q l.length c, .int .i64 room, .int .i64 fn]] w fun e w' => e = .returned (.bool false) ∧ Below w.heap.size w w' := by
  have g := toList_ne h0
  go_enter Tryz.func185, Tryz.ntmps185
  go_wp2
  go_ret
  refine ⟨?_, below1 _ _⟩
  first | rfl | (simp_all; done)

set_option maxHeartbeats 1000000 in
theorem rObj_6_1 {p : Option Addr} {S : List Om} (cS : Nat) (hs : IsSt w p S) (hl : S.length ≤ 1048576) (s : ByteArray) (l : List Vl) (room fn : Int) (q : Option Addr) (c : Nat) (hv : Vals w q l) (hll : l.length ≤ 1048576) (h0 : s = ⟨#[]⟩) (h1 : ¬ (room = 0)) :
    Calls Tryz.prog 185 #[.slice p S.length cS, .agg #[.int .u8 6, .string s, .slice q l.length c, .int .i64 room, .int .i64 fn]] w fun e w' => e = .returned (.bool false) ∧ Below w.heap.size w w' := by
  subst h0
  have g : (room == 0) = false := by simpa using h1
  go_enter Tryz.func185, Tryz.ntmps185
  go_wp2
  go_ret
  refine ⟨?_, below1 _ _⟩
  first | rfl | (simp_all; done)

set_option maxHeartbeats 1000000 in
theorem rObj_6_2 {p : Option Addr} {S : List Om} (cS : Nat) (hs : IsSt w p S) (hl : S.length ≤ 1048576) (s : ByteArray) (l : List Vl) (room fn : Int) (q : Option Addr) (c : Nat) (hv : Vals w q l) (hll : l.length ≤ 1048576) (h0 : s = ⟨#[]⟩) (h1 : room = 0) (h2 : ¬ (0 ≤ fn)) :
    Calls Tryz.prog 185 #[.slice p S.length cS, .agg #[.int .u8 6, .string s, .slice q l.length c, .int .i64 room, .int .i64 fn]] w fun e w' => e = .returned (.bool false) ∧ Below w.heap.size w w' := by
  subst h0
  subst h1
  go_enter Tryz.func185, Tryz.ntmps185
  go_wp2
  go_ret
  refine ⟨?_, below1 _ _⟩
  first | rfl | (simp_all; done)

set_option maxHeartbeats 1000000 in
theorem rObj_6_3 {p : Option Addr} {S : List Om} (cS : Nat) (hs : IsSt w p S) (hl : S.length ≤ 1048576) (s : ByteArray) (l : List Vl) (room fn : Int) (q : Option Addr) (c : Nat) (hv : Vals w q l) (hll : l.length ≤ 1048576) (h0 : s = ⟨#[]⟩) (h1 : room = 0) (h2 : 0 ≤ fn) (h3 : ¬ (fn < 256)) :
    Calls Tryz.prog 185 #[.slice p S.length cS, .agg #[.int .u8 6, .string s, .slice q l.length c, .int .i64 room, .int .i64 fn]] w fun e w' => e = .returned (.bool false) ∧ Below w.heap.size w w' := by
  subst h0
  subst h1
  go_enter Tryz.func185, Tryz.ntmps185
  go_wp2
  go_ret
  refine ⟨?_, below1 _ _⟩
  first | rfl | (simp_all; done)

set_option maxHeartbeats 1000000 in
theorem rObj_6_4 {p : Option Addr} {S : List Om} (cS : Nat) (hs : IsSt w p S) (hl : S.length ≤ 1048576) (s : ByteArray) (l : List Vl) (room fn : Int) (q : Option Addr) (c : Nat) (hv : Vals w q l) (hll : l.length ≤ 1048576) (h0 : s = ⟨#[]⟩) (h1 : room = 0) (h2 : 0 ≤ fn) (h3 : fn < 256) (h4 : ¬ (heldP S l (true = true))) :
    Calls Tryz.prog 185 #[.slice p S.length cS, .agg #[.int .u8 6, .string s, .slice q l.length c, .int .i64 room, .int .i64 fn]] w fun e w' => e = .returned (.bool false) ∧ Below w.heap.size w w' := by
  subst h0
  subst h1
  have hob := heap_alloc_new w (.cells #[.int .u8 6, .string ⟨#[]⟩, .slice q l.length c, .int .i64 0, .int .i64 fn] 96)
  have hB0 := below1 w (.cells #[.int .u8 6, .string ⟨#[]⟩, .slice q l.length c, .int .i64 0, .int .i64 fn] 96)
  have H1 := fun (W : World) (h : Below w.heap.size w W) => rHeld_in (cq := c) cS (hs.below h) hl (hv.below h) hll true false (by simpa using h4)
  clear h4
  go_enter Tryz.func185, Tryz.ntmps185
  go_wp2_with (first
    | (go_at_call 253; refine (H1 _ (below1 _ _)).mono ?_; clear H1; rintro e w1 ⟨rfl, hB1⟩; obtain ⟨⟨d0, d1, d2, d3, d4⟩, -⟩ := cell_row5 ((hB1.block w.heap.size (by simp)).trans hob); have hB1' : Below w.heap.size w w1 := hB0.trans (hB1.mono (by simp))))
  go_ret
  exact ⟨rfl, hB1'⟩

set_option maxHeartbeats 1000000 in
theorem rObj_6_5 {p : Option Addr} {S : List Om} (cS : Nat) (hs : IsSt w p S) (hl : S.length ≤ 1048576) (s : ByteArray) (l : List Vl) (room fn : Int) (q : Option Addr) (c : Nat) (hv : Vals w q l) (hll : l.length ≤ 1048576) (h0 : s = ⟨#[]⟩) (h1 : room = 0) (h2 : 0 ≤ fn) (h3 : fn < 256) (h4 : heldP S l (true = true)) :
    Calls Tryz.prog 185 #[.slice p S.length cS, .agg #[.int .u8 6, .string s, .slice q l.length c, .int .i64 room, .int .i64 fn]] w fun e w' => e = .returned (.bool true) ∧ Below w.heap.size w w' := by
  subst h0
  subst h1
  have hob := heap_alloc_new w (.cells #[.int .u8 6, .string ⟨#[]⟩, .slice q l.length c, .int .i64 0, .int .i64 fn] 96)
  have hB0 := below1 w (.cells #[.int .u8 6, .string ⟨#[]⟩, .slice q l.length c, .int .i64 0, .int .i64 fn] 96)
  have H1 := fun (W : World) (h : Below w.heap.size w W) => rHeld_in (cq := c) cS (hs.below h) hl (hv.below h) hll true true (by simpa using h4)
  clear h4
  go_enter Tryz.func185, Tryz.ntmps185
  go_wp2_with (first
    | (go_at_call 253; refine (H1 _ (below1 _ _)).mono ?_; clear H1; rintro e w1 ⟨rfl, hB1⟩; obtain ⟨⟨d0, d1, d2, d3, d4⟩, -⟩ := cell_row5 ((hB1.block w.heap.size (by simp)).trans hob); have hB1' : Below w.heap.size w w1 := hB0.trans (hB1.mono (by simp))))
  go_ret
  exact ⟨rfl, hB1'⟩

theorem rObj_6 {p : Option Addr} {S : List Om} (cS : Nat) (hs : IsSt w p S) (hl : S.length ≤ 1048576) (s : ByteArray) (l : List Vl) (room fn : Int) (q : Option Addr) (c : Nat) (hv : Vals w q l) (hll : l.length ≤ 1048576) (b : Bool) (hb : b = true ↔ objP S ⟨6, s, l, room, fn⟩) :
    Calls Tryz.prog 185 #[.slice p S.length cS, .agg #[.int .u8 6, .string s, .slice q l.length c, .int .i64 room, .int .i64 fn]] w fun e w' => e = .returned (.bool b) ∧ Below w.heap.size w w' := by
  unfold objP formP heldP roomP at hb
  simp at hb
  by_cases h0 : s = ⟨#[]⟩
  · by_cases h1 : room = 0
    · by_cases h2 : 0 ≤ fn
      · by_cases h3 : fn < 256
        · by_cases h4 : heldP S l (true = true)
          · have e := hb.2 (by simp_all [heldP])
            subst e
            exact rObj_6_5 cS hs hl s l room fn q c hv hll h0 h1 h2 h3 h4
          · have e := b_false hb (fun h => h4 (by simp_all [heldP]))
            subst e
            exact rObj_6_4 cS hs hl s l room fn q c hv hll h0 h1 h2 h3 h4
        · have e := b_false hb (fun h => h3 (by simp_all [heldP]))
          subst e
          exact rObj_6_3 cS hs hl s l room fn q c hv hll h0 h1 h2 h3
      · have e := b_false hb (fun h => h2 (by simp_all [heldP]))
        subst e
        exact rObj_6_2 cS hs hl s l room fn q c hv hll h0 h1 h2
    · have e := b_false hb (fun h => h1 (by simp_all [heldP]))
      subst e
      exact rObj_6_1 cS hs hl s l room fn q c hv hll h0 h1
  · have e := b_false hb (fun h => h0 (by simp_all [heldP]))
    subst e
    exact rObj_6_0 cS hs hl s l room fn q c hv hll h0

set_option maxHeartbeats 1000000 in
theorem rObj_7_0 {p : Option Addr} {S : List Om} (cS : Nat) (hs : IsSt w p S) (hl : S.length ≤ 1048576) (s : ByteArray) (l : List Vl) (room fn : Int) (q : Option Addr) (c : Nat) (hv : Vals w q l) (hll : l.length ≤ 1048576)  (h0 : ¬ (s = ⟨#[]⟩)) :
    Calls Tryz.prog 185 #[.slice p S.length cS, .agg #[.int .u8 7, .string s, .slice q l.length c, .int .i64 room, .int .i64 fn]] w fun e w' => e = .returned (.bool false) ∧ Below w.heap.size w w' := by
  have g := toList_ne h0
  go_enter Tryz.func185, Tryz.ntmps185
  go_wp2
  go_ret
  refine ⟨?_, below1 _ _⟩
  first | rfl | (simp_all; done)

set_option maxHeartbeats 1000000 in
theorem rObj_7_1 {p : Option Addr} {S : List Om} (cS : Nat) (hs : IsSt w p S) (hl : S.length ≤ 1048576) (s : ByteArray) (l : List Vl) (room fn : Int) (q : Option Addr) (c : Nat) (hv : Vals w q l) (hll : l.length ≤ 1048576) (h0 : s = ⟨#[]⟩) (h1 : ¬ (room = 0)) :
    Calls Tryz.prog 185 #[.slice p S.length cS, .agg #[.int .u8 7, .string s, .slice q l.length c, .int .i64 room, .int .i64 fn]] w fun e w' => e = .returned (.bool false) ∧ Below w.heap.size w w' := by
  subst h0
  have g : (room == 0) = false := by simpa using h1
  go_enter Tryz.func185, Tryz.ntmps185
  go_wp2
  go_ret
  refine ⟨?_, below1 _ _⟩
  first | rfl | (simp_all; done)

set_option maxHeartbeats 1000000 in
theorem rObj_7_2 {p : Option Addr} {S : List Om} (cS : Nat) (hs : IsSt w p S) (hl : S.length ≤ 1048576) (s : ByteArray) (l : List Vl) (room fn : Int) (q : Option Addr) (c : Nat) (hv : Vals w q l) (hll : l.length ≤ 1048576) (h0 : s = ⟨#[]⟩) (h1 : room = 0) (h2 : ¬ (fn = 0)) :
    Calls Tryz.prog 185 #[.slice p S.length cS, .agg #[.int .u8 7, .string s, .slice q l.length c, .int .i64 room, .int .i64 fn]] w fun e w' => e = .returned (.bool false) ∧ Below w.heap.size w w' := by
  subst h0
  subst h1
  have g : (fn == 0) = false := by simpa using h2
  go_enter Tryz.func185, Tryz.ntmps185
  go_wp2
  go_ret
  refine ⟨?_, below1 _ _⟩
  first | rfl | (simp_all; done)

set_option maxHeartbeats 1000000 in
theorem rObj_7_3 {p : Option Addr} {S : List Om} (cS : Nat) (hs : IsSt w p S) (hl : S.length ≤ 1048576) (s : ByteArray) (l : List Vl) (room fn : Int) (q : Option Addr) (c : Nat) (hv : Vals w q l) (hll : l.length ≤ 1048576) (h0 : s = ⟨#[]⟩) (h1 : room = 0) (h2 : fn = 0) (h3 : ¬ ((l.length : Int) = 1)) :
    Calls Tryz.prog 185 #[.slice p S.length cS, .agg #[.int .u8 7, .string s, .slice q l.length c, .int .i64 room, .int .i64 fn]] w fun e w' => e = .returned (.bool false) ∧ Below w.heap.size w w' := by
  subst h0
  subst h1
  subst h2
  have g : ((l.length : Int) == 1) = false := by simpa using h3
  go_enter Tryz.func185, Tryz.ntmps185
  go_wp2
  go_ret
  refine ⟨?_, below1 _ _⟩
  first | rfl | (simp_all; done)

set_option maxHeartbeats 1000000 in
theorem rObj_7_4 {p : Option Addr} {S : List Om} (cS : Nat) (hs : IsSt w p S) (hl : S.length ≤ 1048576) (s : ByteArray) (l : List Vl) (room fn : Int) (q : Option Addr) (c : Nat) (hv : Vals w q l) (hll : l.length ≤ 1048576) (h0 : s = ⟨#[]⟩) (h1 : room = 0) (h2 : fn = 0) (h3 : (l.length : Int) = 1) (h4 : ¬ (heldP S l (false = true))) :
    Calls Tryz.prog 185 #[.slice p S.length cS, .agg #[.int .u8 7, .string s, .slice q l.length c, .int .i64 room, .int .i64 fn]] w fun e w' => e = .returned (.bool false) ∧ Below w.heap.size w w' := by
  subst h0
  subst h1
  subst h2
  have hob := heap_alloc_new w (.cells #[.int .u8 7, .string ⟨#[]⟩, .slice q l.length c, .int .i64 0, .int .i64 0] 96)
  have hB0 := below1 w (.cells #[.int .u8 7, .string ⟨#[]⟩, .slice q l.length c, .int .i64 0, .int .i64 0] 96)
  have H1 := fun (W : World) (h : Below w.heap.size w W) => rHeld_in (cq := c) cS (hs.below h) hl (hv.below h) hll false false (by simpa using h4)
  clear h4
  go_enter Tryz.func185, Tryz.ntmps185
  go_wp2_with (first
    | (go_at_call 253; refine (H1 _ (below1 _ _)).mono ?_; clear H1; rintro e w1 ⟨rfl, hB1⟩; obtain ⟨⟨d0, d1, d2, d3, d4⟩, -⟩ := cell_row5 ((hB1.block w.heap.size (by simp)).trans hob); have hB1' : Below w.heap.size w w1 := hB0.trans (hB1.mono (by simp))))
  go_ret
  exact ⟨rfl, hB1'⟩

set_option maxHeartbeats 1000000 in
theorem rObj_7_5 {p : Option Addr} {S : List Om} (cS : Nat) (hs : IsSt w p S) (hl : S.length ≤ 1048576) (s : ByteArray) (l : List Vl) (room fn : Int) (q : Option Addr) (c : Nat) (hv : Vals w q l) (hll : l.length ≤ 1048576) (h0 : s = ⟨#[]⟩) (h1 : room = 0) (h2 : fn = 0) (h3 : (l.length : Int) = 1) (h4 : heldP S l (false = true)) :
    Calls Tryz.prog 185 #[.slice p S.length cS, .agg #[.int .u8 7, .string s, .slice q l.length c, .int .i64 room, .int .i64 fn]] w fun e w' => e = .returned (.bool true) ∧ Below w.heap.size w w' := by
  subst h0
  subst h1
  subst h2
  have hob := heap_alloc_new w (.cells #[.int .u8 7, .string ⟨#[]⟩, .slice q l.length c, .int .i64 0, .int .i64 0] 96)
  have hB0 := below1 w (.cells #[.int .u8 7, .string ⟨#[]⟩, .slice q l.length c, .int .i64 0, .int .i64 0] 96)
  have H1 := fun (W : World) (h : Below w.heap.size w W) => rHeld_in (cq := c) cS (hs.below h) hl (hv.below h) hll false true (by simpa using h4)
  clear h4
  go_enter Tryz.func185, Tryz.ntmps185
  go_wp2_with (first
    | (go_at_call 253; refine (H1 _ (below1 _ _)).mono ?_; clear H1; rintro e w1 ⟨rfl, hB1⟩; obtain ⟨⟨d0, d1, d2, d3, d4⟩, -⟩ := cell_row5 ((hB1.block w.heap.size (by simp)).trans hob); have hB1' : Below w.heap.size w w1 := hB0.trans (hB1.mono (by simp))))
  go_ret
  exact ⟨rfl, hB1'⟩

theorem rObj_7 {p : Option Addr} {S : List Om} (cS : Nat) (hs : IsSt w p S) (hl : S.length ≤ 1048576) (s : ByteArray) (l : List Vl) (room fn : Int) (q : Option Addr) (c : Nat) (hv : Vals w q l) (hll : l.length ≤ 1048576) (b : Bool) (hb : b = true ↔ objP S ⟨7, s, l, room, fn⟩) :
    Calls Tryz.prog 185 #[.slice p S.length cS, .agg #[.int .u8 7, .string s, .slice q l.length c, .int .i64 room, .int .i64 fn]] w fun e w' => e = .returned (.bool b) ∧ Below w.heap.size w w' := by
  unfold objP formP heldP roomP at hb
  simp at hb
  by_cases h0 : s = ⟨#[]⟩
  · by_cases h1 : room = 0
    · by_cases h2 : fn = 0
      · by_cases h3 : (l.length : Int) = 1
        · by_cases h4 : heldP S l (false = true)
          · have e := hb.2 (by simp_all [heldP])
            subst e
            exact rObj_7_5 cS hs hl s l room fn q c hv hll h0 h1 h2 h3 h4
          · have e := b_false hb (fun h => h4 (by simp_all [heldP]))
            subst e
            exact rObj_7_4 cS hs hl s l room fn q c hv hll h0 h1 h2 h3 h4
        · have e := b_false hb (fun h => h3 (by simp_all [heldP]))
          subst e
          exact rObj_7_3 cS hs hl s l room fn q c hv hll h0 h1 h2 h3
      · have e := b_false hb (fun h => h2 (by simp_all [heldP]))
        subst e
        exact rObj_7_2 cS hs hl s l room fn q c hv hll h0 h1 h2
    · have e := b_false hb (fun h => h1 (by simp_all [heldP]))
      subst e
      exact rObj_7_1 cS hs hl s l room fn q c hv hll h0 h1
  · have e := b_false hb (fun h => h0 (by simp_all [heldP]))
    subst e
    exact rObj_7_0 cS hs hl s l room fn q c hv hll h0

/-- The document's obj. -/
theorem rObj_in {p : Option Addr} {S : List Om} (cS : Nat) (hs : IsSt w p S) (hl : S.length ≤ 1048576) (o : Om) (q : Option Addr) (c : Nat) (hv : Vals w q o.l) (hll : o.l.length ≤ 1048576) (h3 : 3 ≤ o.k) (h7 : o.k ≤ 7) (b : Bool) (hb : b = true ↔ objP S o) :
    Calls Tryz.prog 185 #[.slice p S.length cS, objV o q c] w fun e w' => e = .returned (.bool b) ∧ Below w.heap.size w w' := by
  obtain ⟨k, s, l, room, fn⟩ := o
  dsimp only at hv hll h3 h7
  unfold objV
  rcases (show k = 3 ∨ k = 4 ∨ k = 5 ∨ k = 6 ∨ k = 7 by omega) with h | h | h | h | h
  · subst h; exact rObj_3 cS hs hl s l room fn q c hv hll b hb
  · subst h; exact rObj_4 cS hs hl s l room fn q c hv hll b hb
  · subst h; exact rObj_5 cS hs hl s l room fn q c hv hll b hb
  · subst h; exact rObj_6 cS hs hl s l room fn q c hv hll b hb
  · subst h; exact rObj_7 cS hs hl s l room fn q c hv hll b hb

end Go.Proofs.YtgokofomoachaaaGreatDoor

namespace Go.Proofs.YtgokofomoachaaaGreatDoor
set_option linter.unusedVariables false
set_option linter.unusedSimpArgs false
open Go.RowKit

variable {w : World}

theorem valsOne (w : World) (v : Vl) : Vals (w.alloc (.cells #[.int .u8 v.k, .int .i64 v.n] 27)) (some ⟨w.heap.size, 0, none⟩) [v] := by
  intro j u hj
  have : j = 0 := by have := (List.getElem?_eq_some_iff.1 hj).1; simp at this; omega
  subst this
  simp at hj; subst hj
  obtain ⟨h1, h2⟩ := cell_row2 (heap_alloc_new w (.cells #[.int .u8 v.k, .int .i64 v.n] 27))
  exact ⟨_, 0, rfl, by simp, by simp⟩

theorem objAt_nat {S : List Om} {j : Nat} {o : Om} (h : S[j]? = some o) : objAt S ((j : Int) + 1) = some o := by
  unfold objAt
  rw [if_pos (by omega), show ((j : Int) + 1 - 1).toNat = j by omega]; exact h

set_option maxRecDepth 20000 in
set_option maxHeartbeats 2000000 in
theorem rCheck_in {p : Option Addr} {S : List Om} (c : Nat) (hs : IsSt w p S) (hsm : Small S) (v : Vl) (b : Bool) (hb : b = true ↔ checkP S v) :
    Calls Tryz.prog 74 #[.slice p S.length c, .agg #[.int .u8 v.k, .int .i64 v.n]] w fun e w' => e = .returned (.bool b) ∧ Below w.heap.size w w' := by
  have hlen := hsm.len
  obtain ⟨bv, hbv⟩ := b_of (valP S v)
  have H1 := fun (W : World) (h : Below w.heap.size w W) => rVal_in c (hs.below h) hlen v bv hbv
  have hbx := heap_alloc_new w (.cells #[.int .u8 v.k, .int .i64 v.n] 27)
  cases bv with
  | false =>
    have hbf := b_false hb (fun h => by have := hbv.2 h.1; cases this)
    subst hbf
    clear hb hbv
    go_enter Tryz.func74, Tryz.ntmps74
    go_wp2_with (first
      | (go_at_call 183; refine (H1 _ (below1 _ _)).mono ?_; clear H1; rintro e w1 ⟨rfl, hB1⟩))
    go_ret
    exact ⟨rfl, (below1 w _).trans (hB1.mono (by simp))⟩
  | true =>
    have hval := hbv.1 rfl
    clear hbv
    have H2 := fun (W : World) (h : Below w.heap.size w W) => reached_in (roots := [v]) c 1 (hs.below (h.trans ((below1 W (.cells #[.int .u8 v.k, .int .i64 v.n] 27)).mono h.size))) hlen hsm.vals (valsOne W v) (by simp) (fun e => by cases e)
    go_enter Tryz.func74, Tryz.ntmps74
    go_wp2_with (first
      | (go_at_call 183; refine (H1 _ (below1 _ _)).mono ?_; clear H1; rintro e w1 ⟨rfl, hB1⟩; have hB1' : Below w.heap.size w w1 := (below1 w _).trans (hB1.mono (by simp)); obtain ⟨d0, d1⟩ := cell_row2 ((hB1.block w.heap.size (by simp)).trans hbx))
      | (go_at_call 184; refine (H2 _ hB1').mono ?_; clear H2; rintro e w2 ⟨bi, In, rfl, hIn, hway, hB2⟩))
    have hB2' : Below w.heap.size w w2 := hB1'.trans ((below1 w1 _).trans (hB2.mono (by simp)) |>.mono hB1'.size)
    have hil := hway.len
    have hbl : bi < w2.heap.size := (Array.getElem?_eq_some_iff.1 hIn).1
    go_loopw [6] (fun k wr => ∃ j : Nat, k = .int .i64 j ∧ j ≤ S.length ∧ (∀ i o, i < j → In[i]? = some true → S[i]? = some o → objP S o) ∧ Below w2.heap.size w2 wr) (fun k _ => S.length - (intOf k).toNat)
    case atStart => exact ⟨0, rfl, by omega, (fun i o h => by omega), Below.refl _ _⟩
    case round =>
      obtain ⟨j, rfl, hj, hh, hB⟩ := hrel
      have hB0 : Below w.heap.size w wr := hB2'.trans (hB.mono hB2'.size)
      have hIn' := hIn.kept (hB.block _ hbl)
      have HH : Hid _ := hh
      clear hh
      by_cases hjn : j < S.length
      · obtain ⟨m, hm⟩ : ∃ b, In[j]? = some b := ⟨In[j]'(by omega), by simp⟩
        obtain ⟨o, ho⟩ : ∃ o, S[j]? = some o := ⟨S[j], by simp⟩
        obtain ⟨hc, -⟩ := hIn'.cell hm
        have hjn' : (j : Int) < (S.length : Int) := by omega
        cases m with
        | false =>
          have HM : Hid _ := hm
          clear hm ho
          go_wp2
          go_roundw
          case rel =>
            refine ⟨j + 1, by simp, by omega, ?_, hB⟩
            intro i o' hi h1 h2
            by_cases e : i < j
            · exact HH.out i o' e h1 h2
            · have : i = j := by omega
              subst this
              rw [HM.out] at h1; cases h1
          case measure => simp [intOf]; omega
        | true =>
          have hmk : Marked In ((j : Int) + 1) := ⟨by omega, by rw [show ((j : Int) + 1 - 1).toNat = j by omega]; exact hm⟩
          have hrc := hway.rch _ hmk
          have hob := objAt_nat ho
          obtain ⟨-, -, o', ho', hk3, hk7⟩ := hrc.num
          rw [hob] at ho'; cases ho'
          obtain ⟨b0, off, rfl, c0, c1, ⟨qo, co, c2, hvo, -⟩, c3, c4⟩ := hs.look hB0 ho
          have hol := hsm.vals o (List.mem_of_getElem? ho)
          obtain ⟨bo, hbo⟩ := b_of (objP S o)
          have H3 := fun (W : World) (h : Below w.heap.size w W) => rObj_in c (hs.below h) hlen o qo co (hvo.below h) (by omega) hk3 hk7 bo hbo
          unfold objV at H3
          cases bo with
          | false =>
            have hbf := b_false hb (fun h => by have := hbo.2 (h.2 _ _ hrc hob); cases this)
            subst hbf
            clear hb hbo hrc hob hmk hm ho hvo
            go_wp2_with (first
              | (go_at_call 185; refine (H3 _ hB0).mono ?_; clear H3; rintro e w3 ⟨rfl, hB3⟩))
            go_ret
            exact ⟨rfl, hB0.trans (hB3.mono hB0.size)⟩
          | true =>
            have hok := hbo.1 rfl
            have HO : Hid _ := ho
            clear hbo hrc hob hmk hm ho hvo
            go_wp2_with (first
              | (go_at_call 185; refine (H3 _ hB0).mono ?_; clear H3; rintro e w3 ⟨rfl, hB3⟩))
            go_roundw
            case rel =>
              refine ⟨j + 1, by simp, by omega, ?_, hB.trans (hB3.mono hB.size)⟩
              intro i o' hi h1 h2
              by_cases e : i < j
              · exact HH.out i o' e h1 h2
              · have : i = j := by omega
                subst this
                rw [HO.out] at h2; cases h2; exact hok
            case measure => simp [intOf]; omega
      · have hjn' : ¬ ((j : Int) < (S.length : Int)) := by omega
        have hbt := b_true hb ⟨hval, fun x o hx ho => by
          obtain ⟨-, i, hxi, hiS, hSi⟩ := objAt_mem ho
          have hmk := (hway.end x).2 hx
          unfold Marked at hmk
          rw [hxi, show ((i : Int) + 1 - 1).toNat = i by omega] at hmk
          exact HH.out i o (by omega) hmk.2 hSi⟩
        subst hbt
        clear hb
        go_wp2
        go_ret
        exact ⟨rfl, hB0⟩

end Go.Proofs.YtgokofomoachaaaGreatDoor
