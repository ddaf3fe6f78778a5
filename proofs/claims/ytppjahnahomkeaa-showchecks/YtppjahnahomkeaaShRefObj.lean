/- The document's obj: may an object be, but for the objects of its values? -/
import Derived.Test.YtppjahnahomkeaaShKeys
namespace Go.Proofs.Ytppjahnahomkeaa
set_option linter.unusedVariables false
set_option linter.unusedSimpArgs false
open Go.RowKit

variable {w : World}

set_option maxHeartbeats 1000000 in
theorem rObj_3_0 {p : Option Addr} {S : List Om} (cS : Nat) (hs : IsSt w p S) (hl : S.length ≤ 1048576) (s : ByteArray) (l : List Vl) (room fn : Int) (q : Option Addr) (c : Nat) (hv : Vals w q l) (hll : l.length ≤ 1048576)  (h0 : ¬ ((s.size : Int) ≤ 4096)) :
    Calls Try.prog 23 #[.slice p S.length cS, .agg #[.int .u8 3, .string s, .slice q l.length c, .int .i64 room, .int .i64 fn]] w fun e w' => e = .returned (.bool false) ∧ Below w.heap.size w w' := by
  go_enter Try.func23, Try.ntmps23
  go_wp2
  go_ret
  refine ⟨?_, below1 _ _⟩
  first | rfl | (simp_all; done)

set_option maxHeartbeats 1000000 in
theorem rObj_3_1 {p : Option Addr} {S : List Om} (cS : Nat) (hs : IsSt w p S) (hl : S.length ≤ 1048576) (s : ByteArray) (l : List Vl) (room fn : Int) (q : Option Addr) (c : Nat) (hv : Vals w q l) (hll : l.length ≤ 1048576) (h0 : (s.size : Int) ≤ 4096) (h1 : ¬ ((l.length : Int) = 0)) :
    Calls Try.prog 23 #[.slice p S.length cS, .agg #[.int .u8 3, .string s, .slice q l.length c, .int .i64 room, .int .i64 fn]] w fun e w' => e = .returned (.bool false) ∧ Below w.heap.size w w' := by
  have g : ((l.length : Int) == 0) = false := by simpa using h1
  go_enter Try.func23, Try.ntmps23
  go_wp2
  go_ret
  refine ⟨?_, below1 _ _⟩
  first | rfl | (simp_all; done)

set_option maxHeartbeats 1000000 in
theorem rObj_3_2 {p : Option Addr} {S : List Om} (cS : Nat) (hs : IsSt w p S) (hl : S.length ≤ 1048576) (s : ByteArray) (l : List Vl) (room fn : Int) (q : Option Addr) (c : Nat) (hv : Vals w q l) (hll : l.length ≤ 1048576) (h0 : (s.size : Int) ≤ 4096) (h1 : (l.length : Int) = 0) (h2 : ¬ (room = 0)) :
    Calls Try.prog 23 #[.slice p S.length cS, .agg #[.int .u8 3, .string s, .slice q l.length c, .int .i64 room, .int .i64 fn]] w fun e w' => e = .returned (.bool false) ∧ Below w.heap.size w w' := by
  have g : (room == 0) = false := by simpa using h2
  go_enter Try.func23, Try.ntmps23
  go_wp2
  go_ret
  refine ⟨?_, below1 _ _⟩
  first | rfl | (simp_all; done)

set_option maxHeartbeats 1000000 in
theorem rObj_3_3 {p : Option Addr} {S : List Om} (cS : Nat) (hs : IsSt w p S) (hl : S.length ≤ 1048576) (s : ByteArray) (l : List Vl) (room fn : Int) (q : Option Addr) (c : Nat) (hv : Vals w q l) (hll : l.length ≤ 1048576) (h0 : (s.size : Int) ≤ 4096) (h1 : (l.length : Int) = 0) (h2 : room = 0) (h3 : ¬ (fn = 0)) :
    Calls Try.prog 23 #[.slice p S.length cS, .agg #[.int .u8 3, .string s, .slice q l.length c, .int .i64 room, .int .i64 fn]] w fun e w' => e = .returned (.bool false) ∧ Below w.heap.size w w' := by
  subst h2
  have g : (fn == 0) = false := by simpa using h3
  go_enter Try.func23, Try.ntmps23
  go_wp2
  go_ret
  refine ⟨?_, below1 _ _⟩
  first | rfl | (simp_all; done)

set_option maxHeartbeats 1000000 in
theorem rObj_3_4 {p : Option Addr} {S : List Om} (cS : Nat) (hs : IsSt w p S) (hl : S.length ≤ 1048576) (s : ByteArray) (l : List Vl) (room fn : Int) (q : Option Addr) (c : Nat) (hv : Vals w q l) (hll : l.length ≤ 1048576) (h0 : (s.size : Int) ≤ 4096) (h1 : (l.length : Int) = 0) (h2 : room = 0) (h3 : fn = 0) :
    Calls Try.prog 23 #[.slice p S.length cS, .agg #[.int .u8 3, .string s, .slice q l.length c, .int .i64 room, .int .i64 fn]] w fun e w' => e = .returned (.bool true) ∧ Below w.heap.size w w' := by
  subst h2
  subst h3
  go_enter Try.func23, Try.ntmps23
  go_wp2
  go_ret
  refine ⟨?_, below1 _ _⟩
  first | rfl | (simp_all; done)

theorem rObj_3 {p : Option Addr} {S : List Om} (cS : Nat) (hs : IsSt w p S) (hl : S.length ≤ 1048576) (s : ByteArray) (l : List Vl) (room fn : Int) (q : Option Addr) (c : Nat) (hv : Vals w q l) (hll : l.length ≤ 1048576) (b : Bool) (hb : b = true ↔ objP S ⟨3, s, l, room, fn⟩) :
    Calls Try.prog 23 #[.slice p S.length cS, .agg #[.int .u8 3, .string s, .slice q l.length c, .int .i64 room, .int .i64 fn]] w fun e w' => e = .returned (.bool b) ∧ Below w.heap.size w w' := by
  unfold objP formP heldP roomP at hb
  simp at hb
  by_cases h0 : (s.size : Int) ≤ 4096
  · by_cases h1 : (l.length : Int) = 0
    · by_cases h2 : room = 0
      · by_cases h3 : fn = 0
        · have e := hb.2 (by simp_all [heldP])
          subst e
          exact rObj_3_4 cS hs hl s l room fn q c hv hll h0 h1 h2 h3
        · have e := b_false hb (fun h => h3 (by simp_all [heldP]))
          subst e
          exact rObj_3_3 cS hs hl s l room fn q c hv hll h0 h1 h2 h3
      · have e := b_false hb (fun h => h2 (by simp_all [heldP]))
        subst e
        exact rObj_3_2 cS hs hl s l room fn q c hv hll h0 h1 h2
    · have e := b_false hb (fun h => h1 (by simp_all [heldP]))
      subst e
      exact rObj_3_1 cS hs hl s l room fn q c hv hll h0 h1
  · have e := b_false hb (fun h => h0 (by simp_all [heldP]))
    subst e
    exact rObj_3_0 cS hs hl s l room fn q c hv hll h0

set_option maxHeartbeats 1000000 in
theorem rObj_4_0 {p : Option Addr} {S : List Om} (cS : Nat) (hs : IsSt w p S) (hl : S.length ≤ 1048576) (s : ByteArray) (l : List Vl) (room fn : Int) (q : Option Addr) (c : Nat) (hv : Vals w q l) (hll : l.length ≤ 1048576)  (h0 : ¬ (s = ⟨#[]⟩)) :
    Calls Try.prog 23 #[.slice p S.length cS, .agg #[.int .u8 4, .string s, .slice q l.length c, .int .i64 room, .int .i64 fn]] w fun e w' => e = .returned (.bool false) ∧ Below w.heap.size w w' := by
  have g := toList_ne h0
  go_enter Try.func23, Try.ntmps23
  go_wp2
  go_ret
  refine ⟨?_, below1 _ _⟩
  first | rfl | (simp_all; done)

set_option maxHeartbeats 1000000 in
theorem rObj_4_1 {p : Option Addr} {S : List Om} (cS : Nat) (hs : IsSt w p S) (hl : S.length ≤ 1048576) (s : ByteArray) (l : List Vl) (room fn : Int) (q : Option Addr) (c : Nat) (hv : Vals w q l) (hll : l.length ≤ 1048576) (h0 : s = ⟨#[]⟩) (h1 : ¬ (fn = 0)) :
    Calls Try.prog 23 #[.slice p S.length cS, .agg #[.int .u8 4, .string s, .slice q l.length c, .int .i64 room, .int .i64 fn]] w fun e w' => e = .returned (.bool false) ∧ Below w.heap.size w w' := by
  subst h0
  have g : (fn == 0) = false := by simpa using h1
  go_enter Try.func23, Try.ntmps23
  go_wp2
  go_ret
  refine ⟨?_, below1 _ _⟩
  first | rfl | (simp_all; done)

set_option maxHeartbeats 1000000 in
theorem rObj_4_2 {p : Option Addr} {S : List Om} (cS : Nat) (hs : IsSt w p S) (hl : S.length ≤ 1048576) (s : ByteArray) (l : List Vl) (room fn : Int) (q : Option Addr) (c : Nat) (hv : Vals w q l) (hll : l.length ≤ 1048576) (h0 : s = ⟨#[]⟩) (h1 : fn = 0) (h2 : ¬ ((l.length : Int) ≤ 65536)) :
    Calls Try.prog 23 #[.slice p S.length cS, .agg #[.int .u8 4, .string s, .slice q l.length c, .int .i64 room, .int .i64 fn]] w fun e w' => e = .returned (.bool false) ∧ Below w.heap.size w w' := by
  subst h0
  subst h1
  go_enter Try.func23, Try.ntmps23
  go_wp2
  go_ret
  refine ⟨?_, below1 _ _⟩
  first | rfl | (simp_all; done)

set_option maxHeartbeats 1000000 in
theorem rObj_4_3 {p : Option Addr} {S : List Om} (cS : Nat) (hs : IsSt w p S) (hl : S.length ≤ 1048576) (s : ByteArray) (l : List Vl) (room fn : Int) (q : Option Addr) (c : Nat) (hv : Vals w q l) (hll : l.length ≤ 1048576) (h0 : s = ⟨#[]⟩) (h1 : fn = 0) (h2 : (l.length : Int) ≤ 65536) (h3 : ¬ ((l.length : Int) ≤ room)) :
    Calls Try.prog 23 #[.slice p S.length cS, .agg #[.int .u8 4, .string s, .slice q l.length c, .int .i64 room, .int .i64 fn]] w fun e w' => e = .returned (.bool false) ∧ Below w.heap.size w w' := by
  subst h0
  subst h1
  go_enter Try.func23, Try.ntmps23
  go_wp2
  go_ret
  refine ⟨?_, below1 _ _⟩
  first | rfl | (simp_all; done)

set_option maxHeartbeats 1000000 in
theorem rObj_4_4 {p : Option Addr} {S : List Om} (cS : Nat) (hs : IsSt w p S) (hl : S.length ≤ 1048576) (s : ByteArray) (l : List Vl) (room fn : Int) (q : Option Addr) (c : Nat) (hv : Vals w q l) (hll : l.length ≤ 1048576) (h0 : s = ⟨#[]⟩) (h1 : fn = 0) (h2 : (l.length : Int) ≤ 65536) (h3 : (l.length : Int) ≤ room) (h4 : ¬ (room ≤ 262144)) :
    Calls Try.prog 23 #[.slice p S.length cS, .agg #[.int .u8 4, .string s, .slice q l.length c, .int .i64 room, .int .i64 fn]] w fun e w' => e = .returned (.bool false) ∧ Below w.heap.size w w' := by
  subst h0
  subst h1
  go_enter Try.func23, Try.ntmps23
  go_wp2
  go_ret
  refine ⟨?_, below1 _ _⟩
  first | rfl | (simp_all; done)

set_option maxHeartbeats 1000000 in
theorem rObj_4_5 {p : Option Addr} {S : List Om} (cS : Nat) (hs : IsSt w p S) (hl : S.length ≤ 1048576) (s : ByteArray) (l : List Vl) (room fn : Int) (q : Option Addr) (c : Nat) (hv : Vals w q l) (hll : l.length ≤ 1048576) (h0 : s = ⟨#[]⟩) (h1 : fn = 0) (h2 : (l.length : Int) ≤ 65536) (h3 : (l.length : Int) ≤ room) (h4 : room ≤ 262144) (h5 : ¬ (heldP S l (false = true))) :
    Calls Try.prog 23 #[.slice p S.length cS, .agg #[.int .u8 4, .string s, .slice q l.length c, .int .i64 room, .int .i64 fn]] w fun e w' => e = .returned (.bool false) ∧ Below w.heap.size w w' := by
  subst h0
  subst h1
  have hob := heap_alloc_new w (.cells #[.int .u8 4, .string ⟨#[]⟩, .slice q l.length c, .int .i64 room, .int .i64 0] 33)
  have hB0 := below1 w (.cells #[.int .u8 4, .string ⟨#[]⟩, .slice q l.length c, .int .i64 room, .int .i64 0] 33)
  have H1 := fun (W : World) (h : Below w.heap.size w W) => rHeld_in (cq := c) cS (hs.below h) hl (hv.below h) hll false false (by simpa using h5)
  clear h5
  go_enter Try.func23, Try.ntmps23
  go_wp2_with (first
    | (go_at_call 34; refine (H1 _ (below1 _ _)).mono ?_; clear H1; rintro e w1 ⟨rfl, hB1⟩; obtain ⟨⟨d0, d1, d2, d3, d4⟩, -⟩ := cell_row5 ((hB1.block w.heap.size (by simp)).trans hob); have hB1' : Below w.heap.size w w1 := hB0.trans (hB1.mono (by simp))))
  go_ret
  exact ⟨rfl, hB1'⟩

set_option maxHeartbeats 1000000 in
theorem rObj_4_6 {p : Option Addr} {S : List Om} (cS : Nat) (hs : IsSt w p S) (hl : S.length ≤ 1048576) (s : ByteArray) (l : List Vl) (room fn : Int) (q : Option Addr) (c : Nat) (hv : Vals w q l) (hll : l.length ≤ 1048576) (h0 : s = ⟨#[]⟩) (h1 : fn = 0) (h2 : (l.length : Int) ≤ 65536) (h3 : (l.length : Int) ≤ room) (h4 : room ≤ 262144) (h5 : heldP S l (false = true)) :
    Calls Try.prog 23 #[.slice p S.length cS, .agg #[.int .u8 4, .string s, .slice q l.length c, .int .i64 room, .int .i64 fn]] w fun e w' => e = .returned (.bool true) ∧ Below w.heap.size w w' := by
  subst h0
  subst h1
  have hob := heap_alloc_new w (.cells #[.int .u8 4, .string ⟨#[]⟩, .slice q l.length c, .int .i64 room, .int .i64 0] 33)
  have hB0 := below1 w (.cells #[.int .u8 4, .string ⟨#[]⟩, .slice q l.length c, .int .i64 room, .int .i64 0] 33)
  have H1 := fun (W : World) (h : Below w.heap.size w W) => rHeld_in (cq := c) cS (hs.below h) hl (hv.below h) hll false true (by simpa using h5)
  clear h5
  go_enter Try.func23, Try.ntmps23
  go_wp2_with (first
    | (go_at_call 34; refine (H1 _ (below1 _ _)).mono ?_; clear H1; rintro e w1 ⟨rfl, hB1⟩; obtain ⟨⟨d0, d1, d2, d3, d4⟩, -⟩ := cell_row5 ((hB1.block w.heap.size (by simp)).trans hob); have hB1' : Below w.heap.size w w1 := hB0.trans (hB1.mono (by simp))))
  go_ret
  exact ⟨rfl, hB1'⟩

theorem rObj_4 {p : Option Addr} {S : List Om} (cS : Nat) (hs : IsSt w p S) (hl : S.length ≤ 1048576) (s : ByteArray) (l : List Vl) (room fn : Int) (q : Option Addr) (c : Nat) (hv : Vals w q l) (hll : l.length ≤ 1048576) (b : Bool) (hb : b = true ↔ objP S ⟨4, s, l, room, fn⟩) :
    Calls Try.prog 23 #[.slice p S.length cS, .agg #[.int .u8 4, .string s, .slice q l.length c, .int .i64 room, .int .i64 fn]] w fun e w' => e = .returned (.bool b) ∧ Below w.heap.size w w' := by
  unfold objP formP heldP roomP at hb
  simp at hb
  by_cases h0 : s = ⟨#[]⟩
  · by_cases h1 : fn = 0
    · by_cases h2 : (l.length : Int) ≤ 65536
      · by_cases h3 : (l.length : Int) ≤ room
        · by_cases h4 : room ≤ 262144
          · by_cases h5 : heldP S l (false = true)
            · have e := hb.2 (by simp_all [heldP])
              subst e
              exact rObj_4_6 cS hs hl s l room fn q c hv hll h0 h1 h2 h3 h4 h5
            · have e := b_false hb (fun h => h5 (by simp_all [heldP]))
              subst e
              exact rObj_4_5 cS hs hl s l room fn q c hv hll h0 h1 h2 h3 h4 h5
          · have e := b_false hb (fun h => h4 (by simp_all [heldP]))
            subst e
            exact rObj_4_4 cS hs hl s l room fn q c hv hll h0 h1 h2 h3 h4
        · have e := b_false hb (fun h => h3 (by simp_all [heldP]))
          subst e
          exact rObj_4_3 cS hs hl s l room fn q c hv hll h0 h1 h2 h3
      · have e := b_false hb (fun h => h2 (by simp_all [heldP]))
        subst e
        exact rObj_4_2 cS hs hl s l room fn q c hv hll h0 h1 h2
    · have e := b_false hb (fun h => h1 (by simp_all [heldP]))
      subst e
      exact rObj_4_1 cS hs hl s l room fn q c hv hll h0 h1
  · have e := b_false hb (fun h => h0 (by simp_all [heldP]))
    subst e
    exact rObj_4_0 cS hs hl s l room fn q c hv hll h0

set_option maxHeartbeats 1000000 in
theorem rObj_5_0 {p : Option Addr} {S : List Om} (cS : Nat) (hs : IsSt w p S) (hl : S.length ≤ 1048576) (s : ByteArray) (l : List Vl) (room fn : Int) (q : Option Addr) (c : Nat) (hv : Vals w q l) (hll : l.length ≤ 1048576)  (h0 : ¬ (s = ⟨#[]⟩)) :
    Calls Try.prog 23 #[.slice p S.length cS, .agg #[.int .u8 5, .string s, .slice q l.length c, .int .i64 room, .int .i64 fn]] w fun e w' => e = .returned (.bool false) ∧ Below w.heap.size w w' := by
  have g := toList_ne h0
  go_enter Try.func23, Try.ntmps23
  go_wp2
  go_ret
  refine ⟨?_, below1 _ _⟩
  first | rfl | (simp_all; done)

set_option maxHeartbeats 1000000 in
theorem rObj_5_1 {p : Option Addr} {S : List Om} (cS : Nat) (hs : IsSt w p S) (hl : S.length ≤ 1048576) (s : ByteArray) (l : List Vl) (room fn : Int) (q : Option Addr) (c : Nat) (hv : Vals w q l) (hll : l.length ≤ 1048576) (h0 : s = ⟨#[]⟩) (h1 : ¬ (fn = 0)) :
    Calls Try.prog 23 #[.slice p S.length cS, .agg #[.int .u8 5, .string s, .slice q l.length c, .int .i64 room, .int .i64 fn]] w fun e w' => e = .returned (.bool false) ∧ Below w.heap.size w w' := by
  subst h0
  have g : (fn == 0) = false := by simpa using h1
  go_enter Try.func23, Try.ntmps23
  go_wp2
  go_ret
  refine ⟨?_, below1 _ _⟩
  first | rfl | (simp_all; done)

set_option maxHeartbeats 1000000 in
theorem rObj_5_2 {p : Option Addr} {S : List Om} (cS : Nat) (hs : IsSt w p S) (hl : S.length ≤ 1048576) (s : ByteArray) (l : List Vl) (room fn : Int) (q : Option Addr) (c : Nat) (hv : Vals w q l) (hll : l.length ≤ 1048576) (h0 : s = ⟨#[]⟩) (h1 : fn = 0) (h2 : ¬ ((l.length : Int) % 2 = 0)) :
    Calls Try.prog 23 #[.slice p S.length cS, .agg #[.int .u8 5, .string s, .slice q l.length c, .int .i64 room, .int .i64 fn]] w fun e w' => e = .returned (.bool false) ∧ Below w.heap.size w w' := by
  subst h0
  subst h1
  have g : ((l.length : Int) % 2 == 0) = false := by simpa using h2
  go_enter Try.func23, Try.ntmps23
  go_wp2
  go_ret
  refine ⟨?_, below1 _ _⟩
  first | rfl | (simp_all; done)

set_option maxHeartbeats 1000000 in
theorem rObj_5_3 {p : Option Addr} {S : List Om} (cS : Nat) (hs : IsSt w p S) (hl : S.length ≤ 1048576) (s : ByteArray) (l : List Vl) (room fn : Int) (q : Option Addr) (c : Nat) (hv : Vals w q l) (hll : l.length ≤ 1048576) (h0 : s = ⟨#[]⟩) (h1 : fn = 0) (h2 : (l.length : Int) % 2 = 0) (h3 : ¬ ((l.length : Int) ≤ 131072)) :
    Calls Try.prog 23 #[.slice p S.length cS, .agg #[.int .u8 5, .string s, .slice q l.length c, .int .i64 room, .int .i64 fn]] w fun e w' => e = .returned (.bool false) ∧ Below w.heap.size w w' := by
  subst h0
  subst h1
  go_enter Try.func23, Try.ntmps23
  go_wp2
  go_ret
  refine ⟨?_, below1 _ _⟩
  first | rfl | (simp_all; done)

set_option maxHeartbeats 1000000 in
theorem rObj_5_4 {p : Option Addr} {S : List Om} (cS : Nat) (hs : IsSt w p S) (hl : S.length ≤ 1048576) (s : ByteArray) (l : List Vl) (room fn : Int) (q : Option Addr) (c : Nat) (hv : Vals w q l) (hll : l.length ≤ 1048576) (h0 : s = ⟨#[]⟩) (h1 : fn = 0) (h2 : (l.length : Int) % 2 = 0) (h3 : (l.length : Int) ≤ 131072) (h4 : ¬ ((l.length : Int) ≤ room)) :
    Calls Try.prog 23 #[.slice p S.length cS, .agg #[.int .u8 5, .string s, .slice q l.length c, .int .i64 room, .int .i64 fn]] w fun e w' => e = .returned (.bool false) ∧ Below w.heap.size w w' := by
  subst h0
  subst h1
  go_enter Try.func23, Try.ntmps23
  go_wp2
  go_ret
  refine ⟨?_, below1 _ _⟩
  first | rfl | (simp_all; done)

set_option maxHeartbeats 1000000 in
theorem rObj_5_5 {p : Option Addr} {S : List Om} (cS : Nat) (hs : IsSt w p S) (hl : S.length ≤ 1048576) (s : ByteArray) (l : List Vl) (room fn : Int) (q : Option Addr) (c : Nat) (hv : Vals w q l) (hll : l.length ≤ 1048576) (h0 : s = ⟨#[]⟩) (h1 : fn = 0) (h2 : (l.length : Int) % 2 = 0) (h3 : (l.length : Int) ≤ 131072) (h4 : (l.length : Int) ≤ room) (h5 : ¬ (room ≤ 262144)) :
    Calls Try.prog 23 #[.slice p S.length cS, .agg #[.int .u8 5, .string s, .slice q l.length c, .int .i64 room, .int .i64 fn]] w fun e w' => e = .returned (.bool false) ∧ Below w.heap.size w w' := by
  subst h0
  subst h1
  go_enter Try.func23, Try.ntmps23
  go_wp2
  go_ret
  refine ⟨?_, below1 _ _⟩
  first | rfl | (simp_all; done)

set_option maxHeartbeats 1000000 in
theorem rObj_5_6 {p : Option Addr} {S : List Om} (cS : Nat) (hs : IsSt w p S) (hl : S.length ≤ 1048576) (s : ByteArray) (l : List Vl) (room fn : Int) (q : Option Addr) (c : Nat) (hv : Vals w q l) (hll : l.length ≤ 1048576) (h0 : s = ⟨#[]⟩) (h1 : fn = 0) (h2 : (l.length : Int) % 2 = 0) (h3 : (l.length : Int) ≤ 131072) (h4 : (l.length : Int) ≤ room) (h5 : room ≤ 262144) (h6 : ¬ (heldP S l (false = true))) :
    Calls Try.prog 23 #[.slice p S.length cS, .agg #[.int .u8 5, .string s, .slice q l.length c, .int .i64 room, .int .i64 fn]] w fun e w' => e = .returned (.bool false) ∧ Below w.heap.size w w' := by
  subst h0
  subst h1
  have hob := heap_alloc_new w (.cells #[.int .u8 5, .string ⟨#[]⟩, .slice q l.length c, .int .i64 room, .int .i64 0] 33)
  have hB0 := below1 w (.cells #[.int .u8 5, .string ⟨#[]⟩, .slice q l.length c, .int .i64 room, .int .i64 0] 33)
  have H1 := fun (W : World) (h : Below w.heap.size w W) => rHeld_in (cq := c) cS (hs.below h) hl (hv.below h) hll false false (by simpa using h6)
  clear h6
  go_enter Try.func23, Try.ntmps23
  go_wp2_with (first
    | (go_at_call 34; refine (H1 _ (below1 _ _)).mono ?_; clear H1; rintro e w1 ⟨rfl, hB1⟩; obtain ⟨⟨d0, d1, d2, d3, d4⟩, -⟩ := cell_row5 ((hB1.block w.heap.size (by simp)).trans hob); have hB1' : Below w.heap.size w w1 := hB0.trans (hB1.mono (by simp))))
  go_ret
  exact ⟨rfl, hB1'⟩

set_option maxHeartbeats 1000000 in
theorem rObj_5_7 {p : Option Addr} {S : List Om} (cS : Nat) (hs : IsSt w p S) (hl : S.length ≤ 1048576) (s : ByteArray) (l : List Vl) (room fn : Int) (q : Option Addr) (c : Nat) (hv : Vals w q l) (hll : l.length ≤ 1048576) (h0 : s = ⟨#[]⟩) (h1 : fn = 0) (h2 : (l.length : Int) % 2 = 0) (h3 : (l.length : Int) ≤ 131072) (h4 : (l.length : Int) ≤ room) (h5 : room ≤ 262144) (h6 : heldP S l (false = true)) (h7 : ¬ (keysP S l)) :
    Calls Try.prog 23 #[.slice p S.length cS, .agg #[.int .u8 5, .string s, .slice q l.length c, .int .i64 room, .int .i64 fn]] w fun e w' => e = .returned (.bool false) ∧ Below w.heap.size w w' := by
  subst h0
  subst h1
  have hob := heap_alloc_new w (.cells #[.int .u8 5, .string ⟨#[]⟩, .slice q l.length c, .int .i64 room, .int .i64 0] 33)
  have hB0 := below1 w (.cells #[.int .u8 5, .string ⟨#[]⟩, .slice q l.length c, .int .i64 room, .int .i64 0] 33)
  have H1 := fun (W : World) (h : Below w.heap.size w W) => rHeld_in (cq := c) cS (hs.below h) hl (hv.below h) hll false true (by simpa using h6)
  have H2 := fun (W : World) (h : Below w.heap.size w W) => rKeys_in (cq := c) cS (hs.below h) hl (hv.below h) hll false (by simpa using h7)
  clear h6 h7
  go_enter Try.func23, Try.ntmps23
  go_wp2_with (first
    | (go_at_call 34; refine (H1 _ (below1 _ _)).mono ?_; clear H1; rintro e w1 ⟨rfl, hB1⟩; obtain ⟨⟨d0, d1, d2, d3, d4⟩, -⟩ := cell_row5 ((hB1.block w.heap.size (by simp)).trans hob); have hB1' : Below w.heap.size w w1 := hB0.trans (hB1.mono (by simp)))
    | (go_at_call 35; refine (H2 _ hB1').mono ?_; clear H2; rintro e w2 ⟨rfl, hB2⟩))
  go_ret
  exact ⟨rfl, hB1'.trans (hB2.mono hB1'.size)⟩

set_option maxHeartbeats 1000000 in
theorem rObj_5_8 {p : Option Addr} {S : List Om} (cS : Nat) (hs : IsSt w p S) (hl : S.length ≤ 1048576) (s : ByteArray) (l : List Vl) (room fn : Int) (q : Option Addr) (c : Nat) (hv : Vals w q l) (hll : l.length ≤ 1048576) (h0 : s = ⟨#[]⟩) (h1 : fn = 0) (h2 : (l.length : Int) % 2 = 0) (h3 : (l.length : Int) ≤ 131072) (h4 : (l.length : Int) ≤ room) (h5 : room ≤ 262144) (h6 : heldP S l (false = true)) (h7 : keysP S l) :
    Calls Try.prog 23 #[.slice p S.length cS, .agg #[.int .u8 5, .string s, .slice q l.length c, .int .i64 room, .int .i64 fn]] w fun e w' => e = .returned (.bool true) ∧ Below w.heap.size w w' := by
  subst h0
  subst h1
  have hob := heap_alloc_new w (.cells #[.int .u8 5, .string ⟨#[]⟩, .slice q l.length c, .int .i64 room, .int .i64 0] 33)
  have hB0 := below1 w (.cells #[.int .u8 5, .string ⟨#[]⟩, .slice q l.length c, .int .i64 room, .int .i64 0] 33)
  have H1 := fun (W : World) (h : Below w.heap.size w W) => rHeld_in (cq := c) cS (hs.below h) hl (hv.below h) hll false true (by simpa using h6)
  have H2 := fun (W : World) (h : Below w.heap.size w W) => rKeys_in (cq := c) cS (hs.below h) hl (hv.below h) hll true (by simpa using h7)
  clear h6 h7
  go_enter Try.func23, Try.ntmps23
  go_wp2_with (first
    | (go_at_call 34; refine (H1 _ (below1 _ _)).mono ?_; clear H1; rintro e w1 ⟨rfl, hB1⟩; obtain ⟨⟨d0, d1, d2, d3, d4⟩, -⟩ := cell_row5 ((hB1.block w.heap.size (by simp)).trans hob); have hB1' : Below w.heap.size w w1 := hB0.trans (hB1.mono (by simp)))
    | (go_at_call 35; refine (H2 _ hB1').mono ?_; clear H2; rintro e w2 ⟨rfl, hB2⟩))
  go_ret
  exact ⟨rfl, hB1'.trans (hB2.mono hB1'.size)⟩

theorem rObj_5 {p : Option Addr} {S : List Om} (cS : Nat) (hs : IsSt w p S) (hl : S.length ≤ 1048576) (s : ByteArray) (l : List Vl) (room fn : Int) (q : Option Addr) (c : Nat) (hv : Vals w q l) (hll : l.length ≤ 1048576) (b : Bool) (hb : b = true ↔ objP S ⟨5, s, l, room, fn⟩) :
    Calls Try.prog 23 #[.slice p S.length cS, .agg #[.int .u8 5, .string s, .slice q l.length c, .int .i64 room, .int .i64 fn]] w fun e w' => e = .returned (.bool b) ∧ Below w.heap.size w w' := by
  unfold objP formP heldP roomP at hb
  simp at hb
  by_cases h0 : s = ⟨#[]⟩
  · by_cases h1 : fn = 0
    · by_cases h2 : (l.length : Int) % 2 = 0
      · by_cases h3 : (l.length : Int) ≤ 131072
        · by_cases h4 : (l.length : Int) ≤ room
          · by_cases h5 : room ≤ 262144
            · by_cases h6 : heldP S l (false = true)
              · by_cases h7 : keysP S l
                · have e := hb.2 (by simp_all [heldP])
                  subst e
                  exact rObj_5_8 cS hs hl s l room fn q c hv hll h0 h1 h2 h3 h4 h5 h6 h7
                · have e := b_false hb (fun h => h7 (by simp_all [heldP]))
                  subst e
                  exact rObj_5_7 cS hs hl s l room fn q c hv hll h0 h1 h2 h3 h4 h5 h6 h7
              · have e := b_false hb (fun h => h6 (by simp_all [heldP]))
                subst e
                exact rObj_5_6 cS hs hl s l room fn q c hv hll h0 h1 h2 h3 h4 h5 h6
            · have e := b_false hb (fun h => h5 (by simp_all [heldP]))
              subst e
              exact rObj_5_5 cS hs hl s l room fn q c hv hll h0 h1 h2 h3 h4 h5
          · have e := b_false hb (fun h => h4 (by simp_all [heldP]))
            subst e
            exact rObj_5_4 cS hs hl s l room fn q c hv hll h0 h1 h2 h3 h4
        · have e := b_false hb (fun h => h3 (by simp_all [heldP]))
          subst e
          exact rObj_5_3 cS hs hl s l room fn q c hv hll h0 h1 h2 h3
      · have e := b_false hb (fun h => h2 (by simp_all [heldP]))
        subst e
        exact rObj_5_2 cS hs hl s l room fn q c hv hll h0 h1 h2
    · have e := b_false hb (fun h => h1 (by simp_all [heldP]))
      subst e
      exact rObj_5_1 cS hs hl s l room fn q c hv hll h0 h1
  · have e := b_false hb (fun h => h0 (by simp_all [heldP]))
    subst e
    exact rObj_5_0 cS hs hl s l room fn q c hv hll h0

set_option maxHeartbeats 1000000 in
theorem rObj_6_0 {p : Option Addr} {S : List Om} (cS : Nat) (hs : IsSt w p S) (hl : S.length ≤ 1048576) (s : ByteArray) (l : List Vl) (room fn : Int) (q : Option Addr) (c : Nat) (hv : Vals w q l) (hll : l.length ≤ 1048576)  (h0 : ¬ (s = ⟨#[]⟩)) :
    Calls Try.prog 23 #[.slice p S.length cS, .agg #[.int .u8 6, .string s, .slice q l.length c, .int .i64 room, .int .i64 fn]] w fun e w' => e = .returned (.bool false) ∧ Below w.heap.size w w' := by
  have g := toList_ne h0
  go_enter Try.func23, Try.ntmps23
  go_wp2
  go_ret
  refine ⟨?_, below1 _ _⟩
  first | rfl | (simp_all; done)

set_option maxHeartbeats 1000000 in
theorem rObj_6_1 {p : Option Addr} {S : List Om} (cS : Nat) (hs : IsSt w p S) (hl : S.length ≤ 1048576) (s : ByteArray) (l : List Vl) (room fn : Int) (q : Option Addr) (c : Nat) (hv : Vals w q l) (hll : l.length ≤ 1048576) (h0 : s = ⟨#[]⟩) (h1 : ¬ (room = 0)) :
    Calls Try.prog 23 #[.slice p S.length cS, .agg #[.int .u8 6, .string s, .slice q l.length c, .int .i64 room, .int .i64 fn]] w fun e w' => e = .returned (.bool false) ∧ Below w.heap.size w w' := by
  subst h0
  have g : (room == 0) = false := by simpa using h1
  go_enter Try.func23, Try.ntmps23
  go_wp2
  go_ret
  refine ⟨?_, below1 _ _⟩
  first | rfl | (simp_all; done)

set_option maxHeartbeats 1000000 in
theorem rObj_6_2 {p : Option Addr} {S : List Om} (cS : Nat) (hs : IsSt w p S) (hl : S.length ≤ 1048576) (s : ByteArray) (l : List Vl) (room fn : Int) (q : Option Addr) (c : Nat) (hv : Vals w q l) (hll : l.length ≤ 1048576) (h0 : s = ⟨#[]⟩) (h1 : room = 0) (h2 : ¬ (0 ≤ fn)) :
    Calls Try.prog 23 #[.slice p S.length cS, .agg #[.int .u8 6, .string s, .slice q l.length c, .int .i64 room, .int .i64 fn]] w fun e w' => e = .returned (.bool false) ∧ Below w.heap.size w w' := by
  subst h0
  subst h1
  go_enter Try.func23, Try.ntmps23
  go_wp2
  go_ret
  refine ⟨?_, below1 _ _⟩
  first | rfl | (simp_all; done)

set_option maxHeartbeats 1000000 in
theorem rObj_6_3 {p : Option Addr} {S : List Om} (cS : Nat) (hs : IsSt w p S) (hl : S.length ≤ 1048576) (s : ByteArray) (l : List Vl) (room fn : Int) (q : Option Addr) (c : Nat) (hv : Vals w q l) (hll : l.length ≤ 1048576) (h0 : s = ⟨#[]⟩) (h1 : room = 0) (h2 : 0 ≤ fn) (h3 : ¬ (fn < 256)) :
    Calls Try.prog 23 #[.slice p S.length cS, .agg #[.int .u8 6, .string s, .slice q l.length c, .int .i64 room, .int .i64 fn]] w fun e w' => e = .returned (.bool false) ∧ Below w.heap.size w w' := by
  subst h0
  subst h1
  go_enter Try.func23, Try.ntmps23
  go_wp2
  go_ret
  refine ⟨?_, below1 _ _⟩
  first | rfl | (simp_all; done)

set_option maxHeartbeats 1000000 in
theorem rObj_6_4 {p : Option Addr} {S : List Om} (cS : Nat) (hs : IsSt w p S) (hl : S.length ≤ 1048576) (s : ByteArray) (l : List Vl) (room fn : Int) (q : Option Addr) (c : Nat) (hv : Vals w q l) (hll : l.length ≤ 1048576) (h0 : s = ⟨#[]⟩) (h1 : room = 0) (h2 : 0 ≤ fn) (h3 : fn < 256) (h4 : ¬ (heldP S l (true = true))) :
    Calls Try.prog 23 #[.slice p S.length cS, .agg #[.int .u8 6, .string s, .slice q l.length c, .int .i64 room, .int .i64 fn]] w fun e w' => e = .returned (.bool false) ∧ Below w.heap.size w w' := by
  subst h0
  subst h1
  have hob := heap_alloc_new w (.cells #[.int .u8 6, .string ⟨#[]⟩, .slice q l.length c, .int .i64 0, .int .i64 fn] 33)
  have hB0 := below1 w (.cells #[.int .u8 6, .string ⟨#[]⟩, .slice q l.length c, .int .i64 0, .int .i64 fn] 33)
  have H1 := fun (W : World) (h : Below w.heap.size w W) => rHeld_in (cq := c) cS (hs.below h) hl (hv.below h) hll true false (by simpa using h4)
  clear h4
  go_enter Try.func23, Try.ntmps23
  go_wp2_with (first
    | (go_at_call 34; refine (H1 _ (below1 _ _)).mono ?_; clear H1; rintro e w1 ⟨rfl, hB1⟩; obtain ⟨⟨d0, d1, d2, d3, d4⟩, -⟩ := cell_row5 ((hB1.block w.heap.size (by simp)).trans hob); have hB1' : Below w.heap.size w w1 := hB0.trans (hB1.mono (by simp))))
  go_ret
  exact ⟨rfl, hB1'⟩

set_option maxHeartbeats 1000000 in
theorem rObj_6_5 {p : Option Addr} {S : List Om} (cS : Nat) (hs : IsSt w p S) (hl : S.length ≤ 1048576) (s : ByteArray) (l : List Vl) (room fn : Int) (q : Option Addr) (c : Nat) (hv : Vals w q l) (hll : l.length ≤ 1048576) (h0 : s = ⟨#[]⟩) (h1 : room = 0) (h2 : 0 ≤ fn) (h3 : fn < 256) (h4 : heldP S l (true = true)) :
    Calls Try.prog 23 #[.slice p S.length cS, .agg #[.int .u8 6, .string s, .slice q l.length c, .int .i64 room, .int .i64 fn]] w fun e w' => e = .returned (.bool true) ∧ Below w.heap.size w w' := by
  subst h0
  subst h1
  have hob := heap_alloc_new w (.cells #[.int .u8 6, .string ⟨#[]⟩, .slice q l.length c, .int .i64 0, .int .i64 fn] 33)
  have hB0 := below1 w (.cells #[.int .u8 6, .string ⟨#[]⟩, .slice q l.length c, .int .i64 0, .int .i64 fn] 33)
  have H1 := fun (W : World) (h : Below w.heap.size w W) => rHeld_in (cq := c) cS (hs.below h) hl (hv.below h) hll true true (by simpa using h4)
  clear h4
  go_enter Try.func23, Try.ntmps23
  go_wp2_with (first
    | (go_at_call 34; refine (H1 _ (below1 _ _)).mono ?_; clear H1; rintro e w1 ⟨rfl, hB1⟩; obtain ⟨⟨d0, d1, d2, d3, d4⟩, -⟩ := cell_row5 ((hB1.block w.heap.size (by simp)).trans hob); have hB1' : Below w.heap.size w w1 := hB0.trans (hB1.mono (by simp))))
  go_ret
  exact ⟨rfl, hB1'⟩

theorem rObj_6 {p : Option Addr} {S : List Om} (cS : Nat) (hs : IsSt w p S) (hl : S.length ≤ 1048576) (s : ByteArray) (l : List Vl) (room fn : Int) (q : Option Addr) (c : Nat) (hv : Vals w q l) (hll : l.length ≤ 1048576) (b : Bool) (hb : b = true ↔ objP S ⟨6, s, l, room, fn⟩) :
    Calls Try.prog 23 #[.slice p S.length cS, .agg #[.int .u8 6, .string s, .slice q l.length c, .int .i64 room, .int .i64 fn]] w fun e w' => e = .returned (.bool b) ∧ Below w.heap.size w w' := by
  unfold objP formP heldP roomP at hb
  simp at hb
  by_cases h0 : s = ⟨#[]⟩
  · by_cases h1 : room = 0
    · by_cases h2 : 0 ≤ fn
      · by_cases h3 : fn < 256
        · by_cases h4 : heldP S l (true = true)
          · have e := hb.2 (by simp_all [heldP])
            subst e
            exact rObj_6_5 cS hs hl s l room fn q c hv hll h0 h1 h2 h3 h4
          · have e := b_false hb (fun h => h4 (by simp_all [heldP]))
            subst e
            exact rObj_6_4 cS hs hl s l room fn q c hv hll h0 h1 h2 h3 h4
        · have e := b_false hb (fun h => h3 (by simp_all [heldP]))
          subst e
          exact rObj_6_3 cS hs hl s l room fn q c hv hll h0 h1 h2 h3
      · have e := b_false hb (fun h => h2 (by simp_all [heldP]))
        subst e
        exact rObj_6_2 cS hs hl s l room fn q c hv hll h0 h1 h2
    · have e := b_false hb (fun h => h1 (by simp_all [heldP]))
      subst e
      exact rObj_6_1 cS hs hl s l room fn q c hv hll h0 h1
  · have e := b_false hb (fun h => h0 (by simp_all [heldP]))
    subst e
    exact rObj_6_0 cS hs hl s l room fn q c hv hll h0

set_option maxHeartbeats 1000000 in
theorem rObj_7_0 {p : Option Addr} {S : List Om} (cS : Nat) (hs : IsSt w p S) (hl : S.length ≤ 1048576) (s : ByteArray) (l : List Vl) (room fn : Int) (q : Option Addr) (c : Nat) (hv : Vals w q l) (hll : l.length ≤ 1048576)  (h0 : ¬ (s = ⟨#[]⟩)) :
    Calls Try.prog 23 #[.slice p S.length cS, .agg #[.int .u8 7, .string s, .slice q l.length c, .int .i64 room, .int .i64 fn]] w fun e w' => e = .returned (.bool false) ∧ Below w.heap.size w w' := by
  have g := toList_ne h0
  go_enter Try.func23, Try.ntmps23
  go_wp2
  go_ret
  refine ⟨?_, below1 _ _⟩
  first | rfl | (simp_all; done)

set_option maxHeartbeats 1000000 in
theorem rObj_7_1 {p : Option Addr} {S : List Om} (cS : Nat) (hs : IsSt w p S) (hl : S.length ≤ 1048576) (s : ByteArray) (l : List Vl) (room fn : Int) (q : Option Addr) (c : Nat) (hv : Vals w q l) (hll : l.length ≤ 1048576) (h0 : s = ⟨#[]⟩) (h1 : ¬ (room = 0)) :
    Calls Try.prog 23 #[.slice p S.length cS, .agg #[.int .u8 7, .string s, .slice q l.length c, .int .i64 room, .int .i64 fn]] w fun e w' => e = .returned (.bool false) ∧ Below w.heap.size w w' := by
  subst h0
  have g : (room == 0) = false := by simpa using h1
  go_enter Try.func23, Try.ntmps23
  go_wp2
  go_ret
  refine ⟨?_, below1 _ _⟩
  first | rfl | (simp_all; done)

set_option maxHeartbeats 1000000 in
theorem rObj_7_2 {p : Option Addr} {S : List Om} (cS : Nat) (hs : IsSt w p S) (hl : S.length ≤ 1048576) (s : ByteArray) (l : List Vl) (room fn : Int) (q : Option Addr) (c : Nat) (hv : Vals w q l) (hll : l.length ≤ 1048576) (h0 : s = ⟨#[]⟩) (h1 : room = 0) (h2 : ¬ (fn = 0)) :
    Calls Try.prog 23 #[.slice p S.length cS, .agg #[.int .u8 7, .string s, .slice q l.length c, .int .i64 room, .int .i64 fn]] w fun e w' => e = .returned (.bool false) ∧ Below w.heap.size w w' := by
  subst h0
  subst h1
  have g : (fn == 0) = false := by simpa using h2
  go_enter Try.func23, Try.ntmps23
  go_wp2
  go_ret
  refine ⟨?_, below1 _ _⟩
  first | rfl | (simp_all; done)

set_option maxHeartbeats 1000000 in
theorem rObj_7_3 {p : Option Addr} {S : List Om} (cS : Nat) (hs : IsSt w p S) (hl : S.length ≤ 1048576) (s : ByteArray) (l : List Vl) (room fn : Int) (q : Option Addr) (c : Nat) (hv : Vals w q l) (hll : l.length ≤ 1048576) (h0 : s = ⟨#[]⟩) (h1 : room = 0) (h2 : fn = 0) (h3 : ¬ ((l.length : Int) = 1)) :
    Calls Try.prog 23 #[.slice p S.length cS, .agg #[.int .u8 7, .string s, .slice q l.length c, .int .i64 room, .int .i64 fn]] w fun e w' => e = .returned (.bool false) ∧ Below w.heap.size w w' := by
  subst h0
  subst h1
  subst h2
  have g : ((l.length : Int) == 1) = false := by simpa using h3
  go_enter Try.func23, Try.ntmps23
  go_wp2
  go_ret
  refine ⟨?_, below1 _ _⟩
  first | rfl | (simp_all; done)

set_option maxHeartbeats 1000000 in
theorem rObj_7_4 {p : Option Addr} {S : List Om} (cS : Nat) (hs : IsSt w p S) (hl : S.length ≤ 1048576) (s : ByteArray) (l : List Vl) (room fn : Int) (q : Option Addr) (c : Nat) (hv : Vals w q l) (hll : l.length ≤ 1048576) (h0 : s = ⟨#[]⟩) (h1 : room = 0) (h2 : fn = 0) (h3 : (l.length : Int) = 1) (h4 : ¬ (heldP S l (false = true))) :
    Calls Try.prog 23 #[.slice p S.length cS, .agg #[.int .u8 7, .string s, .slice q l.length c, .int .i64 room, .int .i64 fn]] w fun e w' => e = .returned (.bool false) ∧ Below w.heap.size w w' := by
  subst h0
  subst h1
  subst h2
  have hob := heap_alloc_new w (.cells #[.int .u8 7, .string ⟨#[]⟩, .slice q l.length c, .int .i64 0, .int .i64 0] 33)
  have hB0 := below1 w (.cells #[.int .u8 7, .string ⟨#[]⟩, .slice q l.length c, .int .i64 0, .int .i64 0] 33)
  have H1 := fun (W : World) (h : Below w.heap.size w W) => rHeld_in (cq := c) cS (hs.below h) hl (hv.below h) hll false false (by simpa using h4)
  clear h4
  go_enter Try.func23, Try.ntmps23
  go_wp2_with (first
    | (go_at_call 34; refine (H1 _ (below1 _ _)).mono ?_; clear H1; rintro e w1 ⟨rfl, hB1⟩; obtain ⟨⟨d0, d1, d2, d3, d4⟩, -⟩ := cell_row5 ((hB1.block w.heap.size (by simp)).trans hob); have hB1' : Below w.heap.size w w1 := hB0.trans (hB1.mono (by simp))))
  go_ret
  exact ⟨rfl, hB1'⟩

set_option maxHeartbeats 1000000 in
theorem rObj_7_5 {p : Option Addr} {S : List Om} (cS : Nat) (hs : IsSt w p S) (hl : S.length ≤ 1048576) (s : ByteArray) (l : List Vl) (room fn : Int) (q : Option Addr) (c : Nat) (hv : Vals w q l) (hll : l.length ≤ 1048576) (h0 : s = ⟨#[]⟩) (h1 : room = 0) (h2 : fn = 0) (h3 : (l.length : Int) = 1) (h4 : heldP S l (false = true)) :
    Calls Try.prog 23 #[.slice p S.length cS, .agg #[.int .u8 7, .string s, .slice q l.length c, .int .i64 room, .int .i64 fn]] w fun e w' => e = .returned (.bool true) ∧ Below w.heap.size w w' := by
  subst h0
  subst h1
  subst h2
  have hob := heap_alloc_new w (.cells #[.int .u8 7, .string ⟨#[]⟩, .slice q l.length c, .int .i64 0, .int .i64 0] 33)
  have hB0 := below1 w (.cells #[.int .u8 7, .string ⟨#[]⟩, .slice q l.length c, .int .i64 0, .int .i64 0] 33)
  have H1 := fun (W : World) (h : Below w.heap.size w W) => rHeld_in (cq := c) cS (hs.below h) hl (hv.below h) hll false true (by simpa using h4)
  clear h4
  go_enter Try.func23, Try.ntmps23
  go_wp2_with (first
    | (go_at_call 34; refine (H1 _ (below1 _ _)).mono ?_; clear H1; rintro e w1 ⟨rfl, hB1⟩; obtain ⟨⟨d0, d1, d2, d3, d4⟩, -⟩ := cell_row5 ((hB1.block w.heap.size (by simp)).trans hob); have hB1' : Below w.heap.size w w1 := hB0.trans (hB1.mono (by simp))))
  go_ret
  exact ⟨rfl, hB1'⟩

theorem rObj_7 {p : Option Addr} {S : List Om} (cS : Nat) (hs : IsSt w p S) (hl : S.length ≤ 1048576) (s : ByteArray) (l : List Vl) (room fn : Int) (q : Option Addr) (c : Nat) (hv : Vals w q l) (hll : l.length ≤ 1048576) (b : Bool) (hb : b = true ↔ objP S ⟨7, s, l, room, fn⟩) :
    Calls Try.prog 23 #[.slice p S.length cS, .agg #[.int .u8 7, .string s, .slice q l.length c, .int .i64 room, .int .i64 fn]] w fun e w' => e = .returned (.bool b) ∧ Below w.heap.size w w' := by
  unfold objP formP heldP roomP at hb
  simp at hb
  by_cases h0 : s = ⟨#[]⟩
  · by_cases h1 : room = 0
    · by_cases h2 : fn = 0
      · by_cases h3 : (l.length : Int) = 1
        · by_cases h4 : heldP S l (false = true)
          · have e := hb.2 (by simp_all [heldP])
            subst e
            exact rObj_7_5 cS hs hl s l room fn q c hv hll h0 h1 h2 h3 h4
          · have e := b_false hb (fun h => h4 (by simp_all [heldP]))
            subst e
            exact rObj_7_4 cS hs hl s l room fn q c hv hll h0 h1 h2 h3 h4
        · have e := b_false hb (fun h => h3 (by simp_all [heldP]))
          subst e
          exact rObj_7_3 cS hs hl s l room fn q c hv hll h0 h1 h2 h3
      · have e := b_false hb (fun h => h2 (by simp_all [heldP]))
        subst e
        exact rObj_7_2 cS hs hl s l room fn q c hv hll h0 h1 h2
    · have e := b_false hb (fun h => h1 (by simp_all [heldP]))
      subst e
      exact rObj_7_1 cS hs hl s l room fn q c hv hll h0 h1
  · have e := b_false hb (fun h => h0 (by simp_all [heldP]))
    subst e
    exact rObj_7_0 cS hs hl s l room fn q c hv hll h0

/-- The document's obj. -/
theorem rObj_in {p : Option Addr} {S : List Om} (cS : Nat) (hs : IsSt w p S) (hl : S.length ≤ 1048576) (o : Om) (q : Option Addr) (c : Nat) (hv : Vals w q o.l) (hll : o.l.length ≤ 1048576) (h3 : 3 ≤ o.k) (h7 : o.k ≤ 7) (b : Bool) (hb : b = true ↔ objP S o) :
    Calls Try.prog 23 #[.slice p S.length cS, objV o q c] w fun e w' => e = .returned (.bool b) ∧ Below w.heap.size w w' := by
  obtain ⟨k, s, l, room, fn⟩ := o
  dsimp only at hv hll h3 h7
  unfold objV
  rcases (show k = 3 ∨ k = 4 ∨ k = 5 ∨ k = 6 ∨ k = 7 by omega) with h | h | h | h | h
  · subst h; exact rObj_3 cS hs hl s l room fn q c hv hll b hb
  · subst h; exact rObj_4 cS hs hl s l room fn q c hv hll b hb
  · subst h; exact rObj_5 cS hs hl s l room fn q c hv hll b hb
  · subst h; exact rObj_6 cS hs hl s l room fn q c hv hll b hb
  · subst h; exact rObj_7 cS hs hl s l room fn q c hv hll b hb

end Go.Proofs.Ytppjahnahomkeaa
