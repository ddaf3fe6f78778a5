/- A heap that is not there, and the document's; what Move may not. -/
import Derived.Test.YtkegkpaepkolhaaGreatDoorRefMove
namespace Go.Proofs.YtkegkpaepkolhaaGreatDoor
open Go.RowKit

variable {n₀ br all en : Nat} {vo : Value} {w : World} {R : List (Ob × Value)}

set_option maxHeartbeats 1000000 in
theorem rmove_none (h : IsRf n₀ br vo w all en R) (f t : Int) (hf : findR f R = -1) : Calls Tryz.prog 19 #[.pointer (some ⟨br, 0, none⟩), .int .i64 f, .int .i64 t] w fun e w' => e = .returned (.int .i64 1) ∧ Below w.heap.size w w' := by
  have a2 := find_r h f
  rw [hf] at a2
  clear h hf
  go_enter Tryz.func19, Tryz.ntmps19
  go_wp2_with (go_at_call 101; refine a2.mono ?_; clear a2; rintro e w ⟨rfl, rfl⟩)
  go_ret
  exact ⟨rfl, Below.refl _ _⟩

set_option maxHeartbeats 1000000 in
theorem rmove_out (h : IsRf n₀ br vo w all en R) (f t : Int) (k : Nat) (hf : findR f R = k) (ht : t < 0 ∨ f < t) : Calls Tryz.prog 19 #[.pointer (some ⟨br, 0, none⟩), .int .i64 f, .int .i64 t] w fun e w' => e = .returned (.int .i64 1) ∧ Below w.heap.size w w' := by
  have a2 := find_r h f
  rw [hf] at a2
  clear h hf
  have q3 : ((k : Int) < 0) = False := by simp
  by_cases h1 : t < 0
  · clear ht
    go_enter Tryz.func19, Tryz.ntmps19
    go_wp2_with (go_at_call 101; refine a2.mono ?_; clear a2; rintro e w ⟨rfl, rfl⟩)
    go_ret
    exact ⟨rfl, Below.refl _ _⟩
  · have h2 : f < t := by omega
    clear ht
    go_enter Tryz.func19, Tryz.ntmps19
    go_wp2_with (go_at_call 101; refine a2.mono ?_; clear a2; rintro e w ⟨rfl, rfl⟩)
    go_ret
    exact ⟨rfl, Below.refl _ _⟩

set_option maxHeartbeats 1000000 in
theorem rmove_in (h : IsRf n₀ br vo w all en R) (f t : Nat) (k : Nat) (hf : findR f R = k) (ht : t ≤ f) (hw : R.any (withinR t) = true) : Calls Tryz.prog 19 #[.pointer (some ⟨br, 0, none⟩), .int .i64 f, .int .i64 t] w fun e w' => e = .returned (.int .i64 1) ∧ Below w.heap.size w w' := by
  have a1 := within_r h t
  have a2 := find_r h f
  rw [hf] at a2
  rw [hw] at a1
  clear h hf
  have q1 : ((t : Int) < 0) = False := by simp
  have q2 : (f < t) = False := by simp; omega
  have q3 : ((k : Int) < 0) = False := by simp
  go_enter Tryz.func19, Tryz.ntmps19
  go_wp2_with (first | (go_at_call 106; refine a1.mono ?_; clear a1; rintro e w1 ⟨rfl, hB1⟩) | (go_at_call 101; refine a2.mono ?_; clear a2; rintro e w ⟨rfl, rfl⟩))
  go_ret
  exact ⟨rfl, hB1⟩

/-- A heap that is not there: nil, or one that New did not make. -/
def Gone (w : World) (v : Value) : Prop := v = .pointer none ∨ ∃ z, v = .pointer (some ⟨z, 0, none⟩) ∧ w.cell? ⟨z, 0, none⟩ = some (.pointer none)

variable {v : Value}

set_option maxHeartbeats 400000 in
theorem there_gone (h : Gone w v) : Calls Tryz.prog 28 #[v] w fun e w' => e = .returned (.pointer none) ∧ w' = w := by
  rcases h with rfl | ⟨z, rfl, hz⟩
  · go_enter Tryz.func28, Tryz.ntmps28
    go_wp2
    go_ret
    exact ⟨rfl, rfl⟩
  · go_enter Tryz.func28, Tryz.ntmps28
    go_wp2
    go_ret
    exact ⟨rfl, rfl⟩

set_option maxHeartbeats 400000 in
theorem galloc (h : Gone w v) (k : Nat) (size : Int) : Calls Tryz.prog 14 #[v, .int .u8 k, .int .i64 size] w fun e w' => e = .returned (.tuple #[.int .i64 0, .int .i64 2]) ∧ w' = w := by
  have a := there_gone h
  clear h
  go_enter Tryz.func14, Tryz.ntmps14
  go_wp2_with (go_at_call 28; refine a.mono ?_; clear a; rintro e w' ⟨rfl, rfl⟩)
  go_ret2
  exact ⟨rfl, rfl⟩

set_option maxHeartbeats 400000 in
theorem gfind (h : Gone w v) (i : Int) : Calls Tryz.prog 102 #[v, .int .i64 i] w fun e w' => e = .returned (.tuple #[.pointer none, .int .i64 2]) ∧ w' = w := by
  have a := there_gone h
  clear h
  go_enter Tryz.func102, Tryz.ntmps102
  go_wp2_with (go_at_call 28; refine a.mono ?_; clear a; rintro e w' ⟨rfl, rfl⟩)
  go_ret2
  exact ⟨rfl, rfl⟩

set_option maxHeartbeats 400000 in
theorem gword (h : Gone w v) (i j : Int) : Calls Tryz.prog 100 #[v, .int .i64 i, .int .i64 j] w fun e w' => e = .returned (.tuple #[.pointer none, .int .i64 2]) ∧ w' = w := by
  have a := gfind h i
  clear h
  go_enter Tryz.func100, Tryz.ntmps100
  go_wp2_with (go_at_call 102; refine a.mono ?_; clear a; rintro e w' ⟨rfl, rfl⟩)
  go_ret2
  exact ⟨rfl, rfl⟩

set_option maxHeartbeats 400000 in
theorem gread (h : Gone w v) (i j : Int) : Calls Tryz.prog 22 #[v, .int .i64 i, .int .i64 j] w fun e w' => e = .returned (.tuple #[.int .u64 0, .int .i64 2]) ∧ w' = w := by
  have a := gword h i j
  clear h
  go_enter Tryz.func22, Tryz.ntmps22
  go_wp2_with (go_at_call 100; refine a.mono ?_; clear a; rintro e w' ⟨rfl, rfl⟩)
  go_ret2
  exact ⟨rfl, rfl⟩

set_option maxHeartbeats 400000 in
theorem gwrite (h : Gone w v) (i j x : Int) : Calls Tryz.prog 16 #[v, .int .i64 i, .int .i64 j, .int .u64 x] w fun e w' => e = .returned (.int .i64 2) ∧ w' = w := by
  have a := gword h i j
  clear h
  go_enter Tryz.func16, Tryz.ntmps16
  go_wp2_with (go_at_call 100; refine a.mono ?_; clear a; rintro e w' ⟨rfl, rfl⟩)
  go_ret
  exact ⟨rfl, rfl⟩

set_option maxHeartbeats 400000 in
theorem gkind (h : Gone w v) (i : Int) : Calls Tryz.prog 24 #[v, .int .i64 i] w fun e w' => e = .returned (.tuple #[.int .u8 0, .int .i64 2]) ∧ w' = w := by
  have a := gfind h i
  clear h
  go_enter Tryz.func24, Tryz.ntmps24
  go_wp2_with (go_at_call 102; refine a.mono ?_; clear a; rintro e w' ⟨rfl, rfl⟩)
  go_ret2
  exact ⟨rfl, rfl⟩

set_option maxHeartbeats 400000 in
theorem gsize (h : Gone w v) (i : Int) : Calls Tryz.prog 26 #[v, .int .i64 i] w fun e w' => e = .returned (.tuple #[.int .i64 0, .int .i64 2]) ∧ w' = w := by
  have a := gfind h i
  clear h
  go_enter Tryz.func26, Tryz.ntmps26
  go_wp2_with (go_at_call 102; refine a.mono ?_; clear a; rintro e w' ⟨rfl, rfl⟩)
  go_ret2
  exact ⟨rfl, rfl⟩

set_option maxHeartbeats 400000 in
theorem gmove (h : Gone w v) (i t : Int) : Calls Tryz.prog 18 #[v, .int .i64 i, .int .i64 t] w fun e w' => e = .returned (.int .i64 2) ∧ w' = w := by
  have a := gfind h i
  clear h
  go_enter Tryz.func18, Tryz.ntmps18
  go_wp2_with (go_at_call 102; refine a.mono ?_; clear a; rintro e w' ⟨rfl, rfl⟩)
  go_ret
  exact ⟨rfl, rfl⟩

set_option maxHeartbeats 400000 in
theorem gcut (h : Gone w v) (t : Int) : Calls Tryz.prog 20 #[v, .int .i64 t] w fun e w' => e = .returned (.int .i64 2) ∧ w' = w := by
  have a := there_gone h
  clear h
  go_enter Tryz.func20, Tryz.ntmps20
  go_wp2_with (go_at_call 28; refine a.mono ?_; clear a; rintro e w' ⟨rfl, rfl⟩)
  go_ret
  exact ⟨rfl, rfl⟩

set_option maxHeartbeats 400000 in
theorem gused (h : Gone w v) : Calls Tryz.prog 7 #[v] w fun e w' => e = .returned (.int .i64 0) ∧ w' = w := by
  have a := there_gone h
  clear h
  go_enter Tryz.func7, Tryz.ntmps7
  go_wp2_with (go_at_call 28; refine a.mono ?_; clear a; rintro e w' ⟨rfl, rfl⟩)
  go_ret
  exact ⟨rfl, rfl⟩

set_option maxHeartbeats 400000 in
theorem gwords (h : Gone w v) : Calls Tryz.prog 93 #[v] w fun e w' => e = .returned (.int .i64 0) ∧ w' = w := by
  have a := there_gone h
  clear h
  go_enter Tryz.func93, Tryz.ntmps93
  go_wp2_with (go_at_call 28; refine a.mono ?_; clear a; rintro e w' ⟨rfl, rfl⟩)
  go_ret
  exact ⟨rfl, rfl⟩

set_option maxHeartbeats 400000 in
theorem gplaces (h : Gone w v) : Calls Tryz.prog 10 #[v] w fun e w' => e = .returned (.slice none 0 0) ∧ w' = w := by
  have a := there_gone h
  clear h
  go_enter Tryz.func10, Tryz.ntmps10
  go_wp2_with (go_at_call 28; refine a.mono ?_; clear a; rintro e w' ⟨rfl, rfl⟩)
  go_ret
  exact ⟨rfl, rfl⟩

set_option maxHeartbeats 400000 in
theorem nalloc (k : Nat) (size : Int) (w : World) : Calls Tryz.prog 15 #[.pointer none, .int .u8 k, .int .i64 size] w fun e w' => e = .returned (.tuple #[.int .i64 0, .int .i64 2]) ∧ w' = w := by
  go_enter Tryz.func15, Tryz.ntmps15
  go_wp2
  go_ret2
  exact ⟨rfl, rfl⟩
set_option maxHeartbeats 400000 in
theorem nread (i j : Int) (w : World) : Calls Tryz.prog 23 #[.pointer none, .int .i64 i, .int .i64 j] w fun e w' => e = .returned (.tuple #[.int .u64 0, .int .i64 2]) ∧ w' = w := by
  go_enter Tryz.func23, Tryz.ntmps23
  go_wp2
  go_ret2
  exact ⟨rfl, rfl⟩
set_option maxHeartbeats 400000 in
theorem nwrite (i j x : Int) (w : World) : Calls Tryz.prog 17 #[.pointer none, .int .i64 i, .int .i64 j, .int .u64 x] w fun e w' => e = .returned (.int .i64 2) ∧ w' = w := by
  go_enter Tryz.func17, Tryz.ntmps17
  go_wp2
  go_ret
  exact ⟨rfl, rfl⟩
set_option maxHeartbeats 400000 in
theorem nkind (i : Int) (w : World) : Calls Tryz.prog 25 #[.pointer none, .int .i64 i] w fun e w' => e = .returned (.tuple #[.int .u8 0, .int .i64 2]) ∧ w' = w := by
  go_enter Tryz.func25, Tryz.ntmps25
  go_wp2
  go_ret2
  exact ⟨rfl, rfl⟩
set_option maxHeartbeats 400000 in
theorem nsize (i : Int) (w : World) : Calls Tryz.prog 27 #[.pointer none, .int .i64 i] w fun e w' => e = .returned (.tuple #[.int .i64 0, .int .i64 2]) ∧ w' = w := by
  go_enter Tryz.func27, Tryz.ntmps27
  go_wp2
  go_ret2
  exact ⟨rfl, rfl⟩
set_option maxHeartbeats 400000 in
theorem nmove (i t : Int) (w : World) : Calls Tryz.prog 19 #[.pointer none, .int .i64 i, .int .i64 t] w fun e w' => e = .returned (.int .i64 2) ∧ w' = w := by
  go_enter Tryz.func19, Tryz.ntmps19
  go_wp2
  go_ret
  exact ⟨rfl, rfl⟩
set_option maxHeartbeats 400000 in
theorem ncut (t : Int) (w : World) : Calls Tryz.prog 21 #[.pointer none, .int .i64 t] w fun e w' => e = .returned (.int .i64 2) ∧ w' = w := by
  go_enter Tryz.func21, Tryz.ntmps21
  go_wp2
  go_ret
  exact ⟨rfl, rfl⟩
set_option maxHeartbeats 400000 in
theorem nused (w : World) : Calls Tryz.prog 8 #[.pointer none] w fun e w' => e = .returned (.int .i64 0) ∧ w' = w := by
  go_enter Tryz.func8, Tryz.ntmps8
  go_wp2
  go_ret
  exact ⟨rfl, rfl⟩
set_option maxHeartbeats 400000 in
theorem nwords (w : World) : Calls Tryz.prog 94 #[.pointer none] w fun e w' => e = .returned (.int .i64 0) ∧ w' = w := by
  go_enter Tryz.func94, Tryz.ntmps94
  go_wp2
  go_ret
  exact ⟨rfl, rfl⟩
set_option maxHeartbeats 400000 in
theorem nplaces (w : World) : Calls Tryz.prog 96 #[.pointer none] w fun e w' => e = .returned (.slice none 0 0) ∧ w' = w := by
  go_enter Tryz.func96, Tryz.ntmps96
  go_wp2
  go_loop [3, 4] (fun out i => out = .slice none 0 0 ∧ i = .int .i64 0) (fun _ _ => 0)
  case atStart => exact ⟨rfl, rfl⟩
  case round =>
    obtain ⟨rfl, rfl⟩ := hrel
    go_wp2
    go_ret
    exact ⟨rfl, rfl⟩

end Go.Proofs.YtkegkpaepkolhaaGreatDoor
