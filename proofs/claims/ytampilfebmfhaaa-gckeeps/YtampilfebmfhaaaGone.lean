/- A heap that is not there, and the document's; what Move may not. -/
import Derived.Test.YtampilfebmfhaaaRefMove
namespace Go.Proofs.Ytampilfebmfhaaa
open Go.RowKit

variable {n₀ br all en : Nat} {vo : Value} {w : World} {R : List (Ob × Value)}

set_option maxHeartbeats 1000000 in
theorem rmove_none (h : IsRf n₀ br vo w all en R) (f t : Int) (hf : findR f R = -1) : Calls Try.prog 40 #[.pointer (some ⟨br, 0, none⟩), .int .i64 f, .int .i64 t] w fun e w' => e = .returned (.int .i64 1) ∧ Below w.heap.size w w' := by
  have a2 := find_r h f
  rw [hf] at a2
  clear h hf
  go_enter Try.func40, Try.ntmps40
  go_wp2_with (go_at_call 66; refine a2.mono ?_; clear a2; rintro e w ⟨rfl, rfl⟩)
  go_ret
  exact ⟨rfl, Below.refl _ _⟩

set_option maxHeartbeats 1000000 in
theorem rmove_out (h : IsRf n₀ br vo w all en R) (f t : Int) (k : Nat) (hf : findR f R = k) (ht : t < 0 ∨ f < t) : Calls Try.prog 40 #[.pointer (some ⟨br, 0, none⟩), .int .i64 f, .int .i64 t] w fun e w' => e = .returned (.int .i64 1) ∧ Below w.heap.size w w' := by
  have a2 := find_r h f
  rw [hf] at a2
  clear h hf
  have q3 : ((k : Int) < 0) = False := by simp
  by_cases h1 : t < 0
  · clear ht
    go_enter Try.func40, Try.ntmps40
    go_wp2_with (go_at_call 66; refine a2.mono ?_; clear a2; rintro e w ⟨rfl, rfl⟩)
    go_ret
    exact ⟨rfl, Below.refl _ _⟩
  · have h2 : f < t := by omega
    clear ht
    go_enter Try.func40, Try.ntmps40
    go_wp2_with (go_at_call 66; refine a2.mono ?_; clear a2; rintro e w ⟨rfl, rfl⟩)
    go_ret
    exact ⟨rfl, Below.refl _ _⟩

set_option maxHeartbeats 1000000 in
theorem rmove_in (h : IsRf n₀ br vo w all en R) (f t : Nat) (k : Nat) (hf : findR f R = k) (ht : t ≤ f) (hw : R.any (withinR t) = true) : Calls Try.prog 40 #[.pointer (some ⟨br, 0, none⟩), .int .i64 f, .int .i64 t] w fun e w' => e = .returned (.int .i64 1) ∧ Below w.heap.size w w' := by
  have a1 := within_r h t
  have a2 := find_r h f
  rw [hf] at a2
  rw [hw] at a1
  clear h hf
  have q1 : ((t : Int) < 0) = False := by simp
  have q2 : (f < t) = False := by simp; omega
  have q3 : ((k : Int) < 0) = False := by simp
  go_enter Try.func40, Try.ntmps40
  go_wp2_with (first | (go_at_call 68; refine a1.mono ?_; clear a1; rintro e w1 ⟨rfl, hB1⟩) | (go_at_call 66; refine a2.mono ?_; clear a2; rintro e w ⟨rfl, rfl⟩))
  go_ret
  exact ⟨rfl, hB1⟩

/-- A heap that is not there: nil, or one that New did not make. -/
def Gone (w : World) (v : Value) : Prop := v = .pointer none ∨ ∃ z, v = .pointer (some ⟨z, 0, none⟩) ∧ w.cell? ⟨z, 0, none⟩ = some (.pointer none)

variable {v : Value}

set_option maxHeartbeats 400000 in
theorem there_gone (h : Gone w v) : Calls Try.prog 19 #[v] w fun e w' => e = .returned (.pointer none) ∧ w' = w := by
  rcases h with rfl | ⟨z, rfl, hz⟩
  · go_enter Try.func19, Try.ntmps19
    go_wp2
    go_ret
    exact ⟨rfl, rfl⟩
  · go_enter Try.func19, Try.ntmps19
    go_wp2
    go_ret
    exact ⟨rfl, rfl⟩

set_option maxHeartbeats 400000 in
theorem galloc (h : Gone w v) (k : Nat) (size : Int) : Calls Try.prog 34 #[v, .int .u8 k, .int .i64 size] w fun e w' => e = .returned (.tuple #[.int .i64 0, .int .i64 2]) ∧ w' = w := by
  have a := there_gone h
  clear h
  go_enter Try.func34, Try.ntmps34
  go_wp2_with (go_at_call 19; refine a.mono ?_; clear a; rintro e w' ⟨rfl, rfl⟩)
  go_ret2
  exact ⟨rfl, rfl⟩

set_option maxHeartbeats 400000 in
theorem gfind (h : Gone w v) (i : Int) : Calls Try.prog 30 #[v, .int .i64 i] w fun e w' => e = .returned (.tuple #[.pointer none, .int .i64 2]) ∧ w' = w := by
  have a := there_gone h
  clear h
  go_enter Try.func30, Try.ntmps30
  go_wp2_with (go_at_call 19; refine a.mono ?_; clear a; rintro e w' ⟨rfl, rfl⟩)
  go_ret2
  exact ⟨rfl, rfl⟩

set_option maxHeartbeats 400000 in
theorem gword (h : Gone w v) (i j : Int) : Calls Try.prog 33 #[v, .int .i64 i, .int .i64 j] w fun e w' => e = .returned (.tuple #[.pointer none, .int .i64 2]) ∧ w' = w := by
  have a := gfind h i
  clear h
  go_enter Try.func33, Try.ntmps33
  go_wp2_with (go_at_call 30; refine a.mono ?_; clear a; rintro e w' ⟨rfl, rfl⟩)
  go_ret2
  exact ⟨rfl, rfl⟩

set_option maxHeartbeats 400000 in
theorem gread (h : Gone w v) (i j : Int) : Calls Try.prog 14 #[v, .int .i64 i, .int .i64 j] w fun e w' => e = .returned (.tuple #[.int .u64 0, .int .i64 2]) ∧ w' = w := by
  have a := gword h i j
  clear h
  go_enter Try.func14, Try.ntmps14
  go_wp2_with (go_at_call 33; refine a.mono ?_; clear a; rintro e w' ⟨rfl, rfl⟩)
  go_ret2
  exact ⟨rfl, rfl⟩

set_option maxHeartbeats 400000 in
theorem gwrite (h : Gone w v) (i j x : Int) : Calls Try.prog 35 #[v, .int .i64 i, .int .i64 j, .int .u64 x] w fun e w' => e = .returned (.int .i64 2) ∧ w' = w := by
  have a := gword h i j
  clear h
  go_enter Try.func35, Try.ntmps35
  go_wp2_with (go_at_call 33; refine a.mono ?_; clear a; rintro e w' ⟨rfl, rfl⟩)
  go_ret
  exact ⟨rfl, rfl⟩

set_option maxHeartbeats 400000 in
theorem gkind (h : Gone w v) (i : Int) : Calls Try.prog 43 #[v, .int .i64 i] w fun e w' => e = .returned (.tuple #[.int .u8 0, .int .i64 2]) ∧ w' = w := by
  have a := gfind h i
  clear h
  go_enter Try.func43, Try.ntmps43
  go_wp2_with (go_at_call 30; refine a.mono ?_; clear a; rintro e w' ⟨rfl, rfl⟩)
  go_ret2
  exact ⟨rfl, rfl⟩

set_option maxHeartbeats 400000 in
theorem gsize (h : Gone w v) (i : Int) : Calls Try.prog 11 #[v, .int .i64 i] w fun e w' => e = .returned (.tuple #[.int .i64 0, .int .i64 2]) ∧ w' = w := by
  have a := gfind h i
  clear h
  go_enter Try.func11, Try.ntmps11
  go_wp2_with (go_at_call 30; refine a.mono ?_; clear a; rintro e w' ⟨rfl, rfl⟩)
  go_ret2
  exact ⟨rfl, rfl⟩

set_option maxHeartbeats 400000 in
theorem gmove (h : Gone w v) (i t : Int) : Calls Try.prog 39 #[v, .int .i64 i, .int .i64 t] w fun e w' => e = .returned (.int .i64 2) ∧ w' = w := by
  have a := gfind h i
  clear h
  go_enter Try.func39, Try.ntmps39
  go_wp2_with (go_at_call 30; refine a.mono ?_; clear a; rintro e w' ⟨rfl, rfl⟩)
  go_ret
  exact ⟨rfl, rfl⟩

set_option maxHeartbeats 400000 in
theorem gcut (h : Gone w v) (t : Int) : Calls Try.prog 28 #[v, .int .i64 t] w fun e w' => e = .returned (.int .i64 2) ∧ w' = w := by
  have a := there_gone h
  clear h
  go_enter Try.func28, Try.ntmps28
  go_wp2_with (go_at_call 19; refine a.mono ?_; clear a; rintro e w' ⟨rfl, rfl⟩)
  go_ret
  exact ⟨rfl, rfl⟩

set_option maxHeartbeats 400000 in
theorem gused (h : Gone w v) : Calls Try.prog 12 #[v] w fun e w' => e = .returned (.int .i64 0) ∧ w' = w := by
  have a := there_gone h
  clear h
  go_enter Try.func12, Try.ntmps12
  go_wp2_with (go_at_call 19; refine a.mono ?_; clear a; rintro e w' ⟨rfl, rfl⟩)
  go_ret
  exact ⟨rfl, rfl⟩

set_option maxHeartbeats 400000 in
theorem gwords (h : Gone w v) : Calls Try.prog 48 #[v] w fun e w' => e = .returned (.int .i64 0) ∧ w' = w := by
  have a := there_gone h
  clear h
  go_enter Try.func48, Try.ntmps48
  go_wp2_with (go_at_call 19; refine a.mono ?_; clear a; rintro e w' ⟨rfl, rfl⟩)
  go_ret
  exact ⟨rfl, rfl⟩

set_option maxHeartbeats 400000 in
theorem gplaces (h : Gone w v) : Calls Try.prog 7 #[v] w fun e w' => e = .returned (.slice none 0 0) ∧ w' = w := by
  have a := there_gone h
  clear h
  go_enter Try.func7, Try.ntmps7
  go_wp2_with (go_at_call 19; refine a.mono ?_; clear a; rintro e w' ⟨rfl, rfl⟩)
  go_ret
  exact ⟨rfl, rfl⟩

set_option maxHeartbeats 400000 in
theorem nalloc (k : Nat) (size : Int) (w : World) : Calls Try.prog 37 #[.pointer none, .int .u8 k, .int .i64 size] w fun e w' => e = .returned (.tuple #[.int .i64 0, .int .i64 2]) ∧ w' = w := by
  go_enter Try.func37, Try.ntmps37
  go_wp2
  go_ret2
  exact ⟨rfl, rfl⟩

set_option maxHeartbeats 400000 in
theorem nread (i j : Int) (w : World) : Calls Try.prog 42 #[.pointer none, .int .i64 i, .int .i64 j] w fun e w' => e = .returned (.tuple #[.int .u64 0, .int .i64 2]) ∧ w' = w := by
  go_enter Try.func42, Try.ntmps42
  go_wp2
  go_ret2
  exact ⟨rfl, rfl⟩

set_option maxHeartbeats 400000 in
theorem nwrite (i j x : Int) (w : World) : Calls Try.prog 38 #[.pointer none, .int .i64 i, .int .i64 j, .int .u64 x] w fun e w' => e = .returned (.int .i64 2) ∧ w' = w := by
  go_enter Try.func38, Try.ntmps38
  go_wp2
  go_ret
  exact ⟨rfl, rfl⟩

set_option maxHeartbeats 400000 in
theorem nkind (i : Int) (w : World) : Calls Try.prog 44 #[.pointer none, .int .i64 i] w fun e w' => e = .returned (.tuple #[.int .u8 0, .int .i64 2]) ∧ w' = w := by
  go_enter Try.func44, Try.ntmps44
  go_wp2
  go_ret2
  exact ⟨rfl, rfl⟩

set_option maxHeartbeats 400000 in
theorem nsize (i : Int) (w : World) : Calls Try.prog 45 #[.pointer none, .int .i64 i] w fun e w' => e = .returned (.tuple #[.int .i64 0, .int .i64 2]) ∧ w' = w := by
  go_enter Try.func45, Try.ntmps45
  go_wp2
  go_ret2
  exact ⟨rfl, rfl⟩

set_option maxHeartbeats 400000 in
theorem nmove (i t : Int) (w : World) : Calls Try.prog 40 #[.pointer none, .int .i64 i, .int .i64 t] w fun e w' => e = .returned (.int .i64 2) ∧ w' = w := by
  go_enter Try.func40, Try.ntmps40
  go_wp2
  go_ret
  exact ⟨rfl, rfl⟩

set_option maxHeartbeats 400000 in
theorem ncut (t : Int) (w : World) : Calls Try.prog 41 #[.pointer none, .int .i64 t] w fun e w' => e = .returned (.int .i64 2) ∧ w' = w := by
  go_enter Try.func41, Try.ntmps41
  go_wp2
  go_ret
  exact ⟨rfl, rfl⟩

end Go.Proofs.Ytampilfebmfhaaa
