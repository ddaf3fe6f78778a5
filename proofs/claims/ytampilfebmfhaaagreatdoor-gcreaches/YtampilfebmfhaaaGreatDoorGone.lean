/- A heap that is not there, and the document's; what Move may not. -/
import Derived.Test.YtampilfebmfhaaaGreatDoorRefMove
namespace Go.Proofs.YtampilfebmfhaaaGreatDoor
open Go.RowKit

variable {n₀ br all en : Nat} {vo : Value} {w : World} {R : List (Ob × Value)}

set_option maxHeartbeats 1000000 in
theorem rmove_none (h : IsRf n₀ br vo w all en R) (f t : Int) (hf : findR f R = -1) : Calls Tryz.prog 112 #[.pointer (some ⟨br, 0, none⟩), .int .i64 f, .int .i64 t] w fun e w' => e = .returned (.int .i64 1) ∧ Below w.heap.size w w' := by
  have a2 := find_r h f
  rw [hf] at a2
  clear h hf
  go_enter Tryz.func112, Tryz.ntmps112
  go_wp2_with (go_at_call 178; refine a2.mono ?_; clear a2; rintro e w ⟨rfl, rfl⟩)
  go_ret
  exact ⟨rfl, Below.refl _ _⟩

set_option maxHeartbeats 1000000 in
theorem rmove_out (h : IsRf n₀ br vo w all en R) (f t : Int) (k : Nat) (hf : findR f R = k) (ht : t < 0 ∨ f < t) : Calls Tryz.prog 112 #[.pointer (some ⟨br, 0, none⟩), .int .i64 f, .int .i64 t] w fun e w' => e = .returned (.int .i64 1) ∧ Below w.heap.size w w' := by
  have a2 := find_r h f
  rw [hf] at a2
  clear h hf
  have q3 : ((k : Int) < 0) = False := by simp
  by_cases h1 : t < 0
  · clear ht
    go_enter Tryz.func112, Tryz.ntmps112
    go_wp2_with (go_at_call 178; refine a2.mono ?_; clear a2; rintro e w ⟨rfl, rfl⟩)
    go_ret
    exact ⟨rfl, Below.refl _ _⟩
  · have h2 : f < t := by omega
    clear ht
    go_enter Tryz.func112, Tryz.ntmps112
    go_wp2_with (go_at_call 178; refine a2.mono ?_; clear a2; rintro e w ⟨rfl, rfl⟩)
    go_ret
    exact ⟨rfl, Below.refl _ _⟩

set_option maxHeartbeats 1000000 in
theorem rmove_in (h : IsRf n₀ br vo w all en R) (f t : Nat) (k : Nat) (hf : findR f R = k) (ht : t ≤ f) (hw : R.any (withinR t) = true) : Calls Tryz.prog 112 #[.pointer (some ⟨br, 0, none⟩), .int .i64 f, .int .i64 t] w fun e w' => e = .returned (.int .i64 1) ∧ Below w.heap.size w w' := by
  have a1 := within_r h t
  have a2 := find_r h f
  rw [hf] at a2
  rw [hw] at a1
  clear h hf
  have q1 : ((t : Int) < 0) = False := by simp
  have q2 : (f < t) = False := by simp; omega
  have q3 : ((k : Int) < 0) = False := by simp
  go_enter Tryz.func112, Tryz.ntmps112
  go_wp2_with (first | (go_at_call 184; refine a1.mono ?_; clear a1; rintro e w1 ⟨rfl, hB1⟩) | (go_at_call 178; refine a2.mono ?_; clear a2; rintro e w ⟨rfl, rfl⟩))
  go_ret
  exact ⟨rfl, hB1⟩

/-- A heap that is not there: nil, or one that New did not make. -/
def Gone (w : World) (v : Value) : Prop := v = .pointer none ∨ ∃ z, v = .pointer (some ⟨z, 0, none⟩) ∧ w.cell? ⟨z, 0, none⟩ = some (.pointer none)

variable {v : Value}

set_option maxHeartbeats 400000 in
theorem there_gone (h : Gone w v) : Calls Tryz.prog 125 #[v] w fun e w' => e = .returned (.pointer none) ∧ w' = w := by
  rcases h with rfl | ⟨z, rfl, hz⟩
  · go_enter Tryz.func125, Tryz.ntmps125
    go_wp2
    go_ret
    exact ⟨rfl, rfl⟩
  · go_enter Tryz.func125, Tryz.ntmps125
    go_wp2
    go_ret
    exact ⟨rfl, rfl⟩

set_option maxHeartbeats 400000 in
theorem galloc (h : Gone w v) (k : Nat) (size : Int) : Calls Tryz.prog 107 #[v, .int .u8 k, .int .i64 size] w fun e w' => e = .returned (.tuple #[.int .i64 0, .int .i64 2]) ∧ w' = w := by
  have a := there_gone h
  clear h
  go_enter Tryz.func107, Tryz.ntmps107
  go_wp2_with (go_at_call 125; refine a.mono ?_; clear a; rintro e w' ⟨rfl, rfl⟩)
  go_ret2
  exact ⟨rfl, rfl⟩

set_option maxHeartbeats 400000 in
theorem gfind (h : Gone w v) (i : Int) : Calls Tryz.prog 129 #[v, .int .i64 i] w fun e w' => e = .returned (.tuple #[.pointer none, .int .i64 2]) ∧ w' = w := by
  have a := there_gone h
  clear h
  go_enter Tryz.func129, Tryz.ntmps129
  go_wp2_with (go_at_call 125; refine a.mono ?_; clear a; rintro e w' ⟨rfl, rfl⟩)
  go_ret2
  exact ⟨rfl, rfl⟩

set_option maxHeartbeats 400000 in
theorem gword (h : Gone w v) (i j : Int) : Calls Tryz.prog 131 #[v, .int .i64 i, .int .i64 j] w fun e w' => e = .returned (.tuple #[.pointer none, .int .i64 2]) ∧ w' = w := by
  have a := gfind h i
  clear h
  go_enter Tryz.func131, Tryz.ntmps131
  go_wp2_with (go_at_call 129; refine a.mono ?_; clear a; rintro e w' ⟨rfl, rfl⟩)
  go_ret2
  exact ⟨rfl, rfl⟩

set_option maxHeartbeats 400000 in
theorem gread (h : Gone w v) (i j : Int) : Calls Tryz.prog 34 #[v, .int .i64 i, .int .i64 j] w fun e w' => e = .returned (.tuple #[.int .u64 0, .int .i64 2]) ∧ w' = w := by
  have a := gword h i j
  clear h
  go_enter Tryz.func34, Tryz.ntmps34
  go_wp2_with (go_at_call 131; refine a.mono ?_; clear a; rintro e w' ⟨rfl, rfl⟩)
  go_ret2
  exact ⟨rfl, rfl⟩

set_option maxHeartbeats 400000 in
theorem gwrite (h : Gone w v) (i j x : Int) : Calls Tryz.prog 109 #[v, .int .i64 i, .int .i64 j, .int .u64 x] w fun e w' => e = .returned (.int .i64 2) ∧ w' = w := by
  have a := gword h i j
  clear h
  go_enter Tryz.func109, Tryz.ntmps109
  go_wp2_with (go_at_call 131; refine a.mono ?_; clear a; rintro e w' ⟨rfl, rfl⟩)
  go_ret
  exact ⟨rfl, rfl⟩

set_option maxHeartbeats 400000 in
theorem gkind (h : Gone w v) (i : Int) : Calls Tryz.prog 32 #[v, .int .i64 i] w fun e w' => e = .returned (.tuple #[.int .u8 0, .int .i64 2]) ∧ w' = w := by
  have a := gfind h i
  clear h
  go_enter Tryz.func32, Tryz.ntmps32
  go_wp2_with (go_at_call 129; refine a.mono ?_; clear a; rintro e w' ⟨rfl, rfl⟩)
  go_ret2
  exact ⟨rfl, rfl⟩

set_option maxHeartbeats 400000 in
theorem gsize (h : Gone w v) (i : Int) : Calls Tryz.prog 33 #[v, .int .i64 i] w fun e w' => e = .returned (.tuple #[.int .i64 0, .int .i64 2]) ∧ w' = w := by
  have a := gfind h i
  clear h
  go_enter Tryz.func33, Tryz.ntmps33
  go_wp2_with (go_at_call 129; refine a.mono ?_; clear a; rintro e w' ⟨rfl, rfl⟩)
  go_ret2
  exact ⟨rfl, rfl⟩

set_option maxHeartbeats 400000 in
theorem gmove (h : Gone w v) (i t : Int) : Calls Tryz.prog 111 #[v, .int .i64 i, .int .i64 t] w fun e w' => e = .returned (.int .i64 2) ∧ w' = w := by
  have a := gfind h i
  clear h
  go_enter Tryz.func111, Tryz.ntmps111
  go_wp2_with (go_at_call 129; refine a.mono ?_; clear a; rintro e w' ⟨rfl, rfl⟩)
  go_ret
  exact ⟨rfl, rfl⟩

set_option maxHeartbeats 400000 in
theorem gcut (h : Gone w v) (t : Int) : Calls Tryz.prog 99 #[v, .int .i64 t] w fun e w' => e = .returned (.int .i64 2) ∧ w' = w := by
  have a := there_gone h
  clear h
  go_enter Tryz.func99, Tryz.ntmps99
  go_wp2_with (go_at_call 125; refine a.mono ?_; clear a; rintro e w' ⟨rfl, rfl⟩)
  go_ret
  exact ⟨rfl, rfl⟩

set_option maxHeartbeats 400000 in
theorem gused (h : Gone w v) : Calls Tryz.prog 26 #[v] w fun e w' => e = .returned (.int .i64 0) ∧ w' = w := by
  have a := there_gone h
  clear h
  go_enter Tryz.func26, Tryz.ntmps26
  go_wp2_with (go_at_call 125; refine a.mono ?_; clear a; rintro e w' ⟨rfl, rfl⟩)
  go_ret
  exact ⟨rfl, rfl⟩

set_option maxHeartbeats 400000 in
theorem gwords (h : Gone w v) : Calls Tryz.prog 28 #[v] w fun e w' => e = .returned (.int .i64 0) ∧ w' = w := by
  have a := there_gone h
  clear h
  go_enter Tryz.func28, Tryz.ntmps28
  go_wp2_with (go_at_call 125; refine a.mono ?_; clear a; rintro e w' ⟨rfl, rfl⟩)
  go_ret
  exact ⟨rfl, rfl⟩

set_option maxHeartbeats 400000 in
theorem gplaces (h : Gone w v) : Calls Tryz.prog 30 #[v] w fun e w' => e = .returned (.slice none 0 0) ∧ w' = w := by
  have a := there_gone h
  clear h
  go_enter Tryz.func30, Tryz.ntmps30
  go_wp2_with (go_at_call 125; refine a.mono ?_; clear a; rintro e w' ⟨rfl, rfl⟩)
  go_ret
  exact ⟨rfl, rfl⟩

set_option maxHeartbeats 400000 in
theorem nalloc (k : Nat) (size : Int) (w : World) : Calls Tryz.prog 108 #[.pointer none, .int .u8 k, .int .i64 size] w fun e w' => e = .returned (.tuple #[.int .i64 0, .int .i64 2]) ∧ w' = w := by
  go_enter Tryz.func108, Tryz.ntmps108
  go_wp2
  go_ret2
  exact ⟨rfl, rfl⟩

set_option maxHeartbeats 400000 in
theorem nread (i j : Int) (w : World) : Calls Tryz.prog 114 #[.pointer none, .int .i64 i, .int .i64 j] w fun e w' => e = .returned (.tuple #[.int .u64 0, .int .i64 2]) ∧ w' = w := by
  go_enter Tryz.func114, Tryz.ntmps114
  go_wp2
  go_ret2
  exact ⟨rfl, rfl⟩

set_option maxHeartbeats 400000 in
theorem nwrite (i j x : Int) (w : World) : Calls Tryz.prog 110 #[.pointer none, .int .i64 i, .int .i64 j, .int .u64 x] w fun e w' => e = .returned (.int .i64 2) ∧ w' = w := by
  go_enter Tryz.func110, Tryz.ntmps110
  go_wp2
  go_ret
  exact ⟨rfl, rfl⟩

set_option maxHeartbeats 400000 in
theorem nkind (i : Int) (w : World) : Calls Tryz.prog 115 #[.pointer none, .int .i64 i] w fun e w' => e = .returned (.tuple #[.int .u8 0, .int .i64 2]) ∧ w' = w := by
  go_enter Tryz.func115, Tryz.ntmps115
  go_wp2
  go_ret2
  exact ⟨rfl, rfl⟩

set_option maxHeartbeats 400000 in
theorem nsize (i : Int) (w : World) : Calls Tryz.prog 116 #[.pointer none, .int .i64 i] w fun e w' => e = .returned (.tuple #[.int .i64 0, .int .i64 2]) ∧ w' = w := by
  go_enter Tryz.func116, Tryz.ntmps116
  go_wp2
  go_ret2
  exact ⟨rfl, rfl⟩

set_option maxHeartbeats 400000 in
theorem nmove (i t : Int) (w : World) : Calls Tryz.prog 112 #[.pointer none, .int .i64 i, .int .i64 t] w fun e w' => e = .returned (.int .i64 2) ∧ w' = w := by
  go_enter Tryz.func112, Tryz.ntmps112
  go_wp2
  go_ret
  exact ⟨rfl, rfl⟩

set_option maxHeartbeats 400000 in
theorem ncut (t : Int) (w : World) : Calls Tryz.prog 113 #[.pointer none, .int .i64 t] w fun e w' => e = .returned (.int .i64 2) ∧ w' = w := by
  go_enter Tryz.func113, Tryz.ntmps113
  go_wp2
  go_ret
  exact ⟨rfl, rfl⟩

set_option maxHeartbeats 400000 in
theorem nused (w : World) : Calls Tryz.prog 27 #[.pointer none] w fun e w' => e = .returned (.int .i64 0) ∧ w' = w := by
  go_enter Tryz.func27, Tryz.ntmps27
  go_wp2
  go_ret
  exact ⟨rfl, rfl⟩

set_option maxHeartbeats 400000 in
theorem nwords (w : World) : Calls Tryz.prog 29 #[.pointer none] w fun e w' => e = .returned (.int .i64 0) ∧ w' = w := by
  go_enter Tryz.func29, Tryz.ntmps29
  go_wp2
  go_ret
  exact ⟨rfl, rfl⟩

set_option maxHeartbeats 400000 in
theorem nplaces (w : World) : Calls Tryz.prog 31 #[.pointer none] w fun e w' => e = .returned (.slice none 0 0) ∧ w' = w := by
  go_enter Tryz.func31, Tryz.ntmps31
  go_wp2
  go_loop [3, 4] (fun out i => out = .slice none 0 0 ∧ i = .int .i64 0) (fun _ _ => 0)
  case atStart => exact ⟨rfl, rfl⟩
  case round =>
    obtain ⟨rfl, rfl⟩ := hrel
    go_wp2
    go_ret
    exact ⟨rfl, rfl⟩

end Go.Proofs.YtampilfebmfhaaaGreatDoor
