/- A heap that is not there, and the document's; what Move may not. -/
import Derived.Test.YtligpokpdahifaaRefMove
namespace Go.Proofs.Ytligpokpdahifaa
open Go.RowKit

variable {n₀ br all en : Nat} {vo : Value} {w : World} {R : List (Ob × Value)}

/-- A heap that is not there: nil, or one that New did not make. -/
def Gone (w : World) (v : Value) : Prop := v = .pointer none ∨ ∃ z, v = .pointer (some ⟨z, 0, none⟩) ∧ w.cell? ⟨z, 0, none⟩ = some (.pointer none)

variable {v : Value}

set_option maxHeartbeats 400000 in
theorem there_gone (h : Gone w v) : Calls Try.prog 24 #[v] w fun e w' => e = .returned (.pointer none) ∧ w' = w := by
  rcases h with rfl | ⟨z, rfl, hz⟩
  · go_enter Try.func24, Try.ntmps24
    go_wp2
    go_ret
    exact ⟨rfl, rfl⟩
  · go_enter Try.func24, Try.ntmps24
    go_wp2
    go_ret
    exact ⟨rfl, rfl⟩

set_option maxHeartbeats 400000 in
theorem galloc (h : Gone w v) (k : Nat) (size : Int) : Calls Try.prog 40 #[v, .int .u8 k, .int .i64 size] w fun e w' => e = .returned (.tuple #[.int .i64 0, .int .i64 2]) ∧ w' = w := by
  have a := there_gone h
  clear h
  go_enter Try.func40, Try.ntmps40
  go_wp2_with (go_at_call 24; refine a.mono ?_; clear a; rintro e w' ⟨rfl, rfl⟩)
  go_ret2
  exact ⟨rfl, rfl⟩

set_option maxHeartbeats 400000 in
theorem gfind (h : Gone w v) (i : Int) : Calls Try.prog 80 #[v, .int .i64 i] w fun e w' => e = .returned (.tuple #[.pointer none, .int .i64 2]) ∧ w' = w := by
  have a := there_gone h
  clear h
  go_enter Try.func80, Try.ntmps80
  go_wp2_with (go_at_call 24; refine a.mono ?_; clear a; rintro e w' ⟨rfl, rfl⟩)
  go_ret2
  exact ⟨rfl, rfl⟩

set_option maxHeartbeats 400000 in
theorem gword (h : Gone w v) (i j : Int) : Calls Try.prog 66 #[v, .int .i64 i, .int .i64 j] w fun e w' => e = .returned (.tuple #[.pointer none, .int .i64 2]) ∧ w' = w := by
  have a := gfind h i
  clear h
  go_enter Try.func66, Try.ntmps66
  go_wp2_with (go_at_call 80; refine a.mono ?_; clear a; rintro e w' ⟨rfl, rfl⟩)
  go_ret2
  exact ⟨rfl, rfl⟩

set_option maxHeartbeats 400000 in
theorem gread (h : Gone w v) (i j : Int) : Calls Try.prog 73 #[v, .int .i64 i, .int .i64 j] w fun e w' => e = .returned (.tuple #[.int .u64 0, .int .i64 2]) ∧ w' = w := by
  have a := gword h i j
  clear h
  go_enter Try.func73, Try.ntmps73
  go_wp2_with (go_at_call 66; refine a.mono ?_; clear a; rintro e w' ⟨rfl, rfl⟩)
  go_ret2
  exact ⟨rfl, rfl⟩

set_option maxHeartbeats 400000 in
theorem gwrite (h : Gone w v) (i j x : Int) : Calls Try.prog 42 #[v, .int .i64 i, .int .i64 j, .int .u64 x] w fun e w' => e = .returned (.int .i64 2) ∧ w' = w := by
  have a := gword h i j
  clear h
  go_enter Try.func42, Try.ntmps42
  go_wp2_with (go_at_call 66; refine a.mono ?_; clear a; rintro e w' ⟨rfl, rfl⟩)
  go_ret
  exact ⟨rfl, rfl⟩

set_option maxHeartbeats 400000 in
theorem gkind (h : Gone w v) (i : Int) : Calls Try.prog 83 #[v, .int .i64 i] w fun e w' => e = .returned (.tuple #[.int .u8 0, .int .i64 2]) ∧ w' = w := by
  have a := gfind h i
  clear h
  go_enter Try.func83, Try.ntmps83
  go_wp2_with (go_at_call 80; refine a.mono ?_; clear a; rintro e w' ⟨rfl, rfl⟩)
  go_ret2
  exact ⟨rfl, rfl⟩

set_option maxHeartbeats 400000 in
theorem gsize (h : Gone w v) (i : Int) : Calls Try.prog 72 #[v, .int .i64 i] w fun e w' => e = .returned (.tuple #[.int .i64 0, .int .i64 2]) ∧ w' = w := by
  have a := gfind h i
  clear h
  go_enter Try.func72, Try.ntmps72
  go_wp2_with (go_at_call 80; refine a.mono ?_; clear a; rintro e w' ⟨rfl, rfl⟩)
  go_ret2
  exact ⟨rfl, rfl⟩

set_option maxHeartbeats 400000 in
theorem gused (h : Gone w v) : Calls Try.prog 8 #[v] w fun e w' => e = .returned (.int .i64 0) ∧ w' = w := by
  have a := there_gone h
  clear h
  go_enter Try.func8, Try.ntmps8
  go_wp2_with (go_at_call 24; refine a.mono ?_; clear a; rintro e w' ⟨rfl, rfl⟩)
  go_ret
  exact ⟨rfl, rfl⟩

set_option maxHeartbeats 400000 in
theorem gwords (h : Gone w v) : Calls Try.prog 39 #[v] w fun e w' => e = .returned (.int .i64 0) ∧ w' = w := by
  have a := there_gone h
  clear h
  go_enter Try.func39, Try.ntmps39
  go_wp2_with (go_at_call 24; refine a.mono ?_; clear a; rintro e w' ⟨rfl, rfl⟩)
  go_ret
  exact ⟨rfl, rfl⟩

end Go.Proofs.Ytligpokpdahifaa
