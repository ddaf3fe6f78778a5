/- The book's lists of other kinds: none is held, so nothing is done. -/
import Derived.Test.YtpjgdbeekmoedaaGreatDoorIkHold
import Derived.Test.YtpjgdbeekmoedaaGreatDoorIkLook
namespace Go.Proofs.YtpjgdbeekmoedaaGreatDoor
set_option linter.unusedVariables false
set_option linter.unusedSimpArgs false
open Go.RowKit

variable {bk n : Nat} {vp : Value} {w : World}

set_option maxRecDepth 20000 in
set_option maxHeartbeats 1000000 in
theorem fill1 (h : w.heap[bk]? = some (bookObj n vp)) : Calls Tryz.prog 31 #[.pointer (some ⟨bk, 0, none⟩)] w fun e w' => e = .returned (.tuple #[]) ∧ w' = w := by
  have hc : w.cell? ⟨bk, 2, none⟩ = some (.slice none 0 0) := by rw [cell_of_row w bk 2 _ _ _ h]; rfl
  clear h
  go_enter Tryz.func31, Tryz.ntmps31
  go_wp2
  go_loop [2] (fun k => k = .int .i64 0) (fun _ => 0)
  case atStart => rfl
  case round =>
    subst hrel
    go_wp2
    go_end0
    exact ⟨rfl, rfl⟩

set_option maxRecDepth 20000 in
set_option maxHeartbeats 1000000 in
theorem fill3 (h : w.heap[bk]? = some (bookObj n vp)) : Calls Tryz.prog 32 #[.pointer (some ⟨bk, 0, none⟩)] w fun e w' => e = .returned (.tuple #[]) ∧ w' = w := by
  have hc : w.cell? ⟨bk, 3, none⟩ = some (.slice none 0 0) := by rw [cell_of_row w bk 3 _ _ _ h]; rfl
  clear h
  go_enter Tryz.func32, Tryz.ntmps32
  go_wp2
  go_loop [2] (fun k => k = .int .i64 0) (fun _ => 0)
  case atStart => rfl
  case round =>
    subst hrel
    go_wp2
    go_end0
    exact ⟨rfl, rfl⟩

set_option maxRecDepth 20000 in
set_option maxHeartbeats 1000000 in
theorem fill4 (h : w.heap[bk]? = some (bookObj n vp)) : Calls Tryz.prog 33 #[.pointer (some ⟨bk, 0, none⟩)] w fun e w' => e = .returned (.tuple #[]) ∧ w' = w := by
  have hc : w.cell? ⟨bk, 4, none⟩ = some (.slice none 0 0) := by rw [cell_of_row w bk 4 _ _ _ h]; rfl
  clear h
  go_enter Tryz.func33, Tryz.ntmps33
  go_wp2
  go_loop [2] (fun k => k = .int .i64 0) (fun _ => 0)
  case atStart => rfl
  case round =>
    subst hrel
    go_wp2
    go_end0
    exact ⟨rfl, rfl⟩

set_option maxRecDepth 20000 in
set_option maxHeartbeats 1000000 in
theorem fill5 (h : w.heap[bk]? = some (bookObj n vp)) : Calls Tryz.prog 34 #[.pointer (some ⟨bk, 0, none⟩)] w fun e w' => e = .returned (.tuple #[]) ∧ w' = w := by
  have hc : w.cell? ⟨bk, 5, none⟩ = some (.slice none 0 0) := by rw [cell_of_row w bk 5 _ _ _ h]; rfl
  clear h
  go_enter Tryz.func34, Tryz.ntmps34
  go_wp2
  go_loop [2] (fun k => k = .int .i64 0) (fun _ => 0)
  case atStart => rfl
  case round =>
    subst hrel
    go_wp2
    go_end0
    exact ⟨rfl, rfl⟩

set_option maxRecDepth 20000 in
set_option maxHeartbeats 1000000 in
theorem fill6 (h : w.heap[bk]? = some (bookObj n vp)) : Calls Tryz.prog 35 #[.pointer (some ⟨bk, 0, none⟩)] w fun e w' => e = .returned (.tuple #[]) ∧ w' = w := by
  have hc : w.cell? ⟨bk, 6, none⟩ = some (.slice none 0 0) := by rw [cell_of_row w bk 6 _ _ _ h]; rfl
  clear h
  go_enter Tryz.func35, Tryz.ntmps35
  go_wp2
  go_loop [2] (fun k => k = .int .i64 0) (fun _ => 0)
  case atStart => rfl
  case round =>
    subst hrel
    go_wp2
    go_end0
    exact ⟨rfl, rfl⟩

set_option maxRecDepth 20000 in
set_option maxHeartbeats 1000000 in
theorem fill7 (h : w.heap[bk]? = some (bookObj n vp)) : Calls Tryz.prog 36 #[.pointer (some ⟨bk, 0, none⟩)] w fun e w' => e = .returned (.tuple #[]) ∧ w' = w := by
  have hc : w.cell? ⟨bk, 7, none⟩ = some (.slice none 0 0) := by rw [cell_of_row w bk 7 _ _ _ h]; rfl
  clear h
  go_enter Tryz.func36, Tryz.ntmps36
  go_wp2
  go_loop [2] (fun k => k = .int .i64 0) (fun _ => 0)
  case atStart => rfl
  case round =>
    subst hrel
    go_wp2
    go_end0
    exact ⟨rfl, rfl⟩

set_option maxRecDepth 20000 in
set_option maxHeartbeats 1000000 in
theorem fill8 (h : w.heap[bk]? = some (bookObj n vp)) : Calls Tryz.prog 37 #[.pointer (some ⟨bk, 0, none⟩)] w fun e w' => e = .returned (.tuple #[]) ∧ w' = w := by
  have hc : w.cell? ⟨bk, 8, none⟩ = some (.slice none 0 0) := by rw [cell_of_row w bk 8 _ _ _ h]; rfl
  clear h
  go_enter Tryz.func37, Tryz.ntmps37
  go_wp2
  go_loop [2] (fun k => k = .int .i64 0) (fun _ => 0)
  case atStart => rfl
  case round =>
    subst hrel
    go_wp2
    go_end0
    exact ⟨rfl, rfl⟩

set_option maxRecDepth 20000 in
set_option maxHeartbeats 1000000 in
theorem fill9 (h : w.heap[bk]? = some (bookObj n vp)) : Calls Tryz.prog 38 #[.pointer (some ⟨bk, 0, none⟩)] w fun e w' => e = .returned (.tuple #[]) ∧ w' = w := by
  have hc : w.cell? ⟨bk, 9, none⟩ = some (.slice none 0 0) := by rw [cell_of_row w bk 9 _ _ _ h]; rfl
  clear h
  go_enter Tryz.func38, Tryz.ntmps38
  go_wp2
  go_loop [2] (fun k => k = .int .i64 0) (fun _ => 0)
  case atStart => rfl
  case round =>
    subst hrel
    go_wp2
    go_end0
    exact ⟨rfl, rfl⟩

set_option maxRecDepth 20000 in
set_option maxHeartbeats 1000000 in
theorem fill10 (h : w.heap[bk]? = some (bookObj n vp)) : Calls Tryz.prog 39 #[.pointer (some ⟨bk, 0, none⟩)] w fun e w' => e = .returned (.tuple #[]) ∧ w' = w := by
  have hc : w.cell? ⟨bk, 10, none⟩ = some (.slice none 0 0) := by rw [cell_of_row w bk 10 _ _ _ h]; rfl
  clear h
  go_enter Tryz.func39, Tryz.ntmps39
  go_wp2
  go_loop [2] (fun k => k = .int .i64 0) (fun _ => 0)
  case atStart => rfl
  case round =>
    subst hrel
    go_wp2
    go_end0
    exact ⟨rfl, rfl⟩

set_option maxRecDepth 20000 in
set_option maxHeartbeats 1000000 in
theorem fill11 (h : w.heap[bk]? = some (bookObj n vp)) : Calls Tryz.prog 40 #[.pointer (some ⟨bk, 0, none⟩)] w fun e w' => e = .returned (.tuple #[]) ∧ w' = w := by
  have hc : w.cell? ⟨bk, 11, none⟩ = some (.slice none 0 0) := by rw [cell_of_row w bk 11 _ _ _ h]; rfl
  clear h
  go_enter Tryz.func40, Tryz.ntmps40
  go_wp2
  go_loop [2] (fun k => k = .int .i64 0) (fun _ => 0)
  case atStart => rfl
  case round =>
    subst hrel
    go_wp2
    go_end0
    exact ⟨rfl, rfl⟩

set_option maxRecDepth 20000 in
set_option maxHeartbeats 1000000 in
theorem fill12 (h : w.heap[bk]? = some (bookObj n vp)) : Calls Tryz.prog 41 #[.pointer (some ⟨bk, 0, none⟩)] w fun e w' => e = .returned (.tuple #[]) ∧ w' = w := by
  have hc : w.cell? ⟨bk, 12, none⟩ = some (.slice none 0 0) := by rw [cell_of_row w bk 12 _ _ _ h]; rfl
  clear h
  go_enter Tryz.func41, Tryz.ntmps41
  go_wp2
  go_loop [2] (fun k => k = .int .i64 0) (fun _ => 0)
  case atStart => rfl
  case round =>
    subst hrel
    go_wp2
    go_end0
    exact ⟨rfl, rfl⟩

set_option maxRecDepth 20000 in
set_option maxHeartbeats 1000000 in
theorem fill13 (h : w.heap[bk]? = some (bookObj n vp)) : Calls Tryz.prog 42 #[.pointer (some ⟨bk, 0, none⟩)] w fun e w' => e = .returned (.tuple #[]) ∧ w' = w := by
  have hc : w.cell? ⟨bk, 13, none⟩ = some (.slice none 0 0) := by rw [cell_of_row w bk 13 _ _ _ h]; rfl
  clear h
  go_enter Tryz.func42, Tryz.ntmps42
  go_wp2
  go_loop [2] (fun k => k = .int .i64 0) (fun _ => 0)
  case atStart => rfl
  case round =>
    subst hrel
    go_wp2
    go_end0
    exact ⟨rfl, rfl⟩

set_option maxRecDepth 20000 in
set_option maxHeartbeats 1000000 in
theorem fill14 (h : w.heap[bk]? = some (bookObj n vp)) : Calls Tryz.prog 43 #[.pointer (some ⟨bk, 0, none⟩)] w fun e w' => e = .returned (.tuple #[]) ∧ w' = w := by
  have hc : w.cell? ⟨bk, 14, none⟩ = some (.slice none 0 0) := by rw [cell_of_row w bk 14 _ _ _ h]; rfl
  clear h
  go_enter Tryz.func43, Tryz.ntmps43
  go_wp2
  go_loop [2] (fun k => k = .int .i64 0) (fun _ => 0)
  case atStart => rfl
  case round =>
    subst hrel
    go_wp2
    go_end0
    exact ⟨rfl, rfl⟩

set_option maxRecDepth 20000 in
set_option maxHeartbeats 1000000 in
theorem fill15 (h : w.heap[bk]? = some (bookObj n vp)) : Calls Tryz.prog 44 #[.pointer (some ⟨bk, 0, none⟩)] w fun e w' => e = .returned (.tuple #[]) ∧ w' = w := by
  have hc : w.cell? ⟨bk, 15, none⟩ = some (.slice none 0 0) := by rw [cell_of_row w bk 15 _ _ _ h]; rfl
  clear h
  go_enter Tryz.func44, Tryz.ntmps44
  go_wp2
  go_loop [2] (fun k => k = .int .i64 0) (fun _ => 0)
  case atStart => rfl
  case round =>
    subst hrel
    go_wp2
    go_end0
    exact ⟨rfl, rfl⟩

set_option maxRecDepth 20000 in
set_option maxHeartbeats 1000000 in
theorem fill16 (h : w.heap[bk]? = some (bookObj n vp)) : Calls Tryz.prog 45 #[.pointer (some ⟨bk, 0, none⟩)] w fun e w' => e = .returned (.tuple #[]) ∧ w' = w := by
  have hc : w.cell? ⟨bk, 16, none⟩ = some (.slice none 0 0) := by rw [cell_of_row w bk 16 _ _ _ h]; rfl
  clear h
  go_enter Tryz.func45, Tryz.ntmps45
  go_wp2
  go_loop [2] (fun k => k = .int .i64 0) (fun _ => 0)
  case atStart => rfl
  case round =>
    subst hrel
    go_wp2
    go_end0
    exact ⟨rfl, rfl⟩

set_option maxRecDepth 20000 in
set_option maxHeartbeats 1000000 in
theorem fill17 (h : w.heap[bk]? = some (bookObj n vp)) : Calls Tryz.prog 46 #[.pointer (some ⟨bk, 0, none⟩)] w fun e w' => e = .returned (.tuple #[]) ∧ w' = w := by
  have hc : w.cell? ⟨bk, 17, none⟩ = some (.slice none 0 0) := by rw [cell_of_row w bk 17 _ _ _ h]; rfl
  clear h
  go_enter Tryz.func46, Tryz.ntmps46
  go_wp2
  go_loop [2] (fun k => k = .int .i64 0) (fun _ => 0)
  case atStart => rfl
  case round =>
    subst hrel
    go_wp2
    go_end0
    exact ⟨rfl, rfl⟩

set_option maxRecDepth 20000 in
set_option maxHeartbeats 1000000 in
theorem fill18 (h : w.heap[bk]? = some (bookObj n vp)) : Calls Tryz.prog 47 #[.pointer (some ⟨bk, 0, none⟩)] w fun e w' => e = .returned (.tuple #[]) ∧ w' = w := by
  have hc : w.cell? ⟨bk, 18, none⟩ = some (.slice none 0 0) := by rw [cell_of_row w bk 18 _ _ _ h]; rfl
  clear h
  go_enter Tryz.func47, Tryz.ntmps47
  go_wp2
  go_loop [2] (fun k => k = .int .i64 0) (fun _ => 0)
  case atStart => rfl
  case round =>
    subst hrel
    go_wp2
    go_end0
    exact ⟨rfl, rfl⟩

set_option maxRecDepth 20000 in
set_option maxHeartbeats 1000000 in
theorem fill19 (h : w.heap[bk]? = some (bookObj n vp)) : Calls Tryz.prog 48 #[.pointer (some ⟨bk, 0, none⟩)] w fun e w' => e = .returned (.tuple #[]) ∧ w' = w := by
  have hc : w.cell? ⟨bk, 19, none⟩ = some (.slice none 0 0) := by rw [cell_of_row w bk 19 _ _ _ h]; rfl
  clear h
  go_enter Tryz.func48, Tryz.ntmps48
  go_wp2
  go_loop [2] (fun k => k = .int .i64 0) (fun _ => 0)
  case atStart => rfl
  case round =>
    subst hrel
    go_wp2
    go_end0
    exact ⟨rfl, rfl⟩

set_option maxRecDepth 20000 in
set_option maxHeartbeats 1000000 in
theorem fill20 (h : w.heap[bk]? = some (bookObj n vp)) : Calls Tryz.prog 49 #[.pointer (some ⟨bk, 0, none⟩)] w fun e w' => e = .returned (.tuple #[]) ∧ w' = w := by
  have hc : w.cell? ⟨bk, 20, none⟩ = some (.slice none 0 0) := by rw [cell_of_row w bk 20 _ _ _ h]; rfl
  clear h
  go_enter Tryz.func49, Tryz.ntmps49
  go_wp2
  go_loop [2] (fun k => k = .int .i64 0) (fun _ => 0)
  case atStart => rfl
  case round =>
    subst hrel
    go_wp2
    go_end0
    exact ⟨rfl, rfl⟩

set_option maxRecDepth 20000 in
set_option maxHeartbeats 1000000 in
theorem grow1 (h : w.heap[bk]? = some (bookObj n vp)) : Calls Tryz.prog 51 #[.pointer (some ⟨bk, 0, none⟩)] w fun e w' => e = .returned (.tuple #[]) ∧ w' = w := by
  have hc : w.cell? ⟨bk, 2, none⟩ = some (.slice none 0 0) := by rw [cell_of_row w bk 2 _ _ _ h]; rfl
  clear h
  go_enter Tryz.func51, Tryz.ntmps51
  go_wp2
  go_loop [2] (fun k => k = .int .i64 0) (fun _ => 0)
  case atStart => rfl
  case round =>
    subst hrel
    go_wp2
    go_end0
    exact ⟨rfl, rfl⟩

set_option maxRecDepth 20000 in
set_option maxHeartbeats 1000000 in
theorem grow3 (h : w.heap[bk]? = some (bookObj n vp)) : Calls Tryz.prog 52 #[.pointer (some ⟨bk, 0, none⟩)] w fun e w' => e = .returned (.tuple #[]) ∧ w' = w := by
  have hc : w.cell? ⟨bk, 3, none⟩ = some (.slice none 0 0) := by rw [cell_of_row w bk 3 _ _ _ h]; rfl
  clear h
  go_enter Tryz.func52, Tryz.ntmps52
  go_wp2
  go_loop [2] (fun k => k = .int .i64 0) (fun _ => 0)
  case atStart => rfl
  case round =>
    subst hrel
    go_wp2
    go_end0
    exact ⟨rfl, rfl⟩

set_option maxRecDepth 20000 in
set_option maxHeartbeats 1000000 in
theorem grow4 (h : w.heap[bk]? = some (bookObj n vp)) : Calls Tryz.prog 53 #[.pointer (some ⟨bk, 0, none⟩)] w fun e w' => e = .returned (.tuple #[]) ∧ w' = w := by
  have hc : w.cell? ⟨bk, 4, none⟩ = some (.slice none 0 0) := by rw [cell_of_row w bk 4 _ _ _ h]; rfl
  clear h
  go_enter Tryz.func53, Tryz.ntmps53
  go_wp2
  go_loop [2] (fun k => k = .int .i64 0) (fun _ => 0)
  case atStart => rfl
  case round =>
    subst hrel
    go_wp2
    go_end0
    exact ⟨rfl, rfl⟩

set_option maxRecDepth 20000 in
set_option maxHeartbeats 1000000 in
theorem grow5 (h : w.heap[bk]? = some (bookObj n vp)) : Calls Tryz.prog 54 #[.pointer (some ⟨bk, 0, none⟩)] w fun e w' => e = .returned (.tuple #[]) ∧ w' = w := by
  have hc : w.cell? ⟨bk, 5, none⟩ = some (.slice none 0 0) := by rw [cell_of_row w bk 5 _ _ _ h]; rfl
  clear h
  go_enter Tryz.func54, Tryz.ntmps54
  go_wp2
  go_loop [2] (fun k => k = .int .i64 0) (fun _ => 0)
  case atStart => rfl
  case round =>
    subst hrel
    go_wp2
    go_end0
    exact ⟨rfl, rfl⟩

set_option maxRecDepth 20000 in
set_option maxHeartbeats 1000000 in
theorem grow6 (h : w.heap[bk]? = some (bookObj n vp)) : Calls Tryz.prog 55 #[.pointer (some ⟨bk, 0, none⟩)] w fun e w' => e = .returned (.tuple #[]) ∧ w' = w := by
  have hc : w.cell? ⟨bk, 6, none⟩ = some (.slice none 0 0) := by rw [cell_of_row w bk 6 _ _ _ h]; rfl
  clear h
  go_enter Tryz.func55, Tryz.ntmps55
  go_wp2
  go_loop [2] (fun k => k = .int .i64 0) (fun _ => 0)
  case atStart => rfl
  case round =>
    subst hrel
    go_wp2
    go_end0
    exact ⟨rfl, rfl⟩

set_option maxRecDepth 20000 in
set_option maxHeartbeats 1000000 in
theorem grow7 (h : w.heap[bk]? = some (bookObj n vp)) : Calls Tryz.prog 56 #[.pointer (some ⟨bk, 0, none⟩)] w fun e w' => e = .returned (.tuple #[]) ∧ w' = w := by
  have hc : w.cell? ⟨bk, 7, none⟩ = some (.slice none 0 0) := by rw [cell_of_row w bk 7 _ _ _ h]; rfl
  clear h
  go_enter Tryz.func56, Tryz.ntmps56
  go_wp2
  go_loop [2] (fun k => k = .int .i64 0) (fun _ => 0)
  case atStart => rfl
  case round =>
    subst hrel
    go_wp2
    go_end0
    exact ⟨rfl, rfl⟩

set_option maxRecDepth 20000 in
set_option maxHeartbeats 1000000 in
theorem grow8 (h : w.heap[bk]? = some (bookObj n vp)) : Calls Tryz.prog 57 #[.pointer (some ⟨bk, 0, none⟩)] w fun e w' => e = .returned (.tuple #[]) ∧ w' = w := by
  have hc : w.cell? ⟨bk, 8, none⟩ = some (.slice none 0 0) := by rw [cell_of_row w bk 8 _ _ _ h]; rfl
  clear h
  go_enter Tryz.func57, Tryz.ntmps57
  go_wp2
  go_loop [2] (fun k => k = .int .i64 0) (fun _ => 0)
  case atStart => rfl
  case round =>
    subst hrel
    go_wp2
    go_end0
    exact ⟨rfl, rfl⟩

set_option maxRecDepth 20000 in
set_option maxHeartbeats 1000000 in
theorem grow9 (h : w.heap[bk]? = some (bookObj n vp)) : Calls Tryz.prog 58 #[.pointer (some ⟨bk, 0, none⟩)] w fun e w' => e = .returned (.tuple #[]) ∧ w' = w := by
  have hc : w.cell? ⟨bk, 9, none⟩ = some (.slice none 0 0) := by rw [cell_of_row w bk 9 _ _ _ h]; rfl
  clear h
  go_enter Tryz.func58, Tryz.ntmps58
  go_wp2
  go_loop [2] (fun k => k = .int .i64 0) (fun _ => 0)
  case atStart => rfl
  case round =>
    subst hrel
    go_wp2
    go_end0
    exact ⟨rfl, rfl⟩

set_option maxRecDepth 20000 in
set_option maxHeartbeats 1000000 in
theorem grow10 (h : w.heap[bk]? = some (bookObj n vp)) : Calls Tryz.prog 59 #[.pointer (some ⟨bk, 0, none⟩)] w fun e w' => e = .returned (.tuple #[]) ∧ w' = w := by
  have hc : w.cell? ⟨bk, 10, none⟩ = some (.slice none 0 0) := by rw [cell_of_row w bk 10 _ _ _ h]; rfl
  clear h
  go_enter Tryz.func59, Tryz.ntmps59
  go_wp2
  go_loop [2] (fun k => k = .int .i64 0) (fun _ => 0)
  case atStart => rfl
  case round =>
    subst hrel
    go_wp2
    go_end0
    exact ⟨rfl, rfl⟩

set_option maxRecDepth 20000 in
set_option maxHeartbeats 1000000 in
theorem grow11 (h : w.heap[bk]? = some (bookObj n vp)) : Calls Tryz.prog 60 #[.pointer (some ⟨bk, 0, none⟩)] w fun e w' => e = .returned (.tuple #[]) ∧ w' = w := by
  have hc : w.cell? ⟨bk, 11, none⟩ = some (.slice none 0 0) := by rw [cell_of_row w bk 11 _ _ _ h]; rfl
  clear h
  go_enter Tryz.func60, Tryz.ntmps60
  go_wp2
  go_loop [2] (fun k => k = .int .i64 0) (fun _ => 0)
  case atStart => rfl
  case round =>
    subst hrel
    go_wp2
    go_end0
    exact ⟨rfl, rfl⟩

set_option maxRecDepth 20000 in
set_option maxHeartbeats 1000000 in
theorem grow12 (h : w.heap[bk]? = some (bookObj n vp)) : Calls Tryz.prog 61 #[.pointer (some ⟨bk, 0, none⟩)] w fun e w' => e = .returned (.tuple #[]) ∧ w' = w := by
  have hc : w.cell? ⟨bk, 12, none⟩ = some (.slice none 0 0) := by rw [cell_of_row w bk 12 _ _ _ h]; rfl
  clear h
  go_enter Tryz.func61, Tryz.ntmps61
  go_wp2
  go_loop [2] (fun k => k = .int .i64 0) (fun _ => 0)
  case atStart => rfl
  case round =>
    subst hrel
    go_wp2
    go_end0
    exact ⟨rfl, rfl⟩

set_option maxRecDepth 20000 in
set_option maxHeartbeats 1000000 in
theorem grow13 (h : w.heap[bk]? = some (bookObj n vp)) : Calls Tryz.prog 62 #[.pointer (some ⟨bk, 0, none⟩)] w fun e w' => e = .returned (.tuple #[]) ∧ w' = w := by
  have hc : w.cell? ⟨bk, 13, none⟩ = some (.slice none 0 0) := by rw [cell_of_row w bk 13 _ _ _ h]; rfl
  clear h
  go_enter Tryz.func62, Tryz.ntmps62
  go_wp2
  go_loop [2] (fun k => k = .int .i64 0) (fun _ => 0)
  case atStart => rfl
  case round =>
    subst hrel
    go_wp2
    go_end0
    exact ⟨rfl, rfl⟩

set_option maxRecDepth 20000 in
set_option maxHeartbeats 1000000 in
theorem grow14 (h : w.heap[bk]? = some (bookObj n vp)) : Calls Tryz.prog 63 #[.pointer (some ⟨bk, 0, none⟩)] w fun e w' => e = .returned (.tuple #[]) ∧ w' = w := by
  have hc : w.cell? ⟨bk, 14, none⟩ = some (.slice none 0 0) := by rw [cell_of_row w bk 14 _ _ _ h]; rfl
  clear h
  go_enter Tryz.func63, Tryz.ntmps63
  go_wp2
  go_loop [2] (fun k => k = .int .i64 0) (fun _ => 0)
  case atStart => rfl
  case round =>
    subst hrel
    go_wp2
    go_end0
    exact ⟨rfl, rfl⟩

set_option maxRecDepth 20000 in
set_option maxHeartbeats 1000000 in
theorem grow15 (h : w.heap[bk]? = some (bookObj n vp)) : Calls Tryz.prog 64 #[.pointer (some ⟨bk, 0, none⟩)] w fun e w' => e = .returned (.tuple #[]) ∧ w' = w := by
  have hc : w.cell? ⟨bk, 15, none⟩ = some (.slice none 0 0) := by rw [cell_of_row w bk 15 _ _ _ h]; rfl
  clear h
  go_enter Tryz.func64, Tryz.ntmps64
  go_wp2
  go_loop [2] (fun k => k = .int .i64 0) (fun _ => 0)
  case atStart => rfl
  case round =>
    subst hrel
    go_wp2
    go_end0
    exact ⟨rfl, rfl⟩

set_option maxRecDepth 20000 in
set_option maxHeartbeats 1000000 in
theorem grow16 (h : w.heap[bk]? = some (bookObj n vp)) : Calls Tryz.prog 65 #[.pointer (some ⟨bk, 0, none⟩)] w fun e w' => e = .returned (.tuple #[]) ∧ w' = w := by
  have hc : w.cell? ⟨bk, 16, none⟩ = some (.slice none 0 0) := by rw [cell_of_row w bk 16 _ _ _ h]; rfl
  clear h
  go_enter Tryz.func65, Tryz.ntmps65
  go_wp2
  go_loop [2] (fun k => k = .int .i64 0) (fun _ => 0)
  case atStart => rfl
  case round =>
    subst hrel
    go_wp2
    go_end0
    exact ⟨rfl, rfl⟩

set_option maxRecDepth 20000 in
set_option maxHeartbeats 1000000 in
theorem grow17 (h : w.heap[bk]? = some (bookObj n vp)) : Calls Tryz.prog 66 #[.pointer (some ⟨bk, 0, none⟩)] w fun e w' => e = .returned (.tuple #[]) ∧ w' = w := by
  have hc : w.cell? ⟨bk, 17, none⟩ = some (.slice none 0 0) := by rw [cell_of_row w bk 17 _ _ _ h]; rfl
  clear h
  go_enter Tryz.func66, Tryz.ntmps66
  go_wp2
  go_loop [2] (fun k => k = .int .i64 0) (fun _ => 0)
  case atStart => rfl
  case round =>
    subst hrel
    go_wp2
    go_end0
    exact ⟨rfl, rfl⟩

set_option maxRecDepth 20000 in
set_option maxHeartbeats 1000000 in
theorem grow18 (h : w.heap[bk]? = some (bookObj n vp)) : Calls Tryz.prog 67 #[.pointer (some ⟨bk, 0, none⟩)] w fun e w' => e = .returned (.tuple #[]) ∧ w' = w := by
  have hc : w.cell? ⟨bk, 18, none⟩ = some (.slice none 0 0) := by rw [cell_of_row w bk 18 _ _ _ h]; rfl
  clear h
  go_enter Tryz.func67, Tryz.ntmps67
  go_wp2
  go_loop [2] (fun k => k = .int .i64 0) (fun _ => 0)
  case atStart => rfl
  case round =>
    subst hrel
    go_wp2
    go_end0
    exact ⟨rfl, rfl⟩

set_option maxRecDepth 20000 in
set_option maxHeartbeats 1000000 in
theorem grow19 (h : w.heap[bk]? = some (bookObj n vp)) : Calls Tryz.prog 68 #[.pointer (some ⟨bk, 0, none⟩)] w fun e w' => e = .returned (.tuple #[]) ∧ w' = w := by
  have hc : w.cell? ⟨bk, 19, none⟩ = some (.slice none 0 0) := by rw [cell_of_row w bk 19 _ _ _ h]; rfl
  clear h
  go_enter Tryz.func68, Tryz.ntmps68
  go_wp2
  go_loop [2] (fun k => k = .int .i64 0) (fun _ => 0)
  case atStart => rfl
  case round =>
    subst hrel
    go_wp2
    go_end0
    exact ⟨rfl, rfl⟩

set_option maxRecDepth 20000 in
set_option maxHeartbeats 1000000 in
theorem grow20 (h : w.heap[bk]? = some (bookObj n vp)) : Calls Tryz.prog 69 #[.pointer (some ⟨bk, 0, none⟩)] w fun e w' => e = .returned (.tuple #[]) ∧ w' = w := by
  have hc : w.cell? ⟨bk, 20, none⟩ = some (.slice none 0 0) := by rw [cell_of_row w bk 20 _ _ _ h]; rfl
  clear h
  go_enter Tryz.func69, Tryz.ntmps69
  go_wp2
  go_loop [2] (fun k => k = .int .i64 0) (fun _ => 0)
  case atStart => rfl
  case round =>
    subst hrel
    go_wp2
    go_end0
    exact ⟨rfl, rfl⟩

set_option maxRecDepth 20000 in
set_option maxHeartbeats 1000000 in
theorem look1 (h : w.heap[bk]? = some (bookObj n vp)) : Calls Tryz.prog 71 #[.pointer (some ⟨bk, 0, none⟩)] w fun e w' => e = .returned (.bool true) ∧ w' = w := by
  have hc : w.cell? ⟨bk, 2, none⟩ = some (.slice none 0 0) := by rw [cell_of_row w bk 2 _ _ _ h]; rfl
  clear h
  go_enter Tryz.func71, Tryz.ntmps71
  go_wp2
  go_loop [3] (fun k => k = .int .i64 0) (fun _ => 0)
  case atStart => rfl
  case round =>
    subst hrel
    go_wp2
    go_ret
    exact ⟨rfl, rfl⟩

set_option maxRecDepth 20000 in
set_option maxHeartbeats 1000000 in
theorem look3 (h : w.heap[bk]? = some (bookObj n vp)) : Calls Tryz.prog 72 #[.pointer (some ⟨bk, 0, none⟩)] w fun e w' => e = .returned (.bool true) ∧ w' = w := by
  have hc : w.cell? ⟨bk, 3, none⟩ = some (.slice none 0 0) := by rw [cell_of_row w bk 3 _ _ _ h]; rfl
  clear h
  go_enter Tryz.func72, Tryz.ntmps72
  go_wp2
  go_loop [3] (fun k => k = .int .i64 0) (fun _ => 0)
  case atStart => rfl
  case round =>
    subst hrel
    go_wp2
    go_ret
    exact ⟨rfl, rfl⟩

set_option maxRecDepth 20000 in
set_option maxHeartbeats 1000000 in
theorem look4 (h : w.heap[bk]? = some (bookObj n vp)) : Calls Tryz.prog 73 #[.pointer (some ⟨bk, 0, none⟩)] w fun e w' => e = .returned (.bool true) ∧ w' = w := by
  have hc : w.cell? ⟨bk, 4, none⟩ = some (.slice none 0 0) := by rw [cell_of_row w bk 4 _ _ _ h]; rfl
  clear h
  go_enter Tryz.func73, Tryz.ntmps73
  go_wp2
  go_loop [3] (fun k => k = .int .i64 0) (fun _ => 0)
  case atStart => rfl
  case round =>
    subst hrel
    go_wp2
    go_ret
    exact ⟨rfl, rfl⟩

set_option maxRecDepth 20000 in
set_option maxHeartbeats 1000000 in
theorem look5 (h : w.heap[bk]? = some (bookObj n vp)) : Calls Tryz.prog 74 #[.pointer (some ⟨bk, 0, none⟩)] w fun e w' => e = .returned (.bool true) ∧ w' = w := by
  have hc : w.cell? ⟨bk, 5, none⟩ = some (.slice none 0 0) := by rw [cell_of_row w bk 5 _ _ _ h]; rfl
  clear h
  go_enter Tryz.func74, Tryz.ntmps74
  go_wp2
  go_loop [3] (fun k => k = .int .i64 0) (fun _ => 0)
  case atStart => rfl
  case round =>
    subst hrel
    go_wp2
    go_ret
    exact ⟨rfl, rfl⟩

set_option maxRecDepth 20000 in
set_option maxHeartbeats 1000000 in
theorem look6 (h : w.heap[bk]? = some (bookObj n vp)) : Calls Tryz.prog 75 #[.pointer (some ⟨bk, 0, none⟩)] w fun e w' => e = .returned (.bool true) ∧ w' = w := by
  have hc : w.cell? ⟨bk, 6, none⟩ = some (.slice none 0 0) := by rw [cell_of_row w bk 6 _ _ _ h]; rfl
  clear h
  go_enter Tryz.func75, Tryz.ntmps75
  go_wp2
  go_loop [3] (fun k => k = .int .i64 0) (fun _ => 0)
  case atStart => rfl
  case round =>
    subst hrel
    go_wp2
    go_ret
    exact ⟨rfl, rfl⟩

set_option maxRecDepth 20000 in
set_option maxHeartbeats 1000000 in
theorem look7 (h : w.heap[bk]? = some (bookObj n vp)) : Calls Tryz.prog 76 #[.pointer (some ⟨bk, 0, none⟩)] w fun e w' => e = .returned (.bool true) ∧ w' = w := by
  have hc : w.cell? ⟨bk, 7, none⟩ = some (.slice none 0 0) := by rw [cell_of_row w bk 7 _ _ _ h]; rfl
  clear h
  go_enter Tryz.func76, Tryz.ntmps76
  go_wp2
  go_loop [3] (fun k => k = .int .i64 0) (fun _ => 0)
  case atStart => rfl
  case round =>
    subst hrel
    go_wp2
    go_ret
    exact ⟨rfl, rfl⟩

set_option maxRecDepth 20000 in
set_option maxHeartbeats 1000000 in
theorem look8 (h : w.heap[bk]? = some (bookObj n vp)) : Calls Tryz.prog 77 #[.pointer (some ⟨bk, 0, none⟩)] w fun e w' => e = .returned (.bool true) ∧ w' = w := by
  have hc : w.cell? ⟨bk, 8, none⟩ = some (.slice none 0 0) := by rw [cell_of_row w bk 8 _ _ _ h]; rfl
  clear h
  go_enter Tryz.func77, Tryz.ntmps77
  go_wp2
  go_loop [3] (fun k => k = .int .i64 0) (fun _ => 0)
  case atStart => rfl
  case round =>
    subst hrel
    go_wp2
    go_ret
    exact ⟨rfl, rfl⟩

set_option maxRecDepth 20000 in
set_option maxHeartbeats 1000000 in
theorem look9 (h : w.heap[bk]? = some (bookObj n vp)) : Calls Tryz.prog 78 #[.pointer (some ⟨bk, 0, none⟩)] w fun e w' => e = .returned (.bool true) ∧ w' = w := by
  have hc : w.cell? ⟨bk, 9, none⟩ = some (.slice none 0 0) := by rw [cell_of_row w bk 9 _ _ _ h]; rfl
  clear h
  go_enter Tryz.func78, Tryz.ntmps78
  go_wp2
  go_loop [3] (fun k => k = .int .i64 0) (fun _ => 0)
  case atStart => rfl
  case round =>
    subst hrel
    go_wp2
    go_ret
    exact ⟨rfl, rfl⟩

set_option maxRecDepth 20000 in
set_option maxHeartbeats 1000000 in
theorem look10 (h : w.heap[bk]? = some (bookObj n vp)) : Calls Tryz.prog 79 #[.pointer (some ⟨bk, 0, none⟩)] w fun e w' => e = .returned (.bool true) ∧ w' = w := by
  have hc : w.cell? ⟨bk, 10, none⟩ = some (.slice none 0 0) := by rw [cell_of_row w bk 10 _ _ _ h]; rfl
  clear h
  go_enter Tryz.func79, Tryz.ntmps79
  go_wp2
  go_loop [3] (fun k => k = .int .i64 0) (fun _ => 0)
  case atStart => rfl
  case round =>
    subst hrel
    go_wp2
    go_ret
    exact ⟨rfl, rfl⟩

set_option maxRecDepth 20000 in
set_option maxHeartbeats 1000000 in
theorem look11 (h : w.heap[bk]? = some (bookObj n vp)) : Calls Tryz.prog 80 #[.pointer (some ⟨bk, 0, none⟩)] w fun e w' => e = .returned (.bool true) ∧ w' = w := by
  have hc : w.cell? ⟨bk, 11, none⟩ = some (.slice none 0 0) := by rw [cell_of_row w bk 11 _ _ _ h]; rfl
  clear h
  go_enter Tryz.func80, Tryz.ntmps80
  go_wp2
  go_loop [3] (fun k => k = .int .i64 0) (fun _ => 0)
  case atStart => rfl
  case round =>
    subst hrel
    go_wp2
    go_ret
    exact ⟨rfl, rfl⟩

set_option maxRecDepth 20000 in
set_option maxHeartbeats 1000000 in
theorem look12 (h : w.heap[bk]? = some (bookObj n vp)) : Calls Tryz.prog 81 #[.pointer (some ⟨bk, 0, none⟩)] w fun e w' => e = .returned (.bool true) ∧ w' = w := by
  have hc : w.cell? ⟨bk, 12, none⟩ = some (.slice none 0 0) := by rw [cell_of_row w bk 12 _ _ _ h]; rfl
  clear h
  go_enter Tryz.func81, Tryz.ntmps81
  go_wp2
  go_loop [3] (fun k => k = .int .i64 0) (fun _ => 0)
  case atStart => rfl
  case round =>
    subst hrel
    go_wp2
    go_ret
    exact ⟨rfl, rfl⟩

set_option maxRecDepth 20000 in
set_option maxHeartbeats 1000000 in
theorem look13 (h : w.heap[bk]? = some (bookObj n vp)) : Calls Tryz.prog 82 #[.pointer (some ⟨bk, 0, none⟩)] w fun e w' => e = .returned (.bool true) ∧ w' = w := by
  have hc : w.cell? ⟨bk, 13, none⟩ = some (.slice none 0 0) := by rw [cell_of_row w bk 13 _ _ _ h]; rfl
  clear h
  go_enter Tryz.func82, Tryz.ntmps82
  go_wp2
  go_loop [3] (fun k => k = .int .i64 0) (fun _ => 0)
  case atStart => rfl
  case round =>
    subst hrel
    go_wp2
    go_ret
    exact ⟨rfl, rfl⟩

set_option maxRecDepth 20000 in
set_option maxHeartbeats 1000000 in
theorem look14 (h : w.heap[bk]? = some (bookObj n vp)) : Calls Tryz.prog 83 #[.pointer (some ⟨bk, 0, none⟩)] w fun e w' => e = .returned (.bool true) ∧ w' = w := by
  have hc : w.cell? ⟨bk, 14, none⟩ = some (.slice none 0 0) := by rw [cell_of_row w bk 14 _ _ _ h]; rfl
  clear h
  go_enter Tryz.func83, Tryz.ntmps83
  go_wp2
  go_loop [3] (fun k => k = .int .i64 0) (fun _ => 0)
  case atStart => rfl
  case round =>
    subst hrel
    go_wp2
    go_ret
    exact ⟨rfl, rfl⟩

set_option maxRecDepth 20000 in
set_option maxHeartbeats 1000000 in
theorem look15 (h : w.heap[bk]? = some (bookObj n vp)) : Calls Tryz.prog 84 #[.pointer (some ⟨bk, 0, none⟩)] w fun e w' => e = .returned (.bool true) ∧ w' = w := by
  have hc : w.cell? ⟨bk, 15, none⟩ = some (.slice none 0 0) := by rw [cell_of_row w bk 15 _ _ _ h]; rfl
  clear h
  go_enter Tryz.func84, Tryz.ntmps84
  go_wp2
  go_loop [3] (fun k => k = .int .i64 0) (fun _ => 0)
  case atStart => rfl
  case round =>
    subst hrel
    go_wp2
    go_ret
    exact ⟨rfl, rfl⟩

set_option maxRecDepth 20000 in
set_option maxHeartbeats 1000000 in
theorem look16 (h : w.heap[bk]? = some (bookObj n vp)) : Calls Tryz.prog 85 #[.pointer (some ⟨bk, 0, none⟩)] w fun e w' => e = .returned (.bool true) ∧ w' = w := by
  have hc : w.cell? ⟨bk, 16, none⟩ = some (.slice none 0 0) := by rw [cell_of_row w bk 16 _ _ _ h]; rfl
  clear h
  go_enter Tryz.func85, Tryz.ntmps85
  go_wp2
  go_loop [3] (fun k => k = .int .i64 0) (fun _ => 0)
  case atStart => rfl
  case round =>
    subst hrel
    go_wp2
    go_ret
    exact ⟨rfl, rfl⟩

set_option maxRecDepth 20000 in
set_option maxHeartbeats 1000000 in
theorem look17 (h : w.heap[bk]? = some (bookObj n vp)) : Calls Tryz.prog 86 #[.pointer (some ⟨bk, 0, none⟩)] w fun e w' => e = .returned (.bool true) ∧ w' = w := by
  have hc : w.cell? ⟨bk, 17, none⟩ = some (.slice none 0 0) := by rw [cell_of_row w bk 17 _ _ _ h]; rfl
  clear h
  go_enter Tryz.func86, Tryz.ntmps86
  go_wp2
  go_loop [3] (fun k => k = .int .i64 0) (fun _ => 0)
  case atStart => rfl
  case round =>
    subst hrel
    go_wp2
    go_ret
    exact ⟨rfl, rfl⟩

set_option maxRecDepth 20000 in
set_option maxHeartbeats 1000000 in
theorem look18 (h : w.heap[bk]? = some (bookObj n vp)) : Calls Tryz.prog 87 #[.pointer (some ⟨bk, 0, none⟩)] w fun e w' => e = .returned (.bool true) ∧ w' = w := by
  have hc : w.cell? ⟨bk, 18, none⟩ = some (.slice none 0 0) := by rw [cell_of_row w bk 18 _ _ _ h]; rfl
  clear h
  go_enter Tryz.func87, Tryz.ntmps87
  go_wp2
  go_loop [3] (fun k => k = .int .i64 0) (fun _ => 0)
  case atStart => rfl
  case round =>
    subst hrel
    go_wp2
    go_ret
    exact ⟨rfl, rfl⟩

set_option maxRecDepth 20000 in
set_option maxHeartbeats 1000000 in
theorem look19 (h : w.heap[bk]? = some (bookObj n vp)) : Calls Tryz.prog 88 #[.pointer (some ⟨bk, 0, none⟩)] w fun e w' => e = .returned (.bool true) ∧ w' = w := by
  have hc : w.cell? ⟨bk, 19, none⟩ = some (.slice none 0 0) := by rw [cell_of_row w bk 19 _ _ _ h]; rfl
  clear h
  go_enter Tryz.func88, Tryz.ntmps88
  go_wp2
  go_loop [3] (fun k => k = .int .i64 0) (fun _ => 0)
  case atStart => rfl
  case round =>
    subst hrel
    go_wp2
    go_ret
    exact ⟨rfl, rfl⟩

set_option maxRecDepth 20000 in
set_option maxHeartbeats 1000000 in
theorem look20 (h : w.heap[bk]? = some (bookObj n vp)) : Calls Tryz.prog 89 #[.pointer (some ⟨bk, 0, none⟩)] w fun e w' => e = .returned (.bool true) ∧ w' = w := by
  have hc : w.cell? ⟨bk, 20, none⟩ = some (.slice none 0 0) := by rw [cell_of_row w bk 20 _ _ _ h]; rfl
  clear h
  go_enter Tryz.func89, Tryz.ntmps89
  go_wp2
  go_loop [3] (fun k => k = .int .i64 0) (fun _ => 0)
  case atStart => rfl
  case round =>
    subst hrel
    go_wp2
    go_ret
    exact ⟨rfl, rfl⟩

end Go.Proofs.YtpjgdbeekmoedaaGreatDoor

namespace Go.Proofs.YtpjgdbeekmoedaaGreatDoor
set_option linter.unusedVariables false
set_option linter.unusedSimpArgs false
open Go.RowKit

variable {n₀ bk : Nat} {vp : Value} {w : World} {H : List He}

set_option maxRecDepth 20000 in
set_option maxHeartbeats 4000000 in
theorem apart_all (h : IsBk n₀ bk vp w H) (hA : ∀ x ∈ H, HA n₀ w x) (hP : Apt H) : Calls Tryz.prog 13 #[.pointer (some ⟨bk, 0, none⟩)] w fun e w' => e = .returned (.bool true) ∧
    KStep (fun k => mineH H k ∨ vp.ownBlock = some k) w w' := by
  have a34 := fill_place h hA hP
  have bb := h.blk
  clear h hA
  go_enter Tryz.func13, Tryz.ntmps13
  go_wp2_with ((go_at_call 30; refine a34.mono ?_; clear a34; rintro e w1 ⟨rfl, hb1, hB1, hK1⟩; have a54 := grow_place hb1 hB1 hP; have bb := hb1.blk))
  go_wp2_with ((go_at_call 31; refine (fill1 bb).mono ?_; rintro e W ⟨rfl, rfl⟩))
  go_wp2_with ((go_at_call 32; refine (fill3 bb).mono ?_; rintro e W ⟨rfl, rfl⟩))
  go_wp2_with ((go_at_call 33; refine (fill4 bb).mono ?_; rintro e W ⟨rfl, rfl⟩))
  go_wp2_with ((go_at_call 34; refine (fill5 bb).mono ?_; rintro e W ⟨rfl, rfl⟩))
  go_wp2_with ((go_at_call 35; refine (fill6 bb).mono ?_; rintro e W ⟨rfl, rfl⟩))
  go_wp2_with ((go_at_call 36; refine (fill7 bb).mono ?_; rintro e W ⟨rfl, rfl⟩))
  go_wp2_with ((go_at_call 37; refine (fill8 bb).mono ?_; rintro e W ⟨rfl, rfl⟩))
  go_wp2_with ((go_at_call 38; refine (fill9 bb).mono ?_; rintro e W ⟨rfl, rfl⟩))
  go_wp2_with ((go_at_call 39; refine (fill10 bb).mono ?_; rintro e W ⟨rfl, rfl⟩))
  go_wp2_with ((go_at_call 40; refine (fill11 bb).mono ?_; rintro e W ⟨rfl, rfl⟩))
  go_wp2_with ((go_at_call 41; refine (fill12 bb).mono ?_; rintro e W ⟨rfl, rfl⟩))
  go_wp2_with ((go_at_call 42; refine (fill13 bb).mono ?_; rintro e W ⟨rfl, rfl⟩))
  go_wp2_with ((go_at_call 43; refine (fill14 bb).mono ?_; rintro e W ⟨rfl, rfl⟩))
  go_wp2_with ((go_at_call 44; refine (fill15 bb).mono ?_; rintro e W ⟨rfl, rfl⟩))
  go_wp2_with ((go_at_call 45; refine (fill16 bb).mono ?_; rintro e W ⟨rfl, rfl⟩))
  go_wp2_with ((go_at_call 46; refine (fill17 bb).mono ?_; rintro e W ⟨rfl, rfl⟩))
  go_wp2_with ((go_at_call 47; refine (fill18 bb).mono ?_; rintro e W ⟨rfl, rfl⟩))
  go_wp2_with ((go_at_call 48; refine (fill19 bb).mono ?_; rintro e W ⟨rfl, rfl⟩))
  go_wp2_with ((go_at_call 49; refine (fill20 bb).mono ?_; rintro e W ⟨rfl, rfl⟩))
  go_wp2_with ((go_at_call 50; refine a54.mono ?_; clear a54; rintro e w2 ⟨rfl, H', hb2, hC2, hK2⟩; clear bb; have a74 := look_place hb2 hC2; have bb := hb2.blk))
  go_wp2_with ((go_at_call 51; refine (grow1 bb).mono ?_; rintro e W ⟨rfl, rfl⟩))
  go_wp2_with ((go_at_call 52; refine (grow3 bb).mono ?_; rintro e W ⟨rfl, rfl⟩))
  go_wp2_with ((go_at_call 53; refine (grow4 bb).mono ?_; rintro e W ⟨rfl, rfl⟩))
  go_wp2_with ((go_at_call 54; refine (grow5 bb).mono ?_; rintro e W ⟨rfl, rfl⟩))
  go_wp2_with ((go_at_call 55; refine (grow6 bb).mono ?_; rintro e W ⟨rfl, rfl⟩))
  go_wp2_with ((go_at_call 56; refine (grow7 bb).mono ?_; rintro e W ⟨rfl, rfl⟩))
  go_wp2_with ((go_at_call 57; refine (grow8 bb).mono ?_; rintro e W ⟨rfl, rfl⟩))
  go_wp2_with ((go_at_call 58; refine (grow9 bb).mono ?_; rintro e W ⟨rfl, rfl⟩))
  go_wp2_with ((go_at_call 59; refine (grow10 bb).mono ?_; rintro e W ⟨rfl, rfl⟩))
  go_wp2_with ((go_at_call 60; refine (grow11 bb).mono ?_; rintro e W ⟨rfl, rfl⟩))
  go_wp2_with ((go_at_call 61; refine (grow12 bb).mono ?_; rintro e W ⟨rfl, rfl⟩))
  go_wp2_with ((go_at_call 62; refine (grow13 bb).mono ?_; rintro e W ⟨rfl, rfl⟩))
  go_wp2_with ((go_at_call 63; refine (grow14 bb).mono ?_; rintro e W ⟨rfl, rfl⟩))
  go_wp2_with ((go_at_call 64; refine (grow15 bb).mono ?_; rintro e W ⟨rfl, rfl⟩))
  go_wp2_with ((go_at_call 65; refine (grow16 bb).mono ?_; rintro e W ⟨rfl, rfl⟩))
  go_wp2_with ((go_at_call 66; refine (grow17 bb).mono ?_; rintro e W ⟨rfl, rfl⟩))
  go_wp2_with ((go_at_call 67; refine (grow18 bb).mono ?_; rintro e W ⟨rfl, rfl⟩))
  go_wp2_with ((go_at_call 68; refine (grow19 bb).mono ?_; rintro e W ⟨rfl, rfl⟩))
  go_wp2_with ((go_at_call 69; refine (grow20 bb).mono ?_; rintro e W ⟨rfl, rfl⟩))
  go_wp2_with ((go_at_call 70; refine a74.mono ?_; clear a74; rintro e w3 ⟨rfl, hB3⟩; clear bb; have bb := (hB3.block _ hb2.lt).trans hb2.blk))
  go_wp2_with ((go_at_call 71; refine (look1 bb).mono ?_; rintro e W ⟨rfl, rfl⟩))
  go_wp2_with ((go_at_call 72; refine (look3 bb).mono ?_; rintro e W ⟨rfl, rfl⟩))
  go_wp2_with ((go_at_call 73; refine (look4 bb).mono ?_; rintro e W ⟨rfl, rfl⟩))
  go_wp2_with ((go_at_call 74; refine (look5 bb).mono ?_; rintro e W ⟨rfl, rfl⟩))
  go_wp2_with ((go_at_call 75; refine (look6 bb).mono ?_; rintro e W ⟨rfl, rfl⟩))
  go_wp2_with ((go_at_call 76; refine (look7 bb).mono ?_; rintro e W ⟨rfl, rfl⟩))
  go_wp2_with ((go_at_call 77; refine (look8 bb).mono ?_; rintro e W ⟨rfl, rfl⟩))
  go_wp2_with ((go_at_call 78; refine (look9 bb).mono ?_; rintro e W ⟨rfl, rfl⟩))
  go_wp2_with ((go_at_call 79; refine (look10 bb).mono ?_; rintro e W ⟨rfl, rfl⟩))
  go_wp2_with ((go_at_call 80; refine (look11 bb).mono ?_; rintro e W ⟨rfl, rfl⟩))
  go_wp2_with ((go_at_call 81; refine (look12 bb).mono ?_; rintro e W ⟨rfl, rfl⟩))
  go_wp2_with ((go_at_call 82; refine (look13 bb).mono ?_; rintro e W ⟨rfl, rfl⟩))
  go_wp2_with ((go_at_call 83; refine (look14 bb).mono ?_; rintro e W ⟨rfl, rfl⟩))
  go_wp2_with ((go_at_call 84; refine (look15 bb).mono ?_; rintro e W ⟨rfl, rfl⟩))
  go_wp2_with ((go_at_call 85; refine (look16 bb).mono ?_; rintro e W ⟨rfl, rfl⟩))
  go_wp2_with ((go_at_call 86; refine (look17 bb).mono ?_; rintro e W ⟨rfl, rfl⟩))
  go_wp2_with ((go_at_call 87; refine (look18 bb).mono ?_; rintro e W ⟨rfl, rfl⟩))
  go_wp2_with ((go_at_call 88; refine (look19 bb).mono ?_; rintro e W ⟨rfl, rfl⟩))
  go_wp2_with ((go_at_call 89; refine (look20 bb).mono ?_; rintro e W ⟨rfl, rfl⟩))
  go_ret
  exact ⟨rfl, ((hK1.mono (fun _ h => .inl h)).trans hK2).trans (KStep.of_below hB3)⟩

end Go.Proofs.YtpjgdbeekmoedaaGreatDoor
