/- The book's lists of other kinds: none is held, so nothing is done. -/
import Derived.Test.YtampilfebmfhaaaGreatDoorVkHold
namespace Go.Proofs.YtampilfebmfhaaaGreatDoor
open Go.RowKit

variable {bk n : Nat} {vp : Value} {w : World}

set_option maxRecDepth 20000 in
set_option maxHeartbeats 1000000 in
theorem fill1 (h : w.heap[bk]? = some (bookObj n vp)) : Calls Tryz.prog 36 #[.pointer (some ⟨bk, 0, none⟩)] w fun e w' => e = .returned (.tuple #[]) ∧ w' = w := by
  have hc : w.cell? ⟨bk, 1, none⟩ = some (.slice none 0 0) := by rw [cell_of_row w bk 1 _ _ _ h]; rfl
  clear h
  go_enter Tryz.func36, Tryz.ntmps36
  go_wp2
  go_loop [2] (fun k => k = .int .i64 0) (fun _ => 0)
  case atStart => rfl
  case round =>
    subst hrel
    go_wp2
    go_end0
    exact ⟨rfl, rfl⟩

set_option maxRecDepth 20000 in
set_option maxHeartbeats 1000000 in
theorem fill2 (h : w.heap[bk]? = some (bookObj n vp)) : Calls Tryz.prog 37 #[.pointer (some ⟨bk, 0, none⟩)] w fun e w' => e = .returned (.tuple #[]) ∧ w' = w := by
  have hc : w.cell? ⟨bk, 2, none⟩ = some (.slice none 0 0) := by rw [cell_of_row w bk 2 _ _ _ h]; rfl
  clear h
  go_enter Tryz.func37, Tryz.ntmps37
  go_wp2
  go_loop [2] (fun k => k = .int .i64 0) (fun _ => 0)
  case atStart => rfl
  case round =>
    subst hrel
    go_wp2
    go_end0
    exact ⟨rfl, rfl⟩

set_option maxRecDepth 20000 in
set_option maxHeartbeats 1000000 in
theorem fill3 (h : w.heap[bk]? = some (bookObj n vp)) : Calls Tryz.prog 38 #[.pointer (some ⟨bk, 0, none⟩)] w fun e w' => e = .returned (.tuple #[]) ∧ w' = w := by
  have hc : w.cell? ⟨bk, 3, none⟩ = some (.slice none 0 0) := by rw [cell_of_row w bk 3 _ _ _ h]; rfl
  clear h
  go_enter Tryz.func38, Tryz.ntmps38
  go_wp2
  go_loop [2] (fun k => k = .int .i64 0) (fun _ => 0)
  case atStart => rfl
  case round =>
    subst hrel
    go_wp2
    go_end0
    exact ⟨rfl, rfl⟩

set_option maxRecDepth 20000 in
set_option maxHeartbeats 1000000 in
theorem fill5 (h : w.heap[bk]? = some (bookObj n vp)) : Calls Tryz.prog 40 #[.pointer (some ⟨bk, 0, none⟩)] w fun e w' => e = .returned (.tuple #[]) ∧ w' = w := by
  have hc : w.cell? ⟨bk, 5, none⟩ = some (.slice none 0 0) := by rw [cell_of_row w bk 5 _ _ _ h]; rfl
  clear h
  go_enter Tryz.func40, Tryz.ntmps40
  go_wp2
  go_loop [2] (fun k => k = .int .i64 0) (fun _ => 0)
  case atStart => rfl
  case round =>
    subst hrel
    go_wp2
    go_end0
    exact ⟨rfl, rfl⟩

set_option maxRecDepth 20000 in
set_option maxHeartbeats 1000000 in
theorem fill6 (h : w.heap[bk]? = some (bookObj n vp)) : Calls Tryz.prog 41 #[.pointer (some ⟨bk, 0, none⟩)] w fun e w' => e = .returned (.tuple #[]) ∧ w' = w := by
  have hc : w.cell? ⟨bk, 6, none⟩ = some (.slice none 0 0) := by rw [cell_of_row w bk 6 _ _ _ h]; rfl
  clear h
  go_enter Tryz.func41, Tryz.ntmps41
  go_wp2
  go_loop [2] (fun k => k = .int .i64 0) (fun _ => 0)
  case atStart => rfl
  case round =>
    subst hrel
    go_wp2
    go_end0
    exact ⟨rfl, rfl⟩

set_option maxRecDepth 20000 in
set_option maxHeartbeats 1000000 in
theorem fill7 (h : w.heap[bk]? = some (bookObj n vp)) : Calls Tryz.prog 42 #[.pointer (some ⟨bk, 0, none⟩)] w fun e w' => e = .returned (.tuple #[]) ∧ w' = w := by
  have hc : w.cell? ⟨bk, 7, none⟩ = some (.slice none 0 0) := by rw [cell_of_row w bk 7 _ _ _ h]; rfl
  clear h
  go_enter Tryz.func42, Tryz.ntmps42
  go_wp2
  go_loop [2] (fun k => k = .int .i64 0) (fun _ => 0)
  case atStart => rfl
  case round =>
    subst hrel
    go_wp2
    go_end0
    exact ⟨rfl, rfl⟩

set_option maxRecDepth 20000 in
set_option maxHeartbeats 1000000 in
theorem fill8 (h : w.heap[bk]? = some (bookObj n vp)) : Calls Tryz.prog 43 #[.pointer (some ⟨bk, 0, none⟩)] w fun e w' => e = .returned (.tuple #[]) ∧ w' = w := by
  have hc : w.cell? ⟨bk, 8, none⟩ = some (.slice none 0 0) := by rw [cell_of_row w bk 8 _ _ _ h]; rfl
  clear h
  go_enter Tryz.func43, Tryz.ntmps43
  go_wp2
  go_loop [2] (fun k => k = .int .i64 0) (fun _ => 0)
  case atStart => rfl
  case round =>
    subst hrel
    go_wp2
    go_end0
    exact ⟨rfl, rfl⟩

set_option maxRecDepth 20000 in
set_option maxHeartbeats 1000000 in
theorem fill9 (h : w.heap[bk]? = some (bookObj n vp)) : Calls Tryz.prog 44 #[.pointer (some ⟨bk, 0, none⟩)] w fun e w' => e = .returned (.tuple #[]) ∧ w' = w := by
  have hc : w.cell? ⟨bk, 9, none⟩ = some (.slice none 0 0) := by rw [cell_of_row w bk 9 _ _ _ h]; rfl
  clear h
  go_enter Tryz.func44, Tryz.ntmps44
  go_wp2
  go_loop [2] (fun k => k = .int .i64 0) (fun _ => 0)
  case atStart => rfl
  case round =>
    subst hrel
    go_wp2
    go_end0
    exact ⟨rfl, rfl⟩

set_option maxRecDepth 20000 in
set_option maxHeartbeats 1000000 in
theorem fill10 (h : w.heap[bk]? = some (bookObj n vp)) : Calls Tryz.prog 45 #[.pointer (some ⟨bk, 0, none⟩)] w fun e w' => e = .returned (.tuple #[]) ∧ w' = w := by
  have hc : w.cell? ⟨bk, 10, none⟩ = some (.slice none 0 0) := by rw [cell_of_row w bk 10 _ _ _ h]; rfl
  clear h
  go_enter Tryz.func45, Tryz.ntmps45
  go_wp2
  go_loop [2] (fun k => k = .int .i64 0) (fun _ => 0)
  case atStart => rfl
  case round =>
    subst hrel
    go_wp2
    go_end0
    exact ⟨rfl, rfl⟩

set_option maxRecDepth 20000 in
set_option maxHeartbeats 1000000 in
theorem fill11 (h : w.heap[bk]? = some (bookObj n vp)) : Calls Tryz.prog 46 #[.pointer (some ⟨bk, 0, none⟩)] w fun e w' => e = .returned (.tuple #[]) ∧ w' = w := by
  have hc : w.cell? ⟨bk, 11, none⟩ = some (.slice none 0 0) := by rw [cell_of_row w bk 11 _ _ _ h]; rfl
  clear h
  go_enter Tryz.func46, Tryz.ntmps46
  go_wp2
  go_loop [2] (fun k => k = .int .i64 0) (fun _ => 0)
  case atStart => rfl
  case round =>
    subst hrel
    go_wp2
    go_end0
    exact ⟨rfl, rfl⟩

set_option maxRecDepth 20000 in
set_option maxHeartbeats 1000000 in
theorem fill12 (h : w.heap[bk]? = some (bookObj n vp)) : Calls Tryz.prog 47 #[.pointer (some ⟨bk, 0, none⟩)] w fun e w' => e = .returned (.tuple #[]) ∧ w' = w := by
  have hc : w.cell? ⟨bk, 12, none⟩ = some (.slice none 0 0) := by rw [cell_of_row w bk 12 _ _ _ h]; rfl
  clear h
  go_enter Tryz.func47, Tryz.ntmps47
  go_wp2
  go_loop [2] (fun k => k = .int .i64 0) (fun _ => 0)
  case atStart => rfl
  case round =>
    subst hrel
    go_wp2
    go_end0
    exact ⟨rfl, rfl⟩

set_option maxRecDepth 20000 in
set_option maxHeartbeats 1000000 in
theorem fill13 (h : w.heap[bk]? = some (bookObj n vp)) : Calls Tryz.prog 48 #[.pointer (some ⟨bk, 0, none⟩)] w fun e w' => e = .returned (.tuple #[]) ∧ w' = w := by
  have hc : w.cell? ⟨bk, 13, none⟩ = some (.slice none 0 0) := by rw [cell_of_row w bk 13 _ _ _ h]; rfl
  clear h
  go_enter Tryz.func48, Tryz.ntmps48
  go_wp2
  go_loop [2] (fun k => k = .int .i64 0) (fun _ => 0)
  case atStart => rfl
  case round =>
    subst hrel
    go_wp2
    go_end0
    exact ⟨rfl, rfl⟩

set_option maxRecDepth 20000 in
set_option maxHeartbeats 1000000 in
theorem fill14 (h : w.heap[bk]? = some (bookObj n vp)) : Calls Tryz.prog 49 #[.pointer (some ⟨bk, 0, none⟩)] w fun e w' => e = .returned (.tuple #[]) ∧ w' = w := by
  have hc : w.cell? ⟨bk, 14, none⟩ = some (.slice none 0 0) := by rw [cell_of_row w bk 14 _ _ _ h]; rfl
  clear h
  go_enter Tryz.func49, Tryz.ntmps49
  go_wp2
  go_loop [2] (fun k => k = .int .i64 0) (fun _ => 0)
  case atStart => rfl
  case round =>
    subst hrel
    go_wp2
    go_end0
    exact ⟨rfl, rfl⟩

set_option maxRecDepth 20000 in
set_option maxHeartbeats 1000000 in
theorem fill15 (h : w.heap[bk]? = some (bookObj n vp)) : Calls Tryz.prog 50 #[.pointer (some ⟨bk, 0, none⟩)] w fun e w' => e = .returned (.tuple #[]) ∧ w' = w := by
  have hc : w.cell? ⟨bk, 15, none⟩ = some (.slice none 0 0) := by rw [cell_of_row w bk 15 _ _ _ h]; rfl
  clear h
  go_enter Tryz.func50, Tryz.ntmps50
  go_wp2
  go_loop [2] (fun k => k = .int .i64 0) (fun _ => 0)
  case atStart => rfl
  case round =>
    subst hrel
    go_wp2
    go_end0
    exact ⟨rfl, rfl⟩

set_option maxRecDepth 20000 in
set_option maxHeartbeats 1000000 in
theorem fill16 (h : w.heap[bk]? = some (bookObj n vp)) : Calls Tryz.prog 51 #[.pointer (some ⟨bk, 0, none⟩)] w fun e w' => e = .returned (.tuple #[]) ∧ w' = w := by
  have hc : w.cell? ⟨bk, 16, none⟩ = some (.slice none 0 0) := by rw [cell_of_row w bk 16 _ _ _ h]; rfl
  clear h
  go_enter Tryz.func51, Tryz.ntmps51
  go_wp2
  go_loop [2] (fun k => k = .int .i64 0) (fun _ => 0)
  case atStart => rfl
  case round =>
    subst hrel
    go_wp2
    go_end0
    exact ⟨rfl, rfl⟩

set_option maxRecDepth 20000 in
set_option maxHeartbeats 1000000 in
theorem fill17 (h : w.heap[bk]? = some (bookObj n vp)) : Calls Tryz.prog 52 #[.pointer (some ⟨bk, 0, none⟩)] w fun e w' => e = .returned (.tuple #[]) ∧ w' = w := by
  have hc : w.cell? ⟨bk, 17, none⟩ = some (.slice none 0 0) := by rw [cell_of_row w bk 17 _ _ _ h]; rfl
  clear h
  go_enter Tryz.func52, Tryz.ntmps52
  go_wp2
  go_loop [2] (fun k => k = .int .i64 0) (fun _ => 0)
  case atStart => rfl
  case round =>
    subst hrel
    go_wp2
    go_end0
    exact ⟨rfl, rfl⟩

set_option maxRecDepth 20000 in
set_option maxHeartbeats 1000000 in
theorem fill18 (h : w.heap[bk]? = some (bookObj n vp)) : Calls Tryz.prog 53 #[.pointer (some ⟨bk, 0, none⟩)] w fun e w' => e = .returned (.tuple #[]) ∧ w' = w := by
  have hc : w.cell? ⟨bk, 18, none⟩ = some (.slice none 0 0) := by rw [cell_of_row w bk 18 _ _ _ h]; rfl
  clear h
  go_enter Tryz.func53, Tryz.ntmps53
  go_wp2
  go_loop [2] (fun k => k = .int .i64 0) (fun _ => 0)
  case atStart => rfl
  case round =>
    subst hrel
    go_wp2
    go_end0
    exact ⟨rfl, rfl⟩

set_option maxRecDepth 20000 in
set_option maxHeartbeats 1000000 in
theorem fill19 (h : w.heap[bk]? = some (bookObj n vp)) : Calls Tryz.prog 54 #[.pointer (some ⟨bk, 0, none⟩)] w fun e w' => e = .returned (.tuple #[]) ∧ w' = w := by
  have hc : w.cell? ⟨bk, 19, none⟩ = some (.slice none 0 0) := by rw [cell_of_row w bk 19 _ _ _ h]; rfl
  clear h
  go_enter Tryz.func54, Tryz.ntmps54
  go_wp2
  go_loop [2] (fun k => k = .int .i64 0) (fun _ => 0)
  case atStart => rfl
  case round =>
    subst hrel
    go_wp2
    go_end0
    exact ⟨rfl, rfl⟩

set_option maxRecDepth 20000 in
set_option maxHeartbeats 1000000 in
theorem fill20 (h : w.heap[bk]? = some (bookObj n vp)) : Calls Tryz.prog 55 #[.pointer (some ⟨bk, 0, none⟩)] w fun e w' => e = .returned (.tuple #[]) ∧ w' = w := by
  have hc : w.cell? ⟨bk, 20, none⟩ = some (.slice none 0 0) := by rw [cell_of_row w bk 20 _ _ _ h]; rfl
  clear h
  go_enter Tryz.func55, Tryz.ntmps55
  go_wp2
  go_loop [2] (fun k => k = .int .i64 0) (fun _ => 0)
  case atStart => rfl
  case round =>
    subst hrel
    go_wp2
    go_end0
    exact ⟨rfl, rfl⟩

set_option maxRecDepth 20000 in
set_option maxHeartbeats 1000000 in
theorem grow1 (h : w.heap[bk]? = some (bookObj n vp)) : Calls Tryz.prog 56 #[.pointer (some ⟨bk, 0, none⟩)] w fun e w' => e = .returned (.tuple #[]) ∧ w' = w := by
  have hc : w.cell? ⟨bk, 1, none⟩ = some (.slice none 0 0) := by rw [cell_of_row w bk 1 _ _ _ h]; rfl
  clear h
  go_enter Tryz.func56, Tryz.ntmps56
  go_wp2
  go_loop [2] (fun k => k = .int .i64 0) (fun _ => 0)
  case atStart => rfl
  case round =>
    subst hrel
    go_wp2
    go_end0
    exact ⟨rfl, rfl⟩

set_option maxRecDepth 20000 in
set_option maxHeartbeats 1000000 in
theorem grow2 (h : w.heap[bk]? = some (bookObj n vp)) : Calls Tryz.prog 57 #[.pointer (some ⟨bk, 0, none⟩)] w fun e w' => e = .returned (.tuple #[]) ∧ w' = w := by
  have hc : w.cell? ⟨bk, 2, none⟩ = some (.slice none 0 0) := by rw [cell_of_row w bk 2 _ _ _ h]; rfl
  clear h
  go_enter Tryz.func57, Tryz.ntmps57
  go_wp2
  go_loop [2] (fun k => k = .int .i64 0) (fun _ => 0)
  case atStart => rfl
  case round =>
    subst hrel
    go_wp2
    go_end0
    exact ⟨rfl, rfl⟩

set_option maxRecDepth 20000 in
set_option maxHeartbeats 1000000 in
theorem grow3 (h : w.heap[bk]? = some (bookObj n vp)) : Calls Tryz.prog 58 #[.pointer (some ⟨bk, 0, none⟩)] w fun e w' => e = .returned (.tuple #[]) ∧ w' = w := by
  have hc : w.cell? ⟨bk, 3, none⟩ = some (.slice none 0 0) := by rw [cell_of_row w bk 3 _ _ _ h]; rfl
  clear h
  go_enter Tryz.func58, Tryz.ntmps58
  go_wp2
  go_loop [2] (fun k => k = .int .i64 0) (fun _ => 0)
  case atStart => rfl
  case round =>
    subst hrel
    go_wp2
    go_end0
    exact ⟨rfl, rfl⟩

set_option maxRecDepth 20000 in
set_option maxHeartbeats 1000000 in
theorem grow5 (h : w.heap[bk]? = some (bookObj n vp)) : Calls Tryz.prog 60 #[.pointer (some ⟨bk, 0, none⟩)] w fun e w' => e = .returned (.tuple #[]) ∧ w' = w := by
  have hc : w.cell? ⟨bk, 5, none⟩ = some (.slice none 0 0) := by rw [cell_of_row w bk 5 _ _ _ h]; rfl
  clear h
  go_enter Tryz.func60, Tryz.ntmps60
  go_wp2
  go_loop [2] (fun k => k = .int .i64 0) (fun _ => 0)
  case atStart => rfl
  case round =>
    subst hrel
    go_wp2
    go_end0
    exact ⟨rfl, rfl⟩

set_option maxRecDepth 20000 in
set_option maxHeartbeats 1000000 in
theorem grow6 (h : w.heap[bk]? = some (bookObj n vp)) : Calls Tryz.prog 61 #[.pointer (some ⟨bk, 0, none⟩)] w fun e w' => e = .returned (.tuple #[]) ∧ w' = w := by
  have hc : w.cell? ⟨bk, 6, none⟩ = some (.slice none 0 0) := by rw [cell_of_row w bk 6 _ _ _ h]; rfl
  clear h
  go_enter Tryz.func61, Tryz.ntmps61
  go_wp2
  go_loop [2] (fun k => k = .int .i64 0) (fun _ => 0)
  case atStart => rfl
  case round =>
    subst hrel
    go_wp2
    go_end0
    exact ⟨rfl, rfl⟩

set_option maxRecDepth 20000 in
set_option maxHeartbeats 1000000 in
theorem grow7 (h : w.heap[bk]? = some (bookObj n vp)) : Calls Tryz.prog 62 #[.pointer (some ⟨bk, 0, none⟩)] w fun e w' => e = .returned (.tuple #[]) ∧ w' = w := by
  have hc : w.cell? ⟨bk, 7, none⟩ = some (.slice none 0 0) := by rw [cell_of_row w bk 7 _ _ _ h]; rfl
  clear h
  go_enter Tryz.func62, Tryz.ntmps62
  go_wp2
  go_loop [2] (fun k => k = .int .i64 0) (fun _ => 0)
  case atStart => rfl
  case round =>
    subst hrel
    go_wp2
    go_end0
    exact ⟨rfl, rfl⟩

set_option maxRecDepth 20000 in
set_option maxHeartbeats 1000000 in
theorem grow8 (h : w.heap[bk]? = some (bookObj n vp)) : Calls Tryz.prog 63 #[.pointer (some ⟨bk, 0, none⟩)] w fun e w' => e = .returned (.tuple #[]) ∧ w' = w := by
  have hc : w.cell? ⟨bk, 8, none⟩ = some (.slice none 0 0) := by rw [cell_of_row w bk 8 _ _ _ h]; rfl
  clear h
  go_enter Tryz.func63, Tryz.ntmps63
  go_wp2
  go_loop [2] (fun k => k = .int .i64 0) (fun _ => 0)
  case atStart => rfl
  case round =>
    subst hrel
    go_wp2
    go_end0
    exact ⟨rfl, rfl⟩

set_option maxRecDepth 20000 in
set_option maxHeartbeats 1000000 in
theorem grow9 (h : w.heap[bk]? = some (bookObj n vp)) : Calls Tryz.prog 64 #[.pointer (some ⟨bk, 0, none⟩)] w fun e w' => e = .returned (.tuple #[]) ∧ w' = w := by
  have hc : w.cell? ⟨bk, 9, none⟩ = some (.slice none 0 0) := by rw [cell_of_row w bk 9 _ _ _ h]; rfl
  clear h
  go_enter Tryz.func64, Tryz.ntmps64
  go_wp2
  go_loop [2] (fun k => k = .int .i64 0) (fun _ => 0)
  case atStart => rfl
  case round =>
    subst hrel
    go_wp2
    go_end0
    exact ⟨rfl, rfl⟩

set_option maxRecDepth 20000 in
set_option maxHeartbeats 1000000 in
theorem grow10 (h : w.heap[bk]? = some (bookObj n vp)) : Calls Tryz.prog 65 #[.pointer (some ⟨bk, 0, none⟩)] w fun e w' => e = .returned (.tuple #[]) ∧ w' = w := by
  have hc : w.cell? ⟨bk, 10, none⟩ = some (.slice none 0 0) := by rw [cell_of_row w bk 10 _ _ _ h]; rfl
  clear h
  go_enter Tryz.func65, Tryz.ntmps65
  go_wp2
  go_loop [2] (fun k => k = .int .i64 0) (fun _ => 0)
  case atStart => rfl
  case round =>
    subst hrel
    go_wp2
    go_end0
    exact ⟨rfl, rfl⟩

set_option maxRecDepth 20000 in
set_option maxHeartbeats 1000000 in
theorem grow11 (h : w.heap[bk]? = some (bookObj n vp)) : Calls Tryz.prog 66 #[.pointer (some ⟨bk, 0, none⟩)] w fun e w' => e = .returned (.tuple #[]) ∧ w' = w := by
  have hc : w.cell? ⟨bk, 11, none⟩ = some (.slice none 0 0) := by rw [cell_of_row w bk 11 _ _ _ h]; rfl
  clear h
  go_enter Tryz.func66, Tryz.ntmps66
  go_wp2
  go_loop [2] (fun k => k = .int .i64 0) (fun _ => 0)
  case atStart => rfl
  case round =>
    subst hrel
    go_wp2
    go_end0
    exact ⟨rfl, rfl⟩

set_option maxRecDepth 20000 in
set_option maxHeartbeats 1000000 in
theorem grow12 (h : w.heap[bk]? = some (bookObj n vp)) : Calls Tryz.prog 67 #[.pointer (some ⟨bk, 0, none⟩)] w fun e w' => e = .returned (.tuple #[]) ∧ w' = w := by
  have hc : w.cell? ⟨bk, 12, none⟩ = some (.slice none 0 0) := by rw [cell_of_row w bk 12 _ _ _ h]; rfl
  clear h
  go_enter Tryz.func67, Tryz.ntmps67
  go_wp2
  go_loop [2] (fun k => k = .int .i64 0) (fun _ => 0)
  case atStart => rfl
  case round =>
    subst hrel
    go_wp2
    go_end0
    exact ⟨rfl, rfl⟩

set_option maxRecDepth 20000 in
set_option maxHeartbeats 1000000 in
theorem grow13 (h : w.heap[bk]? = some (bookObj n vp)) : Calls Tryz.prog 68 #[.pointer (some ⟨bk, 0, none⟩)] w fun e w' => e = .returned (.tuple #[]) ∧ w' = w := by
  have hc : w.cell? ⟨bk, 13, none⟩ = some (.slice none 0 0) := by rw [cell_of_row w bk 13 _ _ _ h]; rfl
  clear h
  go_enter Tryz.func68, Tryz.ntmps68
  go_wp2
  go_loop [2] (fun k => k = .int .i64 0) (fun _ => 0)
  case atStart => rfl
  case round =>
    subst hrel
    go_wp2
    go_end0
    exact ⟨rfl, rfl⟩

set_option maxRecDepth 20000 in
set_option maxHeartbeats 1000000 in
theorem grow14 (h : w.heap[bk]? = some (bookObj n vp)) : Calls Tryz.prog 69 #[.pointer (some ⟨bk, 0, none⟩)] w fun e w' => e = .returned (.tuple #[]) ∧ w' = w := by
  have hc : w.cell? ⟨bk, 14, none⟩ = some (.slice none 0 0) := by rw [cell_of_row w bk 14 _ _ _ h]; rfl
  clear h
  go_enter Tryz.func69, Tryz.ntmps69
  go_wp2
  go_loop [2] (fun k => k = .int .i64 0) (fun _ => 0)
  case atStart => rfl
  case round =>
    subst hrel
    go_wp2
    go_end0
    exact ⟨rfl, rfl⟩

set_option maxRecDepth 20000 in
set_option maxHeartbeats 1000000 in
theorem grow15 (h : w.heap[bk]? = some (bookObj n vp)) : Calls Tryz.prog 70 #[.pointer (some ⟨bk, 0, none⟩)] w fun e w' => e = .returned (.tuple #[]) ∧ w' = w := by
  have hc : w.cell? ⟨bk, 15, none⟩ = some (.slice none 0 0) := by rw [cell_of_row w bk 15 _ _ _ h]; rfl
  clear h
  go_enter Tryz.func70, Tryz.ntmps70
  go_wp2
  go_loop [2] (fun k => k = .int .i64 0) (fun _ => 0)
  case atStart => rfl
  case round =>
    subst hrel
    go_wp2
    go_end0
    exact ⟨rfl, rfl⟩

set_option maxRecDepth 20000 in
set_option maxHeartbeats 1000000 in
theorem grow16 (h : w.heap[bk]? = some (bookObj n vp)) : Calls Tryz.prog 71 #[.pointer (some ⟨bk, 0, none⟩)] w fun e w' => e = .returned (.tuple #[]) ∧ w' = w := by
  have hc : w.cell? ⟨bk, 16, none⟩ = some (.slice none 0 0) := by rw [cell_of_row w bk 16 _ _ _ h]; rfl
  clear h
  go_enter Tryz.func71, Tryz.ntmps71
  go_wp2
  go_loop [2] (fun k => k = .int .i64 0) (fun _ => 0)
  case atStart => rfl
  case round =>
    subst hrel
    go_wp2
    go_end0
    exact ⟨rfl, rfl⟩

set_option maxRecDepth 20000 in
set_option maxHeartbeats 1000000 in
theorem grow17 (h : w.heap[bk]? = some (bookObj n vp)) : Calls Tryz.prog 72 #[.pointer (some ⟨bk, 0, none⟩)] w fun e w' => e = .returned (.tuple #[]) ∧ w' = w := by
  have hc : w.cell? ⟨bk, 17, none⟩ = some (.slice none 0 0) := by rw [cell_of_row w bk 17 _ _ _ h]; rfl
  clear h
  go_enter Tryz.func72, Tryz.ntmps72
  go_wp2
  go_loop [2] (fun k => k = .int .i64 0) (fun _ => 0)
  case atStart => rfl
  case round =>
    subst hrel
    go_wp2
    go_end0
    exact ⟨rfl, rfl⟩

set_option maxRecDepth 20000 in
set_option maxHeartbeats 1000000 in
theorem grow18 (h : w.heap[bk]? = some (bookObj n vp)) : Calls Tryz.prog 73 #[.pointer (some ⟨bk, 0, none⟩)] w fun e w' => e = .returned (.tuple #[]) ∧ w' = w := by
  have hc : w.cell? ⟨bk, 18, none⟩ = some (.slice none 0 0) := by rw [cell_of_row w bk 18 _ _ _ h]; rfl
  clear h
  go_enter Tryz.func73, Tryz.ntmps73
  go_wp2
  go_loop [2] (fun k => k = .int .i64 0) (fun _ => 0)
  case atStart => rfl
  case round =>
    subst hrel
    go_wp2
    go_end0
    exact ⟨rfl, rfl⟩

set_option maxRecDepth 20000 in
set_option maxHeartbeats 1000000 in
theorem grow19 (h : w.heap[bk]? = some (bookObj n vp)) : Calls Tryz.prog 74 #[.pointer (some ⟨bk, 0, none⟩)] w fun e w' => e = .returned (.tuple #[]) ∧ w' = w := by
  have hc : w.cell? ⟨bk, 19, none⟩ = some (.slice none 0 0) := by rw [cell_of_row w bk 19 _ _ _ h]; rfl
  clear h
  go_enter Tryz.func74, Tryz.ntmps74
  go_wp2
  go_loop [2] (fun k => k = .int .i64 0) (fun _ => 0)
  case atStart => rfl
  case round =>
    subst hrel
    go_wp2
    go_end0
    exact ⟨rfl, rfl⟩

set_option maxRecDepth 20000 in
set_option maxHeartbeats 1000000 in
theorem grow20 (h : w.heap[bk]? = some (bookObj n vp)) : Calls Tryz.prog 75 #[.pointer (some ⟨bk, 0, none⟩)] w fun e w' => e = .returned (.tuple #[]) ∧ w' = w := by
  have hc : w.cell? ⟨bk, 20, none⟩ = some (.slice none 0 0) := by rw [cell_of_row w bk 20 _ _ _ h]; rfl
  clear h
  go_enter Tryz.func75, Tryz.ntmps75
  go_wp2
  go_loop [2] (fun k => k = .int .i64 0) (fun _ => 0)
  case atStart => rfl
  case round =>
    subst hrel
    go_wp2
    go_end0
    exact ⟨rfl, rfl⟩

set_option maxRecDepth 20000 in
set_option maxHeartbeats 1000000 in
theorem look1 (h : w.heap[bk]? = some (bookObj n vp)) : Calls Tryz.prog 76 #[.pointer (some ⟨bk, 0, none⟩)] w fun e w' => e = .returned (.bool true) ∧ w' = w := by
  have hc : w.cell? ⟨bk, 1, none⟩ = some (.slice none 0 0) := by rw [cell_of_row w bk 1 _ _ _ h]; rfl
  clear h
  go_enter Tryz.func76, Tryz.ntmps76
  go_wp2
  go_loop [3] (fun k => k = .int .i64 0) (fun _ => 0)
  case atStart => rfl
  case round =>
    subst hrel
    go_wp2
    go_ret
    exact ⟨rfl, rfl⟩

set_option maxRecDepth 20000 in
set_option maxHeartbeats 1000000 in
theorem look2 (h : w.heap[bk]? = some (bookObj n vp)) : Calls Tryz.prog 77 #[.pointer (some ⟨bk, 0, none⟩)] w fun e w' => e = .returned (.bool true) ∧ w' = w := by
  have hc : w.cell? ⟨bk, 2, none⟩ = some (.slice none 0 0) := by rw [cell_of_row w bk 2 _ _ _ h]; rfl
  clear h
  go_enter Tryz.func77, Tryz.ntmps77
  go_wp2
  go_loop [3] (fun k => k = .int .i64 0) (fun _ => 0)
  case atStart => rfl
  case round =>
    subst hrel
    go_wp2
    go_ret
    exact ⟨rfl, rfl⟩

set_option maxRecDepth 20000 in
set_option maxHeartbeats 1000000 in
theorem look3 (h : w.heap[bk]? = some (bookObj n vp)) : Calls Tryz.prog 78 #[.pointer (some ⟨bk, 0, none⟩)] w fun e w' => e = .returned (.bool true) ∧ w' = w := by
  have hc : w.cell? ⟨bk, 3, none⟩ = some (.slice none 0 0) := by rw [cell_of_row w bk 3 _ _ _ h]; rfl
  clear h
  go_enter Tryz.func78, Tryz.ntmps78
  go_wp2
  go_loop [3] (fun k => k = .int .i64 0) (fun _ => 0)
  case atStart => rfl
  case round =>
    subst hrel
    go_wp2
    go_ret
    exact ⟨rfl, rfl⟩

set_option maxRecDepth 20000 in
set_option maxHeartbeats 1000000 in
theorem look5 (h : w.heap[bk]? = some (bookObj n vp)) : Calls Tryz.prog 80 #[.pointer (some ⟨bk, 0, none⟩)] w fun e w' => e = .returned (.bool true) ∧ w' = w := by
  have hc : w.cell? ⟨bk, 5, none⟩ = some (.slice none 0 0) := by rw [cell_of_row w bk 5 _ _ _ h]; rfl
  clear h
  go_enter Tryz.func80, Tryz.ntmps80
  go_wp2
  go_loop [3] (fun k => k = .int .i64 0) (fun _ => 0)
  case atStart => rfl
  case round =>
    subst hrel
    go_wp2
    go_ret
    exact ⟨rfl, rfl⟩

set_option maxRecDepth 20000 in
set_option maxHeartbeats 1000000 in
theorem look6 (h : w.heap[bk]? = some (bookObj n vp)) : Calls Tryz.prog 81 #[.pointer (some ⟨bk, 0, none⟩)] w fun e w' => e = .returned (.bool true) ∧ w' = w := by
  have hc : w.cell? ⟨bk, 6, none⟩ = some (.slice none 0 0) := by rw [cell_of_row w bk 6 _ _ _ h]; rfl
  clear h
  go_enter Tryz.func81, Tryz.ntmps81
  go_wp2
  go_loop [3] (fun k => k = .int .i64 0) (fun _ => 0)
  case atStart => rfl
  case round =>
    subst hrel
    go_wp2
    go_ret
    exact ⟨rfl, rfl⟩

set_option maxRecDepth 20000 in
set_option maxHeartbeats 1000000 in
theorem look7 (h : w.heap[bk]? = some (bookObj n vp)) : Calls Tryz.prog 82 #[.pointer (some ⟨bk, 0, none⟩)] w fun e w' => e = .returned (.bool true) ∧ w' = w := by
  have hc : w.cell? ⟨bk, 7, none⟩ = some (.slice none 0 0) := by rw [cell_of_row w bk 7 _ _ _ h]; rfl
  clear h
  go_enter Tryz.func82, Tryz.ntmps82
  go_wp2
  go_loop [3] (fun k => k = .int .i64 0) (fun _ => 0)
  case atStart => rfl
  case round =>
    subst hrel
    go_wp2
    go_ret
    exact ⟨rfl, rfl⟩

set_option maxRecDepth 20000 in
set_option maxHeartbeats 1000000 in
theorem look8 (h : w.heap[bk]? = some (bookObj n vp)) : Calls Tryz.prog 83 #[.pointer (some ⟨bk, 0, none⟩)] w fun e w' => e = .returned (.bool true) ∧ w' = w := by
  have hc : w.cell? ⟨bk, 8, none⟩ = some (.slice none 0 0) := by rw [cell_of_row w bk 8 _ _ _ h]; rfl
  clear h
  go_enter Tryz.func83, Tryz.ntmps83
  go_wp2
  go_loop [3] (fun k => k = .int .i64 0) (fun _ => 0)
  case atStart => rfl
  case round =>
    subst hrel
    go_wp2
    go_ret
    exact ⟨rfl, rfl⟩

set_option maxRecDepth 20000 in
set_option maxHeartbeats 1000000 in
theorem look9 (h : w.heap[bk]? = some (bookObj n vp)) : Calls Tryz.prog 84 #[.pointer (some ⟨bk, 0, none⟩)] w fun e w' => e = .returned (.bool true) ∧ w' = w := by
  have hc : w.cell? ⟨bk, 9, none⟩ = some (.slice none 0 0) := by rw [cell_of_row w bk 9 _ _ _ h]; rfl
  clear h
  go_enter Tryz.func84, Tryz.ntmps84
  go_wp2
  go_loop [3] (fun k => k = .int .i64 0) (fun _ => 0)
  case atStart => rfl
  case round =>
    subst hrel
    go_wp2
    go_ret
    exact ⟨rfl, rfl⟩

set_option maxRecDepth 20000 in
set_option maxHeartbeats 1000000 in
theorem look10 (h : w.heap[bk]? = some (bookObj n vp)) : Calls Tryz.prog 85 #[.pointer (some ⟨bk, 0, none⟩)] w fun e w' => e = .returned (.bool true) ∧ w' = w := by
  have hc : w.cell? ⟨bk, 10, none⟩ = some (.slice none 0 0) := by rw [cell_of_row w bk 10 _ _ _ h]; rfl
  clear h
  go_enter Tryz.func85, Tryz.ntmps85
  go_wp2
  go_loop [3] (fun k => k = .int .i64 0) (fun _ => 0)
  case atStart => rfl
  case round =>
    subst hrel
    go_wp2
    go_ret
    exact ⟨rfl, rfl⟩

set_option maxRecDepth 20000 in
set_option maxHeartbeats 1000000 in
theorem look11 (h : w.heap[bk]? = some (bookObj n vp)) : Calls Tryz.prog 86 #[.pointer (some ⟨bk, 0, none⟩)] w fun e w' => e = .returned (.bool true) ∧ w' = w := by
  have hc : w.cell? ⟨bk, 11, none⟩ = some (.slice none 0 0) := by rw [cell_of_row w bk 11 _ _ _ h]; rfl
  clear h
  go_enter Tryz.func86, Tryz.ntmps86
  go_wp2
  go_loop [3] (fun k => k = .int .i64 0) (fun _ => 0)
  case atStart => rfl
  case round =>
    subst hrel
    go_wp2
    go_ret
    exact ⟨rfl, rfl⟩

set_option maxRecDepth 20000 in
set_option maxHeartbeats 1000000 in
theorem look12 (h : w.heap[bk]? = some (bookObj n vp)) : Calls Tryz.prog 87 #[.pointer (some ⟨bk, 0, none⟩)] w fun e w' => e = .returned (.bool true) ∧ w' = w := by
  have hc : w.cell? ⟨bk, 12, none⟩ = some (.slice none 0 0) := by rw [cell_of_row w bk 12 _ _ _ h]; rfl
  clear h
  go_enter Tryz.func87, Tryz.ntmps87
  go_wp2
  go_loop [3] (fun k => k = .int .i64 0) (fun _ => 0)
  case atStart => rfl
  case round =>
    subst hrel
    go_wp2
    go_ret
    exact ⟨rfl, rfl⟩

set_option maxRecDepth 20000 in
set_option maxHeartbeats 1000000 in
theorem look13 (h : w.heap[bk]? = some (bookObj n vp)) : Calls Tryz.prog 88 #[.pointer (some ⟨bk, 0, none⟩)] w fun e w' => e = .returned (.bool true) ∧ w' = w := by
  have hc : w.cell? ⟨bk, 13, none⟩ = some (.slice none 0 0) := by rw [cell_of_row w bk 13 _ _ _ h]; rfl
  clear h
  go_enter Tryz.func88, Tryz.ntmps88
  go_wp2
  go_loop [3] (fun k => k = .int .i64 0) (fun _ => 0)
  case atStart => rfl
  case round =>
    subst hrel
    go_wp2
    go_ret
    exact ⟨rfl, rfl⟩

set_option maxRecDepth 20000 in
set_option maxHeartbeats 1000000 in
theorem look14 (h : w.heap[bk]? = some (bookObj n vp)) : Calls Tryz.prog 89 #[.pointer (some ⟨bk, 0, none⟩)] w fun e w' => e = .returned (.bool true) ∧ w' = w := by
  have hc : w.cell? ⟨bk, 14, none⟩ = some (.slice none 0 0) := by rw [cell_of_row w bk 14 _ _ _ h]; rfl
  clear h
  go_enter Tryz.func89, Tryz.ntmps89
  go_wp2
  go_loop [3] (fun k => k = .int .i64 0) (fun _ => 0)
  case atStart => rfl
  case round =>
    subst hrel
    go_wp2
    go_ret
    exact ⟨rfl, rfl⟩

set_option maxRecDepth 20000 in
set_option maxHeartbeats 1000000 in
theorem look15 (h : w.heap[bk]? = some (bookObj n vp)) : Calls Tryz.prog 90 #[.pointer (some ⟨bk, 0, none⟩)] w fun e w' => e = .returned (.bool true) ∧ w' = w := by
  have hc : w.cell? ⟨bk, 15, none⟩ = some (.slice none 0 0) := by rw [cell_of_row w bk 15 _ _ _ h]; rfl
  clear h
  go_enter Tryz.func90, Tryz.ntmps90
  go_wp2
  go_loop [3] (fun k => k = .int .i64 0) (fun _ => 0)
  case atStart => rfl
  case round =>
    subst hrel
    go_wp2
    go_ret
    exact ⟨rfl, rfl⟩

set_option maxRecDepth 20000 in
set_option maxHeartbeats 1000000 in
theorem look16 (h : w.heap[bk]? = some (bookObj n vp)) : Calls Tryz.prog 91 #[.pointer (some ⟨bk, 0, none⟩)] w fun e w' => e = .returned (.bool true) ∧ w' = w := by
  have hc : w.cell? ⟨bk, 16, none⟩ = some (.slice none 0 0) := by rw [cell_of_row w bk 16 _ _ _ h]; rfl
  clear h
  go_enter Tryz.func91, Tryz.ntmps91
  go_wp2
  go_loop [3] (fun k => k = .int .i64 0) (fun _ => 0)
  case atStart => rfl
  case round =>
    subst hrel
    go_wp2
    go_ret
    exact ⟨rfl, rfl⟩

set_option maxRecDepth 20000 in
set_option maxHeartbeats 1000000 in
theorem look17 (h : w.heap[bk]? = some (bookObj n vp)) : Calls Tryz.prog 92 #[.pointer (some ⟨bk, 0, none⟩)] w fun e w' => e = .returned (.bool true) ∧ w' = w := by
  have hc : w.cell? ⟨bk, 17, none⟩ = some (.slice none 0 0) := by rw [cell_of_row w bk 17 _ _ _ h]; rfl
  clear h
  go_enter Tryz.func92, Tryz.ntmps92
  go_wp2
  go_loop [3] (fun k => k = .int .i64 0) (fun _ => 0)
  case atStart => rfl
  case round =>
    subst hrel
    go_wp2
    go_ret
    exact ⟨rfl, rfl⟩

set_option maxRecDepth 20000 in
set_option maxHeartbeats 1000000 in
theorem look18 (h : w.heap[bk]? = some (bookObj n vp)) : Calls Tryz.prog 93 #[.pointer (some ⟨bk, 0, none⟩)] w fun e w' => e = .returned (.bool true) ∧ w' = w := by
  have hc : w.cell? ⟨bk, 18, none⟩ = some (.slice none 0 0) := by rw [cell_of_row w bk 18 _ _ _ h]; rfl
  clear h
  go_enter Tryz.func93, Tryz.ntmps93
  go_wp2
  go_loop [3] (fun k => k = .int .i64 0) (fun _ => 0)
  case atStart => rfl
  case round =>
    subst hrel
    go_wp2
    go_ret
    exact ⟨rfl, rfl⟩

set_option maxRecDepth 20000 in
set_option maxHeartbeats 1000000 in
theorem look19 (h : w.heap[bk]? = some (bookObj n vp)) : Calls Tryz.prog 94 #[.pointer (some ⟨bk, 0, none⟩)] w fun e w' => e = .returned (.bool true) ∧ w' = w := by
  have hc : w.cell? ⟨bk, 19, none⟩ = some (.slice none 0 0) := by rw [cell_of_row w bk 19 _ _ _ h]; rfl
  clear h
  go_enter Tryz.func94, Tryz.ntmps94
  go_wp2
  go_loop [3] (fun k => k = .int .i64 0) (fun _ => 0)
  case atStart => rfl
  case round =>
    subst hrel
    go_wp2
    go_ret
    exact ⟨rfl, rfl⟩

set_option maxRecDepth 20000 in
set_option maxHeartbeats 1000000 in
theorem look20 (h : w.heap[bk]? = some (bookObj n vp)) : Calls Tryz.prog 95 #[.pointer (some ⟨bk, 0, none⟩)] w fun e w' => e = .returned (.bool true) ∧ w' = w := by
  have hc : w.cell? ⟨bk, 20, none⟩ = some (.slice none 0 0) := by rw [cell_of_row w bk 20 _ _ _ h]; rfl
  clear h
  go_enter Tryz.func95, Tryz.ntmps95
  go_wp2
  go_loop [3] (fun k => k = .int .i64 0) (fun _ => 0)
  case atStart => rfl
  case round =>
    subst hrel
    go_wp2
    go_ret
    exact ⟨rfl, rfl⟩

end Go.Proofs.YtampilfebmfhaaaGreatDoor
