/- The book of stores: lists of other kinds: none is held, so nothing is done. -/
import Derived.Test.YtgokofomoachaaaGreatDoorBkMem
namespace Go.Proofs.YtgokofomoachaaaGreatDoor
set_option linter.unusedVariables false
set_option linter.unusedSimpArgs false
open Go.RowKit

namespace Bk

variable {bk n : Nat} {vp op : Value} {w : World}

set_option maxRecDepth 20000 in
set_option maxHeartbeats 1000000 in
theorem fill1 (h : w.heap[bk]? = some (bookObj n vp op)) : Calls Tryz.prog 80 #[.pointer (some ⟨bk, 0, none⟩)] w fun e w' => e = .returned (.tuple #[]) ∧ w' = w := by
  have hc : w.cell? ⟨bk, 1, none⟩ = some (.slice none 0 0) := by rw [cell_of_row w bk 1 _ _ _ h]; rfl
  clear h
  go_enter Tryz.func80, Tryz.ntmps80
  go_wp2
  go_loop [2] (fun k => k = .int .i64 0) (fun _ => 0)
  case atStart => rfl
  case round =>
    subst hrel
    go_wp2
    go_end0
    exact ⟨rfl, rfl⟩

set_option maxRecDepth 20000 in
set_option maxHeartbeats 1000000 in
theorem fill2 (h : w.heap[bk]? = some (bookObj n vp op)) : Calls Tryz.prog 81 #[.pointer (some ⟨bk, 0, none⟩)] w fun e w' => e = .returned (.tuple #[]) ∧ w' = w := by
  have hc : w.cell? ⟨bk, 2, none⟩ = some (.slice none 0 0) := by rw [cell_of_row w bk 2 _ _ _ h]; rfl
  clear h
  go_enter Tryz.func81, Tryz.ntmps81
  go_wp2
  go_loop [2] (fun k => k = .int .i64 0) (fun _ => 0)
  case atStart => rfl
  case round =>
    subst hrel
    go_wp2
    go_end0
    exact ⟨rfl, rfl⟩

set_option maxRecDepth 20000 in
set_option maxHeartbeats 1000000 in
theorem fill3 (h : w.heap[bk]? = some (bookObj n vp op)) : Calls Tryz.prog 82 #[.pointer (some ⟨bk, 0, none⟩)] w fun e w' => e = .returned (.tuple #[]) ∧ w' = w := by
  have hc : w.cell? ⟨bk, 3, none⟩ = some (.slice none 0 0) := by rw [cell_of_row w bk 3 _ _ _ h]; rfl
  clear h
  go_enter Tryz.func82, Tryz.ntmps82
  go_wp2
  go_loop [2] (fun k => k = .int .i64 0) (fun _ => 0)
  case atStart => rfl
  case round =>
    subst hrel
    go_wp2
    go_end0
    exact ⟨rfl, rfl⟩

set_option maxRecDepth 20000 in
set_option maxHeartbeats 1000000 in
theorem fill6 (h : w.heap[bk]? = some (bookObj n vp op)) : Calls Tryz.prog 85 #[.pointer (some ⟨bk, 0, none⟩)] w fun e w' => e = .returned (.tuple #[]) ∧ w' = w := by
  have hc : w.cell? ⟨bk, 6, none⟩ = some (.slice none 0 0) := by rw [cell_of_row w bk 6 _ _ _ h]; rfl
  clear h
  go_enter Tryz.func85, Tryz.ntmps85
  go_wp2
  go_loop [2] (fun k => k = .int .i64 0) (fun _ => 0)
  case atStart => rfl
  case round =>
    subst hrel
    go_wp2
    go_end0
    exact ⟨rfl, rfl⟩

set_option maxRecDepth 20000 in
set_option maxHeartbeats 1000000 in
theorem fill7 (h : w.heap[bk]? = some (bookObj n vp op)) : Calls Tryz.prog 86 #[.pointer (some ⟨bk, 0, none⟩)] w fun e w' => e = .returned (.tuple #[]) ∧ w' = w := by
  have hc : w.cell? ⟨bk, 7, none⟩ = some (.slice none 0 0) := by rw [cell_of_row w bk 7 _ _ _ h]; rfl
  clear h
  go_enter Tryz.func86, Tryz.ntmps86
  go_wp2
  go_loop [2] (fun k => k = .int .i64 0) (fun _ => 0)
  case atStart => rfl
  case round =>
    subst hrel
    go_wp2
    go_end0
    exact ⟨rfl, rfl⟩

set_option maxRecDepth 20000 in
set_option maxHeartbeats 1000000 in
theorem fill8 (h : w.heap[bk]? = some (bookObj n vp op)) : Calls Tryz.prog 87 #[.pointer (some ⟨bk, 0, none⟩)] w fun e w' => e = .returned (.tuple #[]) ∧ w' = w := by
  have hc : w.cell? ⟨bk, 8, none⟩ = some (.slice none 0 0) := by rw [cell_of_row w bk 8 _ _ _ h]; rfl
  clear h
  go_enter Tryz.func87, Tryz.ntmps87
  go_wp2
  go_loop [2] (fun k => k = .int .i64 0) (fun _ => 0)
  case atStart => rfl
  case round =>
    subst hrel
    go_wp2
    go_end0
    exact ⟨rfl, rfl⟩

set_option maxRecDepth 20000 in
set_option maxHeartbeats 1000000 in
theorem fill9 (h : w.heap[bk]? = some (bookObj n vp op)) : Calls Tryz.prog 88 #[.pointer (some ⟨bk, 0, none⟩)] w fun e w' => e = .returned (.tuple #[]) ∧ w' = w := by
  have hc : w.cell? ⟨bk, 9, none⟩ = some (.slice none 0 0) := by rw [cell_of_row w bk 9 _ _ _ h]; rfl
  clear h
  go_enter Tryz.func88, Tryz.ntmps88
  go_wp2
  go_loop [2] (fun k => k = .int .i64 0) (fun _ => 0)
  case atStart => rfl
  case round =>
    subst hrel
    go_wp2
    go_end0
    exact ⟨rfl, rfl⟩

set_option maxRecDepth 20000 in
set_option maxHeartbeats 1000000 in
theorem fill10 (h : w.heap[bk]? = some (bookObj n vp op)) : Calls Tryz.prog 89 #[.pointer (some ⟨bk, 0, none⟩)] w fun e w' => e = .returned (.tuple #[]) ∧ w' = w := by
  have hc : w.cell? ⟨bk, 10, none⟩ = some (.slice none 0 0) := by rw [cell_of_row w bk 10 _ _ _ h]; rfl
  clear h
  go_enter Tryz.func89, Tryz.ntmps89
  go_wp2
  go_loop [2] (fun k => k = .int .i64 0) (fun _ => 0)
  case atStart => rfl
  case round =>
    subst hrel
    go_wp2
    go_end0
    exact ⟨rfl, rfl⟩

set_option maxRecDepth 20000 in
set_option maxHeartbeats 1000000 in
theorem fill11 (h : w.heap[bk]? = some (bookObj n vp op)) : Calls Tryz.prog 90 #[.pointer (some ⟨bk, 0, none⟩)] w fun e w' => e = .returned (.tuple #[]) ∧ w' = w := by
  have hc : w.cell? ⟨bk, 11, none⟩ = some (.slice none 0 0) := by rw [cell_of_row w bk 11 _ _ _ h]; rfl
  clear h
  go_enter Tryz.func90, Tryz.ntmps90
  go_wp2
  go_loop [2] (fun k => k = .int .i64 0) (fun _ => 0)
  case atStart => rfl
  case round =>
    subst hrel
    go_wp2
    go_end0
    exact ⟨rfl, rfl⟩

set_option maxRecDepth 20000 in
set_option maxHeartbeats 1000000 in
theorem fill12 (h : w.heap[bk]? = some (bookObj n vp op)) : Calls Tryz.prog 91 #[.pointer (some ⟨bk, 0, none⟩)] w fun e w' => e = .returned (.tuple #[]) ∧ w' = w := by
  have hc : w.cell? ⟨bk, 12, none⟩ = some (.slice none 0 0) := by rw [cell_of_row w bk 12 _ _ _ h]; rfl
  clear h
  go_enter Tryz.func91, Tryz.ntmps91
  go_wp2
  go_loop [2] (fun k => k = .int .i64 0) (fun _ => 0)
  case atStart => rfl
  case round =>
    subst hrel
    go_wp2
    go_end0
    exact ⟨rfl, rfl⟩

set_option maxRecDepth 20000 in
set_option maxHeartbeats 1000000 in
theorem fill13 (h : w.heap[bk]? = some (bookObj n vp op)) : Calls Tryz.prog 92 #[.pointer (some ⟨bk, 0, none⟩)] w fun e w' => e = .returned (.tuple #[]) ∧ w' = w := by
  have hc : w.cell? ⟨bk, 13, none⟩ = some (.slice none 0 0) := by rw [cell_of_row w bk 13 _ _ _ h]; rfl
  clear h
  go_enter Tryz.func92, Tryz.ntmps92
  go_wp2
  go_loop [2] (fun k => k = .int .i64 0) (fun _ => 0)
  case atStart => rfl
  case round =>
    subst hrel
    go_wp2
    go_end0
    exact ⟨rfl, rfl⟩

set_option maxRecDepth 20000 in
set_option maxHeartbeats 1000000 in
theorem fill14 (h : w.heap[bk]? = some (bookObj n vp op)) : Calls Tryz.prog 93 #[.pointer (some ⟨bk, 0, none⟩)] w fun e w' => e = .returned (.tuple #[]) ∧ w' = w := by
  have hc : w.cell? ⟨bk, 14, none⟩ = some (.slice none 0 0) := by rw [cell_of_row w bk 14 _ _ _ h]; rfl
  clear h
  go_enter Tryz.func93, Tryz.ntmps93
  go_wp2
  go_loop [2] (fun k => k = .int .i64 0) (fun _ => 0)
  case atStart => rfl
  case round =>
    subst hrel
    go_wp2
    go_end0
    exact ⟨rfl, rfl⟩

set_option maxRecDepth 20000 in
set_option maxHeartbeats 1000000 in
theorem fill15 (h : w.heap[bk]? = some (bookObj n vp op)) : Calls Tryz.prog 94 #[.pointer (some ⟨bk, 0, none⟩)] w fun e w' => e = .returned (.tuple #[]) ∧ w' = w := by
  have hc : w.cell? ⟨bk, 15, none⟩ = some (.slice none 0 0) := by rw [cell_of_row w bk 15 _ _ _ h]; rfl
  clear h
  go_enter Tryz.func94, Tryz.ntmps94
  go_wp2
  go_loop [2] (fun k => k = .int .i64 0) (fun _ => 0)
  case atStart => rfl
  case round =>
    subst hrel
    go_wp2
    go_end0
    exact ⟨rfl, rfl⟩

set_option maxRecDepth 20000 in
set_option maxHeartbeats 1000000 in
theorem fill16 (h : w.heap[bk]? = some (bookObj n vp op)) : Calls Tryz.prog 95 #[.pointer (some ⟨bk, 0, none⟩)] w fun e w' => e = .returned (.tuple #[]) ∧ w' = w := by
  have hc : w.cell? ⟨bk, 16, none⟩ = some (.slice none 0 0) := by rw [cell_of_row w bk 16 _ _ _ h]; rfl
  clear h
  go_enter Tryz.func95, Tryz.ntmps95
  go_wp2
  go_loop [2] (fun k => k = .int .i64 0) (fun _ => 0)
  case atStart => rfl
  case round =>
    subst hrel
    go_wp2
    go_end0
    exact ⟨rfl, rfl⟩

set_option maxRecDepth 20000 in
set_option maxHeartbeats 1000000 in
theorem fill17 (h : w.heap[bk]? = some (bookObj n vp op)) : Calls Tryz.prog 96 #[.pointer (some ⟨bk, 0, none⟩)] w fun e w' => e = .returned (.tuple #[]) ∧ w' = w := by
  have hc : w.cell? ⟨bk, 17, none⟩ = some (.slice none 0 0) := by rw [cell_of_row w bk 17 _ _ _ h]; rfl
  clear h
  go_enter Tryz.func96, Tryz.ntmps96
  go_wp2
  go_loop [2] (fun k => k = .int .i64 0) (fun _ => 0)
  case atStart => rfl
  case round =>
    subst hrel
    go_wp2
    go_end0
    exact ⟨rfl, rfl⟩

set_option maxRecDepth 20000 in
set_option maxHeartbeats 1000000 in
theorem fill18 (h : w.heap[bk]? = some (bookObj n vp op)) : Calls Tryz.prog 97 #[.pointer (some ⟨bk, 0, none⟩)] w fun e w' => e = .returned (.tuple #[]) ∧ w' = w := by
  have hc : w.cell? ⟨bk, 18, none⟩ = some (.slice none 0 0) := by rw [cell_of_row w bk 18 _ _ _ h]; rfl
  clear h
  go_enter Tryz.func97, Tryz.ntmps97
  go_wp2
  go_loop [2] (fun k => k = .int .i64 0) (fun _ => 0)
  case atStart => rfl
  case round =>
    subst hrel
    go_wp2
    go_end0
    exact ⟨rfl, rfl⟩

set_option maxRecDepth 20000 in
set_option maxHeartbeats 1000000 in
theorem fill19 (h : w.heap[bk]? = some (bookObj n vp op)) : Calls Tryz.prog 98 #[.pointer (some ⟨bk, 0, none⟩)] w fun e w' => e = .returned (.tuple #[]) ∧ w' = w := by
  have hc : w.cell? ⟨bk, 19, none⟩ = some (.slice none 0 0) := by rw [cell_of_row w bk 19 _ _ _ h]; rfl
  clear h
  go_enter Tryz.func98, Tryz.ntmps98
  go_wp2
  go_loop [2] (fun k => k = .int .i64 0) (fun _ => 0)
  case atStart => rfl
  case round =>
    subst hrel
    go_wp2
    go_end0
    exact ⟨rfl, rfl⟩

set_option maxRecDepth 20000 in
set_option maxHeartbeats 1000000 in
theorem fill20 (h : w.heap[bk]? = some (bookObj n vp op)) : Calls Tryz.prog 99 #[.pointer (some ⟨bk, 0, none⟩)] w fun e w' => e = .returned (.tuple #[]) ∧ w' = w := by
  have hc : w.cell? ⟨bk, 20, none⟩ = some (.slice none 0 0) := by rw [cell_of_row w bk 20 _ _ _ h]; rfl
  clear h
  go_enter Tryz.func99, Tryz.ntmps99
  go_wp2
  go_loop [2] (fun k => k = .int .i64 0) (fun _ => 0)
  case atStart => rfl
  case round =>
    subst hrel
    go_wp2
    go_end0
    exact ⟨rfl, rfl⟩

set_option maxRecDepth 20000 in
set_option maxHeartbeats 1000000 in
theorem grow1 (h : w.heap[bk]? = some (bookObj n vp op)) : Calls Tryz.prog 100 #[.pointer (some ⟨bk, 0, none⟩)] w fun e w' => e = .returned (.tuple #[]) ∧ w' = w := by
  have hc : w.cell? ⟨bk, 1, none⟩ = some (.slice none 0 0) := by rw [cell_of_row w bk 1 _ _ _ h]; rfl
  clear h
  go_enter Tryz.func100, Tryz.ntmps100
  go_wp2
  go_loop [2] (fun k => k = .int .i64 0) (fun _ => 0)
  case atStart => rfl
  case round =>
    subst hrel
    go_wp2
    go_end0
    exact ⟨rfl, rfl⟩

set_option maxRecDepth 20000 in
set_option maxHeartbeats 1000000 in
theorem grow2 (h : w.heap[bk]? = some (bookObj n vp op)) : Calls Tryz.prog 101 #[.pointer (some ⟨bk, 0, none⟩)] w fun e w' => e = .returned (.tuple #[]) ∧ w' = w := by
  have hc : w.cell? ⟨bk, 2, none⟩ = some (.slice none 0 0) := by rw [cell_of_row w bk 2 _ _ _ h]; rfl
  clear h
  go_enter Tryz.func101, Tryz.ntmps101
  go_wp2
  go_loop [2] (fun k => k = .int .i64 0) (fun _ => 0)
  case atStart => rfl
  case round =>
    subst hrel
    go_wp2
    go_end0
    exact ⟨rfl, rfl⟩

set_option maxRecDepth 20000 in
set_option maxHeartbeats 1000000 in
theorem grow3 (h : w.heap[bk]? = some (bookObj n vp op)) : Calls Tryz.prog 102 #[.pointer (some ⟨bk, 0, none⟩)] w fun e w' => e = .returned (.tuple #[]) ∧ w' = w := by
  have hc : w.cell? ⟨bk, 3, none⟩ = some (.slice none 0 0) := by rw [cell_of_row w bk 3 _ _ _ h]; rfl
  clear h
  go_enter Tryz.func102, Tryz.ntmps102
  go_wp2
  go_loop [2] (fun k => k = .int .i64 0) (fun _ => 0)
  case atStart => rfl
  case round =>
    subst hrel
    go_wp2
    go_end0
    exact ⟨rfl, rfl⟩

set_option maxRecDepth 20000 in
set_option maxHeartbeats 1000000 in
theorem grow6 (h : w.heap[bk]? = some (bookObj n vp op)) : Calls Tryz.prog 105 #[.pointer (some ⟨bk, 0, none⟩)] w fun e w' => e = .returned (.tuple #[]) ∧ w' = w := by
  have hc : w.cell? ⟨bk, 6, none⟩ = some (.slice none 0 0) := by rw [cell_of_row w bk 6 _ _ _ h]; rfl
  clear h
  go_enter Tryz.func105, Tryz.ntmps105
  go_wp2
  go_loop [2] (fun k => k = .int .i64 0) (fun _ => 0)
  case atStart => rfl
  case round =>
    subst hrel
    go_wp2
    go_end0
    exact ⟨rfl, rfl⟩

set_option maxRecDepth 20000 in
set_option maxHeartbeats 1000000 in
theorem grow7 (h : w.heap[bk]? = some (bookObj n vp op)) : Calls Tryz.prog 106 #[.pointer (some ⟨bk, 0, none⟩)] w fun e w' => e = .returned (.tuple #[]) ∧ w' = w := by
  have hc : w.cell? ⟨bk, 7, none⟩ = some (.slice none 0 0) := by rw [cell_of_row w bk 7 _ _ _ h]; rfl
  clear h
  go_enter Tryz.func106, Tryz.ntmps106
  go_wp2
  go_loop [2] (fun k => k = .int .i64 0) (fun _ => 0)
  case atStart => rfl
  case round =>
    subst hrel
    go_wp2
    go_end0
    exact ⟨rfl, rfl⟩

set_option maxRecDepth 20000 in
set_option maxHeartbeats 1000000 in
theorem grow8 (h : w.heap[bk]? = some (bookObj n vp op)) : Calls Tryz.prog 107 #[.pointer (some ⟨bk, 0, none⟩)] w fun e w' => e = .returned (.tuple #[]) ∧ w' = w := by
  have hc : w.cell? ⟨bk, 8, none⟩ = some (.slice none 0 0) := by rw [cell_of_row w bk 8 _ _ _ h]; rfl
  clear h
  go_enter Tryz.func107, Tryz.ntmps107
  go_wp2
  go_loop [2] (fun k => k = .int .i64 0) (fun _ => 0)
  case atStart => rfl
  case round =>
    subst hrel
    go_wp2
    go_end0
    exact ⟨rfl, rfl⟩

set_option maxRecDepth 20000 in
set_option maxHeartbeats 1000000 in
theorem grow9 (h : w.heap[bk]? = some (bookObj n vp op)) : Calls Tryz.prog 108 #[.pointer (some ⟨bk, 0, none⟩)] w fun e w' => e = .returned (.tuple #[]) ∧ w' = w := by
  have hc : w.cell? ⟨bk, 9, none⟩ = some (.slice none 0 0) := by rw [cell_of_row w bk 9 _ _ _ h]; rfl
  clear h
  go_enter Tryz.func108, Tryz.ntmps108
  go_wp2
  go_loop [2] (fun k => k = .int .i64 0) (fun _ => 0)
  case atStart => rfl
  case round =>
    subst hrel
    go_wp2
    go_end0
    exact ⟨rfl, rfl⟩

set_option maxRecDepth 20000 in
set_option maxHeartbeats 1000000 in
theorem grow10 (h : w.heap[bk]? = some (bookObj n vp op)) : Calls Tryz.prog 109 #[.pointer (some ⟨bk, 0, none⟩)] w fun e w' => e = .returned (.tuple #[]) ∧ w' = w := by
  have hc : w.cell? ⟨bk, 10, none⟩ = some (.slice none 0 0) := by rw [cell_of_row w bk 10 _ _ _ h]; rfl
  clear h
  go_enter Tryz.func109, Tryz.ntmps109
  go_wp2
  go_loop [2] (fun k => k = .int .i64 0) (fun _ => 0)
  case atStart => rfl
  case round =>
    subst hrel
    go_wp2
    go_end0
    exact ⟨rfl, rfl⟩

set_option maxRecDepth 20000 in
set_option maxHeartbeats 1000000 in
theorem grow11 (h : w.heap[bk]? = some (bookObj n vp op)) : Calls Tryz.prog 110 #[.pointer (some ⟨bk, 0, none⟩)] w fun e w' => e = .returned (.tuple #[]) ∧ w' = w := by
  have hc : w.cell? ⟨bk, 11, none⟩ = some (.slice none 0 0) := by rw [cell_of_row w bk 11 _ _ _ h]; rfl
  clear h
  go_enter Tryz.func110, Tryz.ntmps110
  go_wp2
  go_loop [2] (fun k => k = .int .i64 0) (fun _ => 0)
  case atStart => rfl
  case round =>
    subst hrel
    go_wp2
    go_end0
    exact ⟨rfl, rfl⟩

set_option maxRecDepth 20000 in
set_option maxHeartbeats 1000000 in
theorem grow12 (h : w.heap[bk]? = some (bookObj n vp op)) : Calls Tryz.prog 111 #[.pointer (some ⟨bk, 0, none⟩)] w fun e w' => e = .returned (.tuple #[]) ∧ w' = w := by
  have hc : w.cell? ⟨bk, 12, none⟩ = some (.slice none 0 0) := by rw [cell_of_row w bk 12 _ _ _ h]; rfl
  clear h
  go_enter Tryz.func111, Tryz.ntmps111
  go_wp2
  go_loop [2] (fun k => k = .int .i64 0) (fun _ => 0)
  case atStart => rfl
  case round =>
    subst hrel
    go_wp2
    go_end0
    exact ⟨rfl, rfl⟩

set_option maxRecDepth 20000 in
set_option maxHeartbeats 1000000 in
theorem grow13 (h : w.heap[bk]? = some (bookObj n vp op)) : Calls Tryz.prog 112 #[.pointer (some ⟨bk, 0, none⟩)] w fun e w' => e = .returned (.tuple #[]) ∧ w' = w := by
  have hc : w.cell? ⟨bk, 13, none⟩ = some (.slice none 0 0) := by rw [cell_of_row w bk 13 _ _ _ h]; rfl
  clear h
  go_enter Tryz.func112, Tryz.ntmps112
  go_wp2
  go_loop [2] (fun k => k = .int .i64 0) (fun _ => 0)
  case atStart => rfl
  case round =>
    subst hrel
    go_wp2
    go_end0
    exact ⟨rfl, rfl⟩

set_option maxRecDepth 20000 in
set_option maxHeartbeats 1000000 in
theorem grow14 (h : w.heap[bk]? = some (bookObj n vp op)) : Calls Tryz.prog 113 #[.pointer (some ⟨bk, 0, none⟩)] w fun e w' => e = .returned (.tuple #[]) ∧ w' = w := by
  have hc : w.cell? ⟨bk, 14, none⟩ = some (.slice none 0 0) := by rw [cell_of_row w bk 14 _ _ _ h]; rfl
  clear h
  go_enter Tryz.func113, Tryz.ntmps113
  go_wp2
  go_loop [2] (fun k => k = .int .i64 0) (fun _ => 0)
  case atStart => rfl
  case round =>
    subst hrel
    go_wp2
    go_end0
    exact ⟨rfl, rfl⟩

set_option maxRecDepth 20000 in
set_option maxHeartbeats 1000000 in
theorem grow15 (h : w.heap[bk]? = some (bookObj n vp op)) : Calls Tryz.prog 114 #[.pointer (some ⟨bk, 0, none⟩)] w fun e w' => e = .returned (.tuple #[]) ∧ w' = w := by
  have hc : w.cell? ⟨bk, 15, none⟩ = some (.slice none 0 0) := by rw [cell_of_row w bk 15 _ _ _ h]; rfl
  clear h
  go_enter Tryz.func114, Tryz.ntmps114
  go_wp2
  go_loop [2] (fun k => k = .int .i64 0) (fun _ => 0)
  case atStart => rfl
  case round =>
    subst hrel
    go_wp2
    go_end0
    exact ⟨rfl, rfl⟩

set_option maxRecDepth 20000 in
set_option maxHeartbeats 1000000 in
theorem grow16 (h : w.heap[bk]? = some (bookObj n vp op)) : Calls Tryz.prog 115 #[.pointer (some ⟨bk, 0, none⟩)] w fun e w' => e = .returned (.tuple #[]) ∧ w' = w := by
  have hc : w.cell? ⟨bk, 16, none⟩ = some (.slice none 0 0) := by rw [cell_of_row w bk 16 _ _ _ h]; rfl
  clear h
  go_enter Tryz.func115, Tryz.ntmps115
  go_wp2
  go_loop [2] (fun k => k = .int .i64 0) (fun _ => 0)
  case atStart => rfl
  case round =>
    subst hrel
    go_wp2
    go_end0
    exact ⟨rfl, rfl⟩

set_option maxRecDepth 20000 in
set_option maxHeartbeats 1000000 in
theorem grow17 (h : w.heap[bk]? = some (bookObj n vp op)) : Calls Tryz.prog 116 #[.pointer (some ⟨bk, 0, none⟩)] w fun e w' => e = .returned (.tuple #[]) ∧ w' = w := by
  have hc : w.cell? ⟨bk, 17, none⟩ = some (.slice none 0 0) := by rw [cell_of_row w bk 17 _ _ _ h]; rfl
  clear h
  go_enter Tryz.func116, Tryz.ntmps116
  go_wp2
  go_loop [2] (fun k => k = .int .i64 0) (fun _ => 0)
  case atStart => rfl
  case round =>
    subst hrel
    go_wp2
    go_end0
    exact ⟨rfl, rfl⟩

set_option maxRecDepth 20000 in
set_option maxHeartbeats 1000000 in
theorem grow18 (h : w.heap[bk]? = some (bookObj n vp op)) : Calls Tryz.prog 117 #[.pointer (some ⟨bk, 0, none⟩)] w fun e w' => e = .returned (.tuple #[]) ∧ w' = w := by
  have hc : w.cell? ⟨bk, 18, none⟩ = some (.slice none 0 0) := by rw [cell_of_row w bk 18 _ _ _ h]; rfl
  clear h
  go_enter Tryz.func117, Tryz.ntmps117
  go_wp2
  go_loop [2] (fun k => k = .int .i64 0) (fun _ => 0)
  case atStart => rfl
  case round =>
    subst hrel
    go_wp2
    go_end0
    exact ⟨rfl, rfl⟩

set_option maxRecDepth 20000 in
set_option maxHeartbeats 1000000 in
theorem grow19 (h : w.heap[bk]? = some (bookObj n vp op)) : Calls Tryz.prog 118 #[.pointer (some ⟨bk, 0, none⟩)] w fun e w' => e = .returned (.tuple #[]) ∧ w' = w := by
  have hc : w.cell? ⟨bk, 19, none⟩ = some (.slice none 0 0) := by rw [cell_of_row w bk 19 _ _ _ h]; rfl
  clear h
  go_enter Tryz.func118, Tryz.ntmps118
  go_wp2
  go_loop [2] (fun k => k = .int .i64 0) (fun _ => 0)
  case atStart => rfl
  case round =>
    subst hrel
    go_wp2
    go_end0
    exact ⟨rfl, rfl⟩

set_option maxRecDepth 20000 in
set_option maxHeartbeats 1000000 in
theorem grow20 (h : w.heap[bk]? = some (bookObj n vp op)) : Calls Tryz.prog 119 #[.pointer (some ⟨bk, 0, none⟩)] w fun e w' => e = .returned (.tuple #[]) ∧ w' = w := by
  have hc : w.cell? ⟨bk, 20, none⟩ = some (.slice none 0 0) := by rw [cell_of_row w bk 20 _ _ _ h]; rfl
  clear h
  go_enter Tryz.func119, Tryz.ntmps119
  go_wp2
  go_loop [2] (fun k => k = .int .i64 0) (fun _ => 0)
  case atStart => rfl
  case round =>
    subst hrel
    go_wp2
    go_end0
    exact ⟨rfl, rfl⟩

set_option maxRecDepth 20000 in
set_option maxHeartbeats 1000000 in
theorem look1 (h : w.heap[bk]? = some (bookObj n vp op)) : Calls Tryz.prog 120 #[.pointer (some ⟨bk, 0, none⟩)] w fun e w' => e = .returned (.bool true) ∧ w' = w := by
  have hc : w.cell? ⟨bk, 1, none⟩ = some (.slice none 0 0) := by rw [cell_of_row w bk 1 _ _ _ h]; rfl
  clear h
  go_enter Tryz.func120, Tryz.ntmps120
  go_wp2
  go_loop [3] (fun k => k = .int .i64 0) (fun _ => 0)
  case atStart => rfl
  case round =>
    subst hrel
    go_wp2
    go_ret
    exact ⟨rfl, rfl⟩

set_option maxRecDepth 20000 in
set_option maxHeartbeats 1000000 in
theorem look2 (h : w.heap[bk]? = some (bookObj n vp op)) : Calls Tryz.prog 121 #[.pointer (some ⟨bk, 0, none⟩)] w fun e w' => e = .returned (.bool true) ∧ w' = w := by
  have hc : w.cell? ⟨bk, 2, none⟩ = some (.slice none 0 0) := by rw [cell_of_row w bk 2 _ _ _ h]; rfl
  clear h
  go_enter Tryz.func121, Tryz.ntmps121
  go_wp2
  go_loop [3] (fun k => k = .int .i64 0) (fun _ => 0)
  case atStart => rfl
  case round =>
    subst hrel
    go_wp2
    go_ret
    exact ⟨rfl, rfl⟩

set_option maxRecDepth 20000 in
set_option maxHeartbeats 1000000 in
theorem look3 (h : w.heap[bk]? = some (bookObj n vp op)) : Calls Tryz.prog 122 #[.pointer (some ⟨bk, 0, none⟩)] w fun e w' => e = .returned (.bool true) ∧ w' = w := by
  have hc : w.cell? ⟨bk, 3, none⟩ = some (.slice none 0 0) := by rw [cell_of_row w bk 3 _ _ _ h]; rfl
  clear h
  go_enter Tryz.func122, Tryz.ntmps122
  go_wp2
  go_loop [3] (fun k => k = .int .i64 0) (fun _ => 0)
  case atStart => rfl
  case round =>
    subst hrel
    go_wp2
    go_ret
    exact ⟨rfl, rfl⟩

set_option maxRecDepth 20000 in
set_option maxHeartbeats 1000000 in
theorem look6 (h : w.heap[bk]? = some (bookObj n vp op)) : Calls Tryz.prog 125 #[.pointer (some ⟨bk, 0, none⟩)] w fun e w' => e = .returned (.bool true) ∧ w' = w := by
  have hc : w.cell? ⟨bk, 6, none⟩ = some (.slice none 0 0) := by rw [cell_of_row w bk 6 _ _ _ h]; rfl
  clear h
  go_enter Tryz.func125, Tryz.ntmps125
  go_wp2
  go_loop [3] (fun k => k = .int .i64 0) (fun _ => 0)
  case atStart => rfl
  case round =>
    subst hrel
    go_wp2
    go_ret
    exact ⟨rfl, rfl⟩

set_option maxRecDepth 20000 in
set_option maxHeartbeats 1000000 in
theorem look7 (h : w.heap[bk]? = some (bookObj n vp op)) : Calls Tryz.prog 126 #[.pointer (some ⟨bk, 0, none⟩)] w fun e w' => e = .returned (.bool true) ∧ w' = w := by
  have hc : w.cell? ⟨bk, 7, none⟩ = some (.slice none 0 0) := by rw [cell_of_row w bk 7 _ _ _ h]; rfl
  clear h
  go_enter Tryz.func126, Tryz.ntmps126
  go_wp2
  go_loop [3] (fun k => k = .int .i64 0) (fun _ => 0)
  case atStart => rfl
  case round =>
    subst hrel
    go_wp2
    go_ret
    exact ⟨rfl, rfl⟩

set_option maxRecDepth 20000 in
set_option maxHeartbeats 1000000 in
theorem look8 (h : w.heap[bk]? = some (bookObj n vp op)) : Calls Tryz.prog 127 #[.pointer (some ⟨bk, 0, none⟩)] w fun e w' => e = .returned (.bool true) ∧ w' = w := by
  have hc : w.cell? ⟨bk, 8, none⟩ = some (.slice none 0 0) := by rw [cell_of_row w bk 8 _ _ _ h]; rfl
  clear h
  go_enter Tryz.func127, Tryz.ntmps127
  go_wp2
  go_loop [3] (fun k => k = .int .i64 0) (fun _ => 0)
  case atStart => rfl
  case round =>
    subst hrel
    go_wp2
    go_ret
    exact ⟨rfl, rfl⟩

set_option maxRecDepth 20000 in
set_option maxHeartbeats 1000000 in
theorem look9 (h : w.heap[bk]? = some (bookObj n vp op)) : Calls Tryz.prog 128 #[.pointer (some ⟨bk, 0, none⟩)] w fun e w' => e = .returned (.bool true) ∧ w' = w := by
  have hc : w.cell? ⟨bk, 9, none⟩ = some (.slice none 0 0) := by rw [cell_of_row w bk 9 _ _ _ h]; rfl
  clear h
  go_enter Tryz.func128, Tryz.ntmps128
  go_wp2
  go_loop [3] (fun k => k = .int .i64 0) (fun _ => 0)
  case atStart => rfl
  case round =>
    subst hrel
    go_wp2
    go_ret
    exact ⟨rfl, rfl⟩

set_option maxRecDepth 20000 in
set_option maxHeartbeats 1000000 in
theorem look10 (h : w.heap[bk]? = some (bookObj n vp op)) : Calls Tryz.prog 129 #[.pointer (some ⟨bk, 0, none⟩)] w fun e w' => e = .returned (.bool true) ∧ w' = w := by
  have hc : w.cell? ⟨bk, 10, none⟩ = some (.slice none 0 0) := by rw [cell_of_row w bk 10 _ _ _ h]; rfl
  clear h
  go_enter Tryz.func129, Tryz.ntmps129
  go_wp2
  go_loop [3] (fun k => k = .int .i64 0) (fun _ => 0)
  case atStart => rfl
  case round =>
    subst hrel
    go_wp2
    go_ret
    exact ⟨rfl, rfl⟩

set_option maxRecDepth 20000 in
set_option maxHeartbeats 1000000 in
theorem look11 (h : w.heap[bk]? = some (bookObj n vp op)) : Calls Tryz.prog 130 #[.pointer (some ⟨bk, 0, none⟩)] w fun e w' => e = .returned (.bool true) ∧ w' = w := by
  have hc : w.cell? ⟨bk, 11, none⟩ = some (.slice none 0 0) := by rw [cell_of_row w bk 11 _ _ _ h]; rfl
  clear h
  go_enter Tryz.func130, Tryz.ntmps130
  go_wp2
  go_loop [3] (fun k => k = .int .i64 0) (fun _ => 0)
  case atStart => rfl
  case round =>
    subst hrel
    go_wp2
    go_ret
    exact ⟨rfl, rfl⟩

set_option maxRecDepth 20000 in
set_option maxHeartbeats 1000000 in
theorem look12 (h : w.heap[bk]? = some (bookObj n vp op)) : Calls Tryz.prog 131 #[.pointer (some ⟨bk, 0, none⟩)] w fun e w' => e = .returned (.bool true) ∧ w' = w := by
  have hc : w.cell? ⟨bk, 12, none⟩ = some (.slice none 0 0) := by rw [cell_of_row w bk 12 _ _ _ h]; rfl
  clear h
  go_enter Tryz.func131, Tryz.ntmps131
  go_wp2
  go_loop [3] (fun k => k = .int .i64 0) (fun _ => 0)
  case atStart => rfl
  case round =>
    subst hrel
    go_wp2
    go_ret
    exact ⟨rfl, rfl⟩

set_option maxRecDepth 20000 in
set_option maxHeartbeats 1000000 in
theorem look13 (h : w.heap[bk]? = some (bookObj n vp op)) : Calls Tryz.prog 132 #[.pointer (some ⟨bk, 0, none⟩)] w fun e w' => e = .returned (.bool true) ∧ w' = w := by
  have hc : w.cell? ⟨bk, 13, none⟩ = some (.slice none 0 0) := by rw [cell_of_row w bk 13 _ _ _ h]; rfl
  clear h
  go_enter Tryz.func132, Tryz.ntmps132
  go_wp2
  go_loop [3] (fun k => k = .int .i64 0) (fun _ => 0)
  case atStart => rfl
  case round =>
    subst hrel
    go_wp2
    go_ret
    exact ⟨rfl, rfl⟩

set_option maxRecDepth 20000 in
set_option maxHeartbeats 1000000 in
theorem look14 (h : w.heap[bk]? = some (bookObj n vp op)) : Calls Tryz.prog 133 #[.pointer (some ⟨bk, 0, none⟩)] w fun e w' => e = .returned (.bool true) ∧ w' = w := by
  have hc : w.cell? ⟨bk, 14, none⟩ = some (.slice none 0 0) := by rw [cell_of_row w bk 14 _ _ _ h]; rfl
  clear h
  go_enter Tryz.func133, Tryz.ntmps133
  go_wp2
  go_loop [3] (fun k => k = .int .i64 0) (fun _ => 0)
  case atStart => rfl
  case round =>
    subst hrel
    go_wp2
    go_ret
    exact ⟨rfl, rfl⟩

set_option maxRecDepth 20000 in
set_option maxHeartbeats 1000000 in
theorem look15 (h : w.heap[bk]? = some (bookObj n vp op)) : Calls Tryz.prog 134 #[.pointer (some ⟨bk, 0, none⟩)] w fun e w' => e = .returned (.bool true) ∧ w' = w := by
  have hc : w.cell? ⟨bk, 15, none⟩ = some (.slice none 0 0) := by rw [cell_of_row w bk 15 _ _ _ h]; rfl
  clear h
  go_enter Tryz.func134, Tryz.ntmps134
  go_wp2
  go_loop [3] (fun k => k = .int .i64 0) (fun _ => 0)
  case atStart => rfl
  case round =>
    subst hrel
    go_wp2
    go_ret
    exact ⟨rfl, rfl⟩

set_option maxRecDepth 20000 in
set_option maxHeartbeats 1000000 in
theorem look16 (h : w.heap[bk]? = some (bookObj n vp op)) : Calls Tryz.prog 135 #[.pointer (some ⟨bk, 0, none⟩)] w fun e w' => e = .returned (.bool true) ∧ w' = w := by
  have hc : w.cell? ⟨bk, 16, none⟩ = some (.slice none 0 0) := by rw [cell_of_row w bk 16 _ _ _ h]; rfl
  clear h
  go_enter Tryz.func135, Tryz.ntmps135
  go_wp2
  go_loop [3] (fun k => k = .int .i64 0) (fun _ => 0)
  case atStart => rfl
  case round =>
    subst hrel
    go_wp2
    go_ret
    exact ⟨rfl, rfl⟩

set_option maxRecDepth 20000 in
set_option maxHeartbeats 1000000 in
theorem look17 (h : w.heap[bk]? = some (bookObj n vp op)) : Calls Tryz.prog 136 #[.pointer (some ⟨bk, 0, none⟩)] w fun e w' => e = .returned (.bool true) ∧ w' = w := by
  have hc : w.cell? ⟨bk, 17, none⟩ = some (.slice none 0 0) := by rw [cell_of_row w bk 17 _ _ _ h]; rfl
  clear h
  go_enter Tryz.func136, Tryz.ntmps136
  go_wp2
  go_loop [3] (fun k => k = .int .i64 0) (fun _ => 0)
  case atStart => rfl
  case round =>
    subst hrel
    go_wp2
    go_ret
    exact ⟨rfl, rfl⟩

set_option maxRecDepth 20000 in
set_option maxHeartbeats 1000000 in
theorem look18 (h : w.heap[bk]? = some (bookObj n vp op)) : Calls Tryz.prog 137 #[.pointer (some ⟨bk, 0, none⟩)] w fun e w' => e = .returned (.bool true) ∧ w' = w := by
  have hc : w.cell? ⟨bk, 18, none⟩ = some (.slice none 0 0) := by rw [cell_of_row w bk 18 _ _ _ h]; rfl
  clear h
  go_enter Tryz.func137, Tryz.ntmps137
  go_wp2
  go_loop [3] (fun k => k = .int .i64 0) (fun _ => 0)
  case atStart => rfl
  case round =>
    subst hrel
    go_wp2
    go_ret
    exact ⟨rfl, rfl⟩

set_option maxRecDepth 20000 in
set_option maxHeartbeats 1000000 in
theorem look19 (h : w.heap[bk]? = some (bookObj n vp op)) : Calls Tryz.prog 138 #[.pointer (some ⟨bk, 0, none⟩)] w fun e w' => e = .returned (.bool true) ∧ w' = w := by
  have hc : w.cell? ⟨bk, 19, none⟩ = some (.slice none 0 0) := by rw [cell_of_row w bk 19 _ _ _ h]; rfl
  clear h
  go_enter Tryz.func138, Tryz.ntmps138
  go_wp2
  go_loop [3] (fun k => k = .int .i64 0) (fun _ => 0)
  case atStart => rfl
  case round =>
    subst hrel
    go_wp2
    go_ret
    exact ⟨rfl, rfl⟩

set_option maxRecDepth 20000 in
set_option maxHeartbeats 1000000 in
theorem look20 (h : w.heap[bk]? = some (bookObj n vp op)) : Calls Tryz.prog 139 #[.pointer (some ⟨bk, 0, none⟩)] w fun e w' => e = .returned (.bool true) ∧ w' = w := by
  have hc : w.cell? ⟨bk, 20, none⟩ = some (.slice none 0 0) := by rw [cell_of_row w bk 20 _ _ _ h]; rfl
  clear h
  go_enter Tryz.func139, Tryz.ntmps139
  go_wp2
  go_loop [3] (fun k => k = .int .i64 0) (fun _ => 0)
  case atStart => rfl
  case round =>
    subst hrel
    go_wp2
    go_ret
    exact ⟨rfl, rfl⟩

end Bk

end Go.Proofs.YtgokofomoachaaaGreatDoor
