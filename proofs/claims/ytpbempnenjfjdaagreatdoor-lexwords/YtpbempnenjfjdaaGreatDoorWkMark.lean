/- The book's marks of words. -/
import Derived.Test.YtpbempnenjfjdaaGreatDoorWkHold
namespace Go.Proofs.YtpbempnenjfjdaaGreatDoor
set_option linter.unusedVariables false
set_option linter.unusedSimpArgs false
open Go.RowKit

variable {w : World}

/-- The text of a mark. -/
def mkS (n : Nat) : ByteArray := bs [35, UInt8.ofNat (48 + n)]

/-- A mark's cells. -/
def mkc (n : Nat) : List Value := [.int .u8 0, .string (mkS n), .int .i64 0, .int .i64 0]

theorem small_piece {d : Nat} (h : d < 10) : (⟨#[48, 49, 50, 51, 52, 53, 54, 55, 56, 57, 97, 98, 99, 100, 101, 102, 103, 104, 105, 106, 107, 108, 109, 110, 111, 112, 113, 114, 115, 116, 117, 118, 119, 120, 121, 122]⟩ : ByteArray).extract d (d + 1) = bs [UInt8.ofNat (48 + d)] := by
  have e : (⟨#[48, 49, 50, 51, 52, 53, 54, 55, 56, 57, 97, 98, 99, 100, 101, 102, 103, 104, 105, 106, 107, 108, 109, 110, 111, 112, 113, 114, 115, 116, 117, 118, 119, 120, 121, 122]⟩ : ByteArray) = bs [48, 49, 50, 51, 52, 53, 54, 55, 56, 57, 97, 98, 99, 100, 101, 102, 103, 104, 105, 106, 107, 108, 109, 110, 111, 112, 113, 114, 115, 116, 117, 118, 119, 120, 121, 122] := rfl
  rw [e, bs_piece]
  match d, h with
  | 0, _ => rfl
  | 1, _ => rfl
  | 2, _ => rfl
  | 3, _ => rfl
  | 4, _ => rfl
  | 5, _ => rfl
  | 6, _ => rfl
  | 7, _ => rfl
  | 8, _ => rfl
  | 9, _ => rfl

set_option maxRecDepth 20000 in
set_option maxHeartbeats 1000000 in
theorem small_in (n : Nat) (hn : n ≤ 9) (w : World) : Calls Tryz.prog 165 #[.int .i64 n] w fun e w' => e = .returned (.string (bs [UInt8.ofNat (48 + n)])) ∧ w' = w := by
  have hp := small_piece (d := n) (by omega)
  generalize bs [UInt8.ofNat (48 + n)] = r at *
  have hq : (n : Int) < 10 := by omega
  go_enter Tryz.func165, Tryz.ntmps165
  go_wp2
  go_ret
  refine ⟨?_, rfl⟩
  first | rfl | (rw [← hp]; rfl) | (simp [hp]; done)

set_option maxRecDepth 20000 in
set_option maxHeartbeats 1000000 in
theorem bword_in (n : Nat) (hn : n ≤ 9) (w : World) : Calls Tryz.prog 137 #[.int .i64 n] w fun e w' => e = .returned (.string (mkS n)) ∧ w' = w := by
  have H1 := small_in n hn
  have hcat : (⟨#[35]⟩ : ByteArray) ++ bs [UInt8.ofNat (48 + n)] = mkS n := by
    show bs [35] ++ bs [UInt8.ofNat (48 + n)] = _
    rw [bs_app]
    rfl
  have hs1 : (⟨#[35]⟩ : ByteArray).size = 1 := rfl
  have hs2 : (bs [UInt8.ofNat (48 + n)]).size = 1 := by rw [bs_size]; rfl
  generalize bs [UInt8.ofNat (48 + n)] = r at *
  generalize mkS n = M at *
  have hq0 : (0 : Int) ≤ (n : Int) := by omega
  have hq1 : (n : Int) < 100 := by omega
  have H2 : ∀ w, Calls Tryz.prog 160 #[.int .i64 n, .int .i64 10] w fun e w' => e = .returned (.string r) ∧ w' = w := fun w => by
    go_enter Tryz.func160, Tryz.ntmps160
    go_wp2_with (first
      | (go_at_call 165; (with_reducible refine (H1 _).mono ?_); rintro e w2 ⟨rfl, rfl⟩))
    go_ret
    exact ⟨rfl, rfl⟩
  have H3 : ∀ w, Calls Tryz.prog 154 #[.int .i64 n] w fun e w' => e = .returned (.string r) ∧ w' = w := fun w => by
    go_enter Tryz.func154, Tryz.ntmps154
    go_wp2_with (first
      | (go_at_call 160; (with_reducible refine (H2 _).mono ?_); rintro e w2 ⟨rfl, rfl⟩))
    go_ret
    exact ⟨rfl, rfl⟩
  have H4 : ∀ w, Calls Tryz.prog 146 #[.int .i64 n] w fun e w' => e = .returned (.string r) ∧ w' = w := fun w => by
    go_enter Tryz.func146, Tryz.ntmps146
    go_wp2_with (first
      | (go_at_call 154; (with_reducible refine (H3 _).mono ?_); rintro e w2 ⟨rfl, rfl⟩))
    go_ret
    exact ⟨rfl, rfl⟩
  go_enter Tryz.func137, Tryz.ntmps137
  go_wp2_with (first
    | (go_at_call 146; (with_reducible refine (H4 _).mono ?_); rintro e w2 ⟨rfl, rfl⟩))
  go_ret
  refine ⟨?_, rfl⟩
  first | rfl | (rw [← hcat]; rfl)

set_option maxRecDepth 20000 in
set_option maxHeartbeats 1000000 in
theorem markWord_in (n : Nat) (hn : n ≤ 9) (w : World) : Calls Tryz.prog 102 #[.int .i64 n] w fun e w' => e = .returned (.agg #[.int .u8 0, .string (mkS n), .int .i64 0, .int .i64 0]) ∧ Below w.heap.size w w' := by
  have H1 := bword_in n hn
  have hA := below1 w (.cells #[.int .u8 0, .string ⟨#[]⟩, .int .i64 0, .int .i64 0] 56)
  have hz := heap_alloc_new w (.cells #[.int .u8 0, .string ⟨#[]⟩, .int .i64 0, .int .i64 0] 56)
  go_enter Tryz.func102, Tryz.ntmps102
  go_wp2_with (first
    | (go_at_call 137; (with_reducible refine (H1 _).mono ?_); rintro e w2 ⟨rfl, rfl⟩; generalize w.alloc (.cells #[.int .u8 0, .string ⟨#[]⟩, .int .i64 0, .int .i64 0] 56) = W1 at *; obtain ⟨⟨c0, c1, c2, c3⟩, f0, f1, f2, f3⟩ := cell_row4 hz))
  (try simp only [Exit.inBlock, Exit.then])
  refine bodyPost_ret (results_cell_row (by rfl) _ _ w.heap.size 56 #[.int .u8 0, .string (mkS n), .int .i64 0, .int .i64 0] (0, 0) _ (by rfl) (set4_row hz) Tryz.underlying56 (by rfl) infoWord) (by rfl) ?_
  exact ⟨rfl, below_set4 hA (Nat.le_refl _) _ _ _ _⟩

set_option maxRecDepth 20000 in
set_option maxHeartbeats 1000000 in
theorem isWord_in (n : Nat) (hn : n ≤ 9) (w : World) : Calls Tryz.prog 122 #[.agg #[.int .u8 0, .string (mkS n), .int .i64 0, .int .i64 0], .int .i64 n] w fun e w' => e = .returned (.bool true) ∧ Below w.heap.size w w' := by
  have H1 := bword_in n hn
  have hA := below1 w (.cells #[.int .u8 0, .string (mkS n), .int .i64 0, .int .i64 0] 56)
  have hz := heap_alloc_new w (.cells #[.int .u8 0, .string (mkS n), .int .i64 0, .int .i64 0] 56)
  generalize mkS n = M at *
  go_enter Tryz.func122, Tryz.ntmps122
  go_wp2
  generalize w.alloc (.cells #[.int .u8 0, .string M, .int .i64 0, .int .i64 0] 56) = W1 at *
  obtain ⟨⟨c0, c1, c2, c3⟩, f0, f1, f2, f3⟩ := cell_row4 hz
  go_region_with (first
    | (go_at_call 137; (with_reducible refine (H1 _).mono ?_); rintro e w2 ⟨rfl, rfl⟩))
  all_goals
    go_wp2
    go_ret
    exact ⟨rfl, below_drew hA⟩

end Go.Proofs.YtpbempnenjfjdaaGreatDoor
