/- slices.Repeat, as the program asks for it. -/
import Derived.Test.YtpjgdbeekmoedaaDoorVfRow
import Derived.Shelf.Bits.Mul64
import Derived.Laws.CopyOwn
namespace Go.Proofs.YtpjgdbeekmoedaaDoor
set_option linter.unusedVariables false
set_option linter.unusedSimpArgs false
open Go.RowKit

variable {w : World}

set_option maxHeartbeats 1000000 in
theorem mul64_in (x y : Nat) (hx : x < 18446744073709551616) (hy : y < 18446744073709551616) (w : World) :
    Calls Tryd.prog 78 #[.int .u64 x, .int .u64 y] w fun e w' => e = .returned (.tuple #[.int .u64 ((x * y / 18446744073709551616 : Nat) : Int), .int .u64 ((x * y % 18446744073709551616 : Nat) : Int)]) ∧ w' = w := by
  obtain ⟨bd, bt, bw, hhi⟩ := Lib.mul64_hi x y hx hy
  have ba := Lib.half_mul_le (a := x / 4294967296) (b := y / 4294967296) (by omega) (by omega)
  have bb := Lib.half_mul_le (a := x / 4294967296) (b := y % 4294967296) (by omega) (by omega)
  have bc := Lib.half_mul_le (a := x % 4294967296) (b := y / 4294967296) (by omega) (by omega)
  have ba' : x / 4294967296 * (y / 4294967296) < 18446744073709551616 := by omega
  have bb' : x / 4294967296 * (y % 4294967296) < 18446744073709551616 := by omega
  have bc' : x % 4294967296 * (y / 4294967296) < 18446744073709551616 := by omega
  have bh1 : x / 4294967296 * (y / 4294967296) + (x / 4294967296 * (y % 4294967296) + x % 4294967296 * (y % 4294967296) / 4294967296) / 4294967296 < 18446744073709551616 := by omega
  have bh : x / 4294967296 * (y / 4294967296) + (x / 4294967296 * (y % 4294967296) + x % 4294967296 * (y % 4294967296) / 4294967296) / 4294967296 + ((x / 4294967296 * (y % 4294967296) + x % 4294967296 * (y % 4294967296) / 4294967296) % 4294967296 + x % 4294967296 * (y / 4294967296)) / 4294967296 < 18446744073709551616 := by omega
  go_enter Tryd.func78, Tryd.ntmps78
  go_wp2
  simp only [Mul64.maskN x hx, Mul64.maskN y hy, Mul64.divN, Mul64.mulN, Mul64.addN, Mul64.wrapN _ bd, Mul64.wrapN _ bb', Mul64.wrapN _ bt, Mul64.maskN _ bt, Mul64.wrapN _ bc', Mul64.wrapN _ bw, Mul64.wrapN _ ba', Mul64.wrapN _ bh1, Mul64.wrapN _ bh, Mul64.wrapM (x * y)]
  rw [hhi]
  go_ret2
  exact ⟨rfl, rfl⟩

theorem mul1_in (y : Nat) (hy : y ≤ 16384) (w : World) :
    Calls Tryd.prog 76 #[.int .u64 (1 : Int), .int .u64 y] w fun e w' => e = .returned (.tuple #[.int .u64 (0 : Int), .int .u64 y]) ∧ w' = w := by
  have H := mul64_in 1 y (by omega) (by omega) w
  rw [Nat.one_mul, show y / 18446744073709551616 = 0 by omega, show y % 18446744073709551616 = y by omega] at H
  have H' : Calls Tryd.prog 78 #[.int .u64 (1 : Int), .int .u64 y] w fun e w' => e = .returned (.tuple #[.int .u64 (0 : Int), .int .u64 y]) ∧ w' = w := H
  clear H
  go_enter Tryd.func76, Tryd.ntmps76
  go_wp2_with (first
    | (go_at_call 78; (with_reducible refine H'.mono ?_); clear H'; rintro e w1 ⟨rfl, rfl⟩))
  go_ret2
  exact ⟨rfl, rfl⟩

/-- So many are laid. -/
def laidR (m n : Nat) : List Value := List.replicate m (iv (-1)) ++ List.replicate (n - m) (iv 0)

theorem laidR_len {m n : Nat} (h : m ≤ n) : (laidR m n).length = n := by simp [laidR]; omega

theorem splice_laid {m n k : Nat} (hk : m + k ≤ n) : splice (laidR m n) m (List.replicate k (iv (-1))) = laidR (m + k) n := by
  unfold splice laidR
  have e1 : (List.replicate m (iv (-1)) ++ List.replicate (n - m) (iv 0)).take m = List.replicate m (iv (-1)) := by
    rw [List.take_append_of_le_length (by simp)]; simp
  have e2 : (List.replicate m (iv (-1)) ++ List.replicate (n - m) (iv 0)).drop (m + k) = List.replicate (n - (m + k)) (iv 0) := by
    rw [List.drop_append, List.drop_eq_nil_of_le (by simp)]
    simp
    omega
  rw [List.length_replicate, e1, e2, ← List.append_assoc, List.replicate_append_replicate]

theorem made_laid (n : Nat) : (madeCells #[Value.int .i64 0] (n * 1)).toList = laidR 0 n := by
  apply List.ext_getElem?
  intro j
  by_cases hj : j < n
  · simp [madeCells, hj, Nat.mod_one, laidR, iv]
  · simp [madeCells, hj, laidR]

theorem laid_row {g n : Nat} {base : Nat} (h : w.heap[g]? = some (.cells (laidR n n).toArray 3 (0, 0))) (hb : base ≤ g) (hn : n ≤ 16384) : NumRow base g n (List.replicate n (-1)) w := by
  have e : laidR n n = (List.replicate n (-1 : Int)).map iv := by simp [laidR]
  refine ⟨by simp, .inr ⟨g, n, _, by simp, hb, h, by simp, by unfold maxLen; omega, by rw [e]; simp, ?_⟩⟩
  rw [e]
  simp

theorem made_row {base g n : Nat} (hown : w.ownsRow base 3 1 (.slice (some ⟨g, 0, none⟩) n n) n (madeCells (Value.int .i64 0).cells (n * 1)).toList) : w.heap[g]? = some (.cells (laidR 0 n).toArray 3 (0, 0)) := by
  rcases hown.2 with ⟨e, _⟩ | ⟨g', cap, cur, e, hb, hg, h1, hm, h2, h3⟩
  · simp at e
  · simp at e
    obtain ⟨rfl, rfl⟩ := e
    rw [hg, ← made_laid]
    rw [List.take_of_length_le (by simp [h2])] at h3
    rw [show (madeCells #[Value.int .i64 0] (n * 1)) = madeCells (Value.int .i64 0).cells (n * 1) from rfl, ← h3]

theorem one_cell {bx : Nat} (hc : w.cell? ⟨bx, 0, none⟩ = some (.int .i64 (-1))) {j : Nat} {v : Value} (hj : (List.replicate 1 (iv (-1)))[j]? = some v) : w.cell? ((⟨bx, 0, none⟩ : Addr).add j) = some v := by
  match j, hj with
  | 0, hj => simp at hj; subst hj; exact hc

theorem copy_one {w0 : World} {bx n : Nat} (hc : w.cell? ⟨bx, 0, none⟩ = some (.int .i64 (-1))) (hg : w.heap[w0.heap.size]? = some (.cells (laidR 0 n).toArray 3 (0, 0))) (hB : Below w0.heap.size w0 w) (h1 : 1 ≤ n) :
    ∃ w2, Sem.run Tryd.prog (Builtin.copy_ #[32, 32] 3 #[.slice (some ⟨w0.heap.size, 0, none⟩) n n, .slice (some ⟨bx, 0, none⟩) 1 1]) w = .ok (.int .i64 1) w2 ∧ w2.heap[w0.heap.size]? = some (.cells (laidR 1 n).toArray 3 (0, 0)) ∧ Below w0.heap.size w0 w2 := by
  obtain ⟨i1, hj0, hy0, hy1, hy2⟩ := info_parts infoInts
  have hsz : (Tryd.prog.info? 3).map (·.size) = some 1 := by rw [hj0]; simp [hy1]
  have hrun := run_copy_row (P := Tryd.prog) w 32 32 3 3 w0.heap.size 0 n n ⟨bx, 0, none⟩ 1 1 (laidR 0 n).toArray 3 (List.replicate 1 (iv (-1))) Tryd.underlying32 hsz hg
    (by rw [List.length_replicate]; simp only [Nat.min_def]; split <;> omega) (fun j v hj => one_cell hc hj) (by rw [List.length_replicate]; simp [laidR]; omega) (fun v hv => by obtain rfl := List.eq_of_mem_replicate hv; rfl)
  refine ⟨_, hrun, ?_, below_setRow hB (Nat.le_refl _) _⟩
  have e := splice_laid (m := 0) (n := n) (k := 1) (by omega)
  rw [Nat.zero_add] at e
  rw [← e]
  simpa [splice] using setRow_heap w w0.heap.size _ _ 3 _ hg

theorem copy_more {w0 : World} {n m : Nat} (hg : w.heap[w0.heap.size]? = some (.cells (laidR m n).toArray 3 (0, 0))) (hB : Below w0.heap.size w0 w) (m1 : 1 ≤ m) (hm : m < n) :
    ∃ w2 k, 1 ≤ k ∧ m + k ≤ n ∧ Sem.run Tryd.prog (Builtin.copy_ #[32, 32] 3 #[.slice (some ⟨w0.heap.size, m, none⟩) (n - m) (n - m), .slice (some ⟨w0.heap.size, 0, none⟩) m n]) w.drew = .ok (.int .i64 (k : Nat)) w2 ∧ w2.heap[w0.heap.size]? = some (.cells (laidR (m + k) n).toArray 3 (0, 0)) ∧ Below w0.heap.size w0 w2 := by
  obtain ⟨i1, hj0, hy0, hy1, hy2⟩ := info_parts infoInts
  have hsz : (Tryd.prog.info? 3).map (·.size) = some 1 := by rw [hj0]; simp [hy1]
  have hBd : Below w0.heap.size w0 w.drew := ⟨hB.os, hB.tape, hB.output, hB.size, hB.block⟩
  obtain ⟨k, hk⟩ : ∃ k, Nat.min m (n - m) = k := ⟨_, rfl⟩
  have hk3 : k ≤ m := by rw [← hk]; simp only [Nat.min_def]; split <;> omega
  have hk1 : 1 ≤ k := by rw [← hk]; simp only [Nat.min_def]; split <;> omega
  have hk2 : m + k ≤ n := by rw [← hk]; simp only [Nat.min_def]; split <;> omega
  have hgd : w.drew.heap[w0.heap.size]? = some (.cells (laidR m n).toArray 3 (0, 0)) := hg
  have hrun := run_copy_row (P := Tryd.prog) w.drew 32 32 3 3 w0.heap.size m (n - m) (n - m) ⟨w0.heap.size, 0, none⟩ m n (laidR m n).toArray 3 (List.replicate k (iv (-1))) Tryd.underlying32 hsz hgd
    (by rw [List.length_replicate]; exact hk.symm) (fun j v hj => by
        rw [List.getElem?_replicate] at hj
        split at hj
        · cases hj
          have := cell_of_row w.drew w0.heap.size j _ _ _ hgd
          have ea : (⟨w0.heap.size, 0, none⟩ : Addr).add j = ⟨w0.heap.size, j, none⟩ := by simp only [Addr.add]; split <;> simp_all
          rw [ea, this]
          have hjm : j < m := by omega
          simp [laidR, List.getElem?_append_left, hjm]
        · cases hj) (by rw [List.length_replicate]; simp [laidR]; omega) (fun v hv => by obtain rfl := List.eq_of_mem_replicate hv; rfl)
  rw [List.length_replicate] at hrun
  refine ⟨_, k, hk1, hk2, hrun, ?_, below_setRow hBd (Nat.le_refl _) _⟩
  rw [← splice_laid hk2]
  simpa [splice] using setRow_heap w.drew w0.heap.size _ _ 3 _ hgd

set_option maxRecDepth 20000 in
set_option maxHeartbeats 4000000 in
theorem repeat_in {bx n : Nat} (hb : bx < w.heap.size) (hc : w.cell? ⟨bx, 0, none⟩ = some (.int .i64 (-1))) (h1 : 1 ≤ n) (h2 : n ≤ 16384) :
    Calls Tryd.prog 66 #[.slice (some ⟨bx, 0, none⟩) 1 1, .int .i64 n] w fun e w' => ∃ g c, e = .returned (.slice (some ⟨g, 0, none⟩) n c) ∧ NumRow w.heap.size g c (List.replicate n (-1)) w' ∧ Below w.heap.size w w' := by
  obtain ⟨i1, hj0, hy0, hy1, hy2⟩ := info_parts infoInts
  have hsz : (Tryd.prog.info? 3).map (·.size) = some 1 := by rw [hj0]; simp [hy1]
  have HM := mul1_in n h2 w
  have hn0 : ¬ ((n : Int) < 0) := by omega
  go_enter Tryd.func66, Tryd.ntmps66
  go_wp2_with (first
    | (go_at_call 76; (with_reducible refine HM.mono ?_); clear HM; rintro e w0 ⟨rfl, rfl⟩)
    | (at_make; refine wpList_make_full _ rfl _ _ 32 rfl w0.heap.size 3 i1 (.int .i64 0) 1 Tryd.underlying32 hj0 hy0 hy1 .i64 .i64 _ _ n rfl rfl rfl rfl (by rw [hy2]; omega) (by unfold maxLen; omega) (by simp; try omega) ?_; intro w1 hown1 hgrow1; have hB1 : Below w0.heap.size w0 w1 := rbelow_grown hgrow1 (fun q e => by cases e) (Nat.le_refl _); have hc1 := (hB1.cell (p := ⟨bx, 0, none⟩) hb).trans hc; have hrow1 := made_row hown1; obtain ⟨w2, hrun, hg2, hB2⟩ := copy_one hc1 hrow1 hB1 h1))
  have hg3 : Hid (w2.heap[w0.heap.size]? = some (.cells (laidR 1 n).toArray 3 (0, 0))) := hg2
  clear hg2 hc1 hrow1 hown1 hgrow1 hB1 hrun
  go_loopw [8] (fun k wr => ∃ m : Nat, k = .int .i64 m ∧ 1 ≤ m ∧ m ≤ n ∧ Hid (wr.heap[w0.heap.size]? = some (.cells (laidR m n).toArray 3 (0, 0))) ∧ Below w0.heap.size w0 wr) (fun k _ => n - (intOf k).toNat)
  case atStart => exact ⟨1, rfl, by omega, by omega, hg3, hB2⟩
  case round =>
    clear hg3 hB2
    obtain ⟨m, rfl, m1, mn, hg, hB⟩ := hrel
    by_cases hm : m < n
    · have hm' : (m : Int) < (n : Int) := by omega
      have hnm : ¬ n = m := by omega
      obtain ⟨w4, k, hk1, hk2, hrun, hg4, hB4⟩ := copy_more (m := m) (n := n) hg.out hB m1 hm
      have HG4 : Hid _ := hg4
      clear hg hB hg4
      go_wp2
      go_region
      go_wp2
      go_roundw
      case rel => exact ⟨m + k, by simp, by omega, hk2, HG4, hB4⟩
      case measure => simp [intOf]; omega
    · have hm' : ¬ ((m : Int) < (n : Int)) := by omega
      obtain rfl : m = n := by omega
      go_wp2
      go_ret
      exact ⟨_, _, rfl, laid_row hg.out (Nat.le_refl _) h2, hB⟩

end Go.Proofs.YtpjgdbeekmoedaaDoor
