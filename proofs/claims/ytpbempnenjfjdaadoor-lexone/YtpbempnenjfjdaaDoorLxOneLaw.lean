/- LexOne: the walk. -/
import Derived.Test.YtpbempnenjfjdaaDoorLxTold
import Derived.Test.YtpbempnenjfjdaaDoorLxSame
namespace Go.Proofs.YtpbempnenjfjdaaDoor
set_option linter.unusedVariables false
set_option linter.unusedSimpArgs false
open Go.RowKit

variable {w : World}

/-- What is idle ahead. -/
def onePre : Nat → List UInt8
  | 0 => [47, 47, 32, 115, 111, 32, 40, 105, 116, 41, 32, 34, 105, 115, 34, 10]
  | k + 1 => onePre k ++ [9, 32, 10]

theorem onePre_len (k : Nat) : (onePre k).length = 16 + 3 * k := by
  induction k with
  | zero => rfl
  | succ k ih => simp [onePre, ih]; omega

theorem onePre_skip (k : Nat) (t : List UInt8) : skip false (onePre k ++ t) = ((skip false t).1, k + 1 + (skip false t).2) := by
  induction k generalizing t with
  | zero =>
    have : skip false (onePre 0 ++ t) = ((skip false t).1, (skip false t).2 + 1) := rfl
    rw [this]
    congr 1
    omega
  | succ k ih =>
    have e : onePre (k + 1) ++ t = onePre k ++ ([9, 32, 10] ++ t) := by simp [onePre]
    rw [e, ih]
    have : skip false ([9, 32, 10] ++ t) = ((skip false t).1, (skip false t).2 + 1 + 0 + 0) := rfl
    rw [this]
    simp only
    congr 1
    omega

def oneT (n k : Nat) (s : List UInt8) : List UInt8 := onePre k ++ (Lib.decDigits n ++ (quo s ++ ([60] ++ (Lib.decDigits n ++ [47, 47]))))

def oneW (n k : Nat) (s : List UInt8) : List Wd := [⟨2, [], n, k + 1⟩, ⟨3, s, 0, k + 1⟩, ⟨4, [60], 0, k + 1⟩, ⟨2, [], n, k + 1⟩]

theorem one_lex {n k : Nat} {s : List UInt8} (hn : n ≤ 9223372036854775807) (hs : s.length ≤ 4096) : Lex (oneT n k s) 0 (.ok (oneW n k s)) := by
  obtain ⟨c, r, hc⟩ := dec_cons n
  have hcD := dec_isD n c (by rw [hc]; simp)
  have e : Rs.ok (oneW n k s) = ((((Rs.ok []).cons ⟨2, [], n, k + 1⟩).cons ⟨4, [60], 0, k + 1⟩).cons ⟨3, s, 0, k + 1⟩).cons ⟨2, [], n, k + 1⟩ := rfl
  rw [e]
  have h1 : skip false (oneT n k s) = (Lib.decDigits n ++ (quo s ++ ([60] ++ (Lib.decDigits n ++ [47, 47]))), k + 1) := by
    unfold oneT
    rw [onePre_skip, skip_dec]
    rfl
  have g1 := Lex.more (ln := 0) (n := k + 1) (w := ⟨2, [], n, 0⟩) (z := quo s ++ ([60] ++ (Lib.decDigits n ++ [47, 47]))) (r := (((Rs.ok []).cons ⟨2, [], n, k + 1⟩).cons ⟨4, [60], 0, k + 1⟩).cons ⟨3, s, 0, k + 1⟩) h1 (word_num hn (.inr ⟨34, _, rfl, by decide⟩)) ?_
  · simpa using g1
  have g2 := Lex.more (ln := 0 + (k + 1)) (n := 0) (w := ⟨3, s, 0, 0⟩) (z := [60] ++ (Lib.decDigits n ++ [47, 47])) (r := ((Rs.ok []).cons ⟨2, [], n, k + 1⟩).cons ⟨4, [60], 0, k + 1⟩) (skip_quo s ([60] ++ (Lib.decDigits n ++ [47, 47]))) (word_text hs) ?_
  · simpa using g2
  have hhd : (Lib.decDigits n ++ [47, 47] : List UInt8).head? ≠ some 61 := by
    rw [hc]
    simp [isD] at hcD ⊢
    rintro rfl
    simp at hcD
  have g3 := Lex.more (ln := 0 + (k + 1) + 0) (n := 0) (w := ⟨4, [60], 0, 0⟩) (z := Lib.decDigits n ++ [47, 47]) (r := (Rs.ok []).cons ⟨2, [], n, k + 1⟩) (skip_not (c := 60) (r := Lib.decDigits n ++ [47, 47]) (by decide) (.inl (by decide))) (word_sign (p := [60]) (by decide) hhd) ?_
  · simpa using g3
  have g4 := Lex.more (ln := 0 + (k + 1) + 0 + 0) (n := 0) (w := ⟨2, [], n, 0⟩) (z := [47, 47]) (r := Rs.ok []) (skip_dec n [47, 47]) (word_num hn (.inr ⟨47, _, rfl, by decide⟩)) (.done (n := 0) rfl)
  simpa using g4

theorem cat60 (l : List UInt8) : bs l ++ (⟨#[60]⟩ : ByteArray) = bs (l ++ [60]) := bs_app l [60]

theorem cat47 (l : List UInt8) : bs l ++ (⟨#[47, 47]⟩ : ByteArray) = bs (l ++ [47, 47]) := bs_app l [47, 47]

theorem cat9 (l : List UInt8) : bs l ++ (⟨#[9, 32, 10]⟩ : ByteArray) = bs (l ++ [9, 32, 10]) := bs_app l [9, 32, 10]

set_option maxRecDepth 20000 in
set_option maxHeartbeats 1000000 in
theorem lexOne_walk (n : Int) (s : List UInt8) (k : Nat) (hn : -9223372036854775808 ≤ n ∧ n ≤ 9223372036854775807) (hs : s.length ≤ 140737488355328) (hk : k < 256) (h : Lx w) :
    Calls Tryd.prog 4 #[.int .i64 n, .string (bs s), .int .u8 k] w fun e w' => e = .returned (.bool true) ∧ Below w.heap.size w w' := by
  have hsz := bs_size s
  have HA := fun (W : World) (hB : Below w.heap.size w W) => alive_in (h.below hB)
  go_enter Tryd.func4, Tryd.ntmps4
  go_wp2_with (first
    | (go_at_call 7; (with_reducible refine (HA _ (Below.refl _ _)).mono ?_); rintro e w1 ⟨rfl, hB1⟩; refine halt_here ?_))
  unfold Halted
  have hcase : (4096 < s.length) ∨ (s.length ≤ 4096 ∧ n < 0) ∨ (s.length ≤ 4096 ∧ 0 ≤ n) := by omega
  rcases hcase with hq | ⟨hq, hq2⟩ | ⟨hq, hq2⟩
  · have hq' : (4096 : Int) < (s.length : Int) := by omega
    go_wp2_with (first
      | (go_at_call 7; (with_reducible refine (HA _ hB1).mono ?_); rintro e w2 ⟨rfl, hB2⟩))
    go_ret
    exact ⟨rfl, hB1.trans (hB2.mono hB1.size)⟩
  · have hq' : ¬ ((4096 : Int) < (s.length : Int)) := by omega
    go_wp2_with (first
      | (go_at_call 7; (with_reducible refine (HA _ hB1).mono ?_); rintro e w2 ⟨rfl, hB2⟩))
    go_ret
    exact ⟨rfl, hB1.trans (hB2.mono hB1.size)⟩
  · have hq' : ¬ ((4096 : Int) < (s.length : Int)) := by omega
    have hq3 : ¬ (n < 0) := by omega
    obtain ⟨m, rfl⟩ : ∃ m : Nat, n = (m : Int) := ⟨n.toNat, by omega⟩
    have hm : m ≤ 9223372036854775807 := by omega
    clear HA
    go_wp2
    go_loopw [7, 8] (fun a i wr => ∃ j : Nat, i = .int .i64 j ∧ a = .string (bs (onePre j)) ∧ j ≤ k ∧ wr = w1) (fun _ i _ => k - (intOf i).toNat)
    case atStart => exact ⟨0, rfl, rfl, by omega, rfl⟩
    case round =>
      obtain ⟨j, rfl, rfl, hj, rfl⟩ := hrel
      have hpl : (bs (onePre j)).size = 16 + 3 * j := by rw [bs_size, onePre_len]
      by_cases hjk : j < k
      · have hjk' : (j : Int) < (k : Int) := by omega
        have hcat : bs (onePre j) ++ (⟨#[9, 32, 10]⟩ : ByteArray) = bs (onePre (j + 1)) := cat9 _
        have h3 : ((⟨#[9, 32, 10]⟩ : ByteArray)).size = 3 := rfl
        have hb : ¬ (9223372036854775807 < 16 + 3 * j + 3) := by omega
        go_wp2
        go_roundw
        case rel => exact ⟨j + 1, by simp, by first | rfl | rw [hcat], by omega, by first | rfl | trivial⟩
        case measure => simp [intOf]; omega
      · have hjk' : ¬ ((j : Int) < (k : Int)) := by omega
        have hjk2 : j = k := by omega
        subst hjk2
        -- the text
        have hT : oneT m j s = ((((onePre j ++ Lib.decDigits m) ++ quo s) ++ [60]) ++ Lib.decDigits m) ++ [47, 47] := by simp [oneT]
        have hdl := digits_len hm
        have hql : (quo s).length ≤ 8194 := by have := esc_len s; simp [quo]; omega
        have hopl := onePre_len j
        have HD := digits_in m hm
        have HQ := quoted_in s (by omega)
        have HW := fun (W : World) (hB : Below w.heap.size w W) => words_ok (l := oneT m j s) (by rw [hT]; simp; omega) (one_lex (k := j) hm hq) (h.below hB)
        rw [hT] at HW
        have hs0 : (bs (onePre j)).size ≤ 1000 := by rw [bs_size]; omega
        have hs1 : (bs (Lib.decDigits m)).size ≤ 21 := by rw [bs_size]; omega
        have hs2 : (bs (quo s)).size ≤ 8194 := by rw [bs_size]; omega
        have c1 := bs_app (onePre j) (Lib.decDigits m)
        have c2 := bs_app (onePre j ++ Lib.decDigits m) (quo s)
        have c3 := cat60 (onePre j ++ Lib.decDigits m ++ quo s)
        have c4 := bs_app (onePre j ++ Lib.decDigits m ++ quo s ++ [60]) (Lib.decDigits m)
        have c5 := cat47 (onePre j ++ Lib.decDigits m ++ quo s ++ [60] ++ Lib.decDigits m)
        have z1 : (bs (onePre j ++ Lib.decDigits m)).size ≤ 1021 := by rw [bs_size]; simp; omega
        have z2 : (bs (onePre j ++ Lib.decDigits m ++ quo s)).size ≤ 9215 := by rw [bs_size]; simp; omega
        have z3 : (bs (onePre j ++ Lib.decDigits m ++ quo s ++ [60])).size ≤ 9216 := by rw [bs_size]; simp; omega
        have z4 : (bs (onePre j ++ Lib.decDigits m ++ quo s ++ [60] ++ Lib.decDigits m)).size ≤ 9237 := by rw [bs_size]; simp; omega
        generalize bs (onePre j) = b0 at *
        generalize bs (Lib.decDigits m) = bd at *
        generalize bs (quo s) = bq at *
        generalize bs (onePre j ++ Lib.decDigits m) = b1 at *
        generalize bs (onePre j ++ Lib.decDigits m ++ quo s) = b2 at *
        generalize bs (onePre j ++ Lib.decDigits m ++ quo s ++ [60]) = b3 at *
        generalize bs (onePre j ++ Lib.decDigits m ++ quo s ++ [60] ++ Lib.decDigits m) = b4 at *
        generalize bs (onePre j ++ Lib.decDigits m ++ quo s ++ [60] ++ Lib.decDigits m ++ [47, 47]) = b5 at *
        have k60 : ((⟨#[60]⟩ : ByteArray)).size = 1 := rfl
        have k47 : ((⟨#[47, 47]⟩ : ByteArray)).size = 2 := rfl
        have y1 : ¬ (9223372036854775807 < b0.size + bd.size) := by omega
        have y2 : ¬ (9223372036854775807 < b1.size + bq.size) := by omega
        have y3 : ¬ (9223372036854775807 < b2.size + 1) := by omega
        have y4 : ¬ (9223372036854775807 < b3.size + bd.size) := by omega
        have y5 : ¬ (9223372036854775807 < b4.size + 2) := by omega
        clear hT hdl hql hopl hs0 hs1 hs2 z1 z2 z3 z4 hpl
        go_wp2_with (first
          | (go_at_call 9; (with_reducible refine (HD _).mono ?_); rintro e w2 ⟨rfl, rfl⟩)
          | (go_at_call 10; (with_reducible refine (HQ _).mono ?_); clear HQ; rintro e w3 ⟨rfl, hB3⟩; have hB3' : Below w.heap.size w w3 := hB1.trans (hB3.mono hB1.size))
          | (go_at_call 6; (with_reducible refine (HW _ hB3').mono ?_); clear HW; rintro e w4 ⟨p, c, rfl, hw4, -, hB4⟩; refine halt_here ?_))
        unfold Halted
        have hB4' : Below w.heap.size w w4 := hB3'.trans (hB4.mono hB3'.size)
        have hA := below1 w4 (.cells (wcells (oneW m j s)).toArray 30)
        have HS := sameWords_in (w := w4.alloc (.cells (wcells (oneW m j s)).toArray 30)) (ws := oneW m j s) c 4 (by simp [oneW]) (hw4.below hA) (ws_of_block (heap_alloc_new w4 _))
        have HS' : Calls Tryd.prog 11 #[.slice p 4 c, .slice (some ⟨w4.heap.size, 0, none⟩) 4 4] (w4.alloc (.cells #[.int .u8 2, .string ⟨#[]⟩, .int .i64 m, .int .i64 ((j : Int) + 1), .int .u8 3, .string (bs s), .int .i64 0, .int .i64 ((j : Int) + 1), .int .u8 4, .string ⟨#[60]⟩, .int .i64 0, .int .i64 ((j : Int) + 1), .int .u8 2, .string ⟨#[]⟩, .int .i64 m, .int .i64 ((j : Int) + 1)] 30)) fun e w' => e = .returned (.bool true) ∧ Below (w4.alloc (.cells (wcells (oneW m j s)).toArray 30)).heap.size (w4.alloc (.cells (wcells (oneW m j s)).toArray 30)) w' := HS
        have hlen : (oneW m j s).length = 4 := rfl
        clear HS hw4
        simp only [hlen]
        go_wp2_with (first
          | (go_at_call 11; (with_reducible refine HS'.mono ?_); clear HS'; rintro e w5 ⟨rfl, hB5⟩))
        go_ret
        exact ⟨rfl, hB4'.trans ((hA.trans (hB5.mono hA.size)).mono hB4'.size)⟩

end Go.Proofs.YtpbempnenjfjdaaDoor
