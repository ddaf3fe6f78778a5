/- Do texts say the same: lowest, says. -/
import Derived.Test.YtkombdkhodjckaaGreatObCalls
namespace Go.Proofs.YtkombdkhodjckaaGreat
set_option linter.unusedVariables false
set_option linter.unusedSimpArgs false
open Go.RowKit

variable {n₀ bh b lim used : Nat} {vw vb : Value} {w : World} {M : List Ob}

/-- The lowest bytes of a word. -/
def digs (W m : Nat) : List Nat := (List.range m).map (fun j => W / 256 ^ j % 256)

theorem digs_len (W m : Nat) : (digs W m).length = m := by simp [digs]

theorem digs_lt (W m : Nat) : ∀ x ∈ digs W m, x < 256 := by
  intro x hx
  simp only [digs, List.mem_map] at hx
  obtain ⟨j, _, rfl⟩ := hx
  omega

theorem pk_digs (W : Nat) : ∀ m, pk (digs W m) = W % 256 ^ m
  | 0 => by simp [digs, pk, Nat.mod_one]
  | m + 1 => by
    have e : digs W (m + 1) = digs W m ++ [W / 256 ^ m % 256] := by simp [digs, List.range_succ]
    rw [e, pk_snoc, digs_len, pk_digs W m, Nat.pow_succ, Nat.mod_mul]
    rw [Nat.mul_comm]

theorem pk_inj {l l' : List Nat} (hl : l.length = l'.length) (h : ∀ x ∈ l, x < 256) (h' : ∀ x ∈ l', x < 256) (e : pk l = pk l') : l = l' := by
  refine List.ext_getElem? (fun i => ?_)
  have e1 := pk_get l i h
  have e2 := pk_get l' i h'
  rw [e, e2] at e1
  by_cases hi : i < l.length
  · have hi' : i < l'.length := by omega
    rw [List.getD, List.getD, List.getElem?_eq_getElem hi, List.getElem?_eq_getElem hi'] at e1
    rw [List.getElem?_eq_getElem hi, List.getElem?_eq_getElem hi']
    simp at e1
    rw [e1]
  · rw [List.getElem?_eq_none (by omega), List.getElem?_eq_none (by omega)]

theorem digs_pk {W : Nat} {l : List Nat} (h : ∀ x ∈ l, x < 256) : (W % 256 ^ l.length = pk l) ↔ digs W l.length = l := by
  rw [← pk_digs]
  exact ⟨fun e => pk_inj (digs_len _ _) (digs_lt _ _) h e, fun e => by rw [e]⟩

theorem bits_xor_u64_nat' (a b : Nat) (ha : a < 18446744073709551616) (hb : b < 18446744073709551616) :
    bits .xor .u64 (a : Int) (b : Int) = ((a ^^^ b : Nat) : Int) := by
  have hx : a ^^^ b < 2 ^ 64 := Nat.xor_lt_two_pow (by omega) (by omega)
  have h1 : (BitVec.ofInt 64 (a : Int)).toNat = a := by
    rw [BitVec.ofInt_natCast, BitVec.toNat_ofNat]; exact Nat.mod_eq_of_lt (by omega)
  have h2 : (BitVec.ofInt 64 (b : Int)).toNat = b := by
    rw [BitVec.ofInt_natCast, BitVec.toNat_ofNat]; exact Nat.mod_eq_of_lt (by omega)
  show IntKind.u64.wrap ((BitVec.ofInt 64 (a : Int) ^^^ BitVec.ofInt 64 (b : Int)).toNat : Int) = _
  rw [BitVec.toNat_xor, h1, h2, IntKind.wrap_u64]
  omega

/-- Of two words the lowest bits are the same. -/
theorem unlike (W P k : Nat) (hW : W < 18446744073709551616) (hP : P < 18446744073709551616) (hk : k ≤ 64) (hk2 : P < 2 ^ k) :
    (bits .and .u64 (bits .xor .u64 (W : Int) (P : Int)) ((2 ^ k - 1 : Nat) : Int) = 0) ↔ W % 2 ^ k = P := by
  have hk64 : (2 : Nat) ^ k ≤ 2 ^ 64 := Nat.pow_le_pow_right (by omega) hk
  have hx : W ^^^ P < 2 ^ 64 := Nat.xor_lt_two_pow (by omega) (by omega)
  rw [bits_xor_u64_nat' _ _ hW hP, bits_and_u64_nat _ _ (by omega) (by omega), Nat.and_two_pow_sub_one_eq_mod]
  rw [Nat.xor_mod_two_pow, Nat.mod_eq_of_lt hk2]
  constructor
  · intro h
    have h0 : W % 2 ^ k ^^^ P = 0 := by omega
    have h1 := congrArg (· ^^^ P) h0
    simpa [Nat.xor_assoc] using h1
  · intro h
    rw [h]; simp

set_option maxHeartbeats 400000 in
theorem lowest_in (n : Nat) (w : World) : Calls Tryz.prog 145 #[.int .i64 n] w fun e w' => e = .returned (.int .u64 ((2 ^ (8 * min n 8) - 1 : Nat) : Int)) ∧ w' = w := by
  rcases Nat.lt_trichotomy n 8 with h8 | rfl | h8
  · have h8' : (n : Int) < 8 := by omega
    rw [Nat.min_eq_left (by omega)]
    have h0 : 0 < 2 ^ (8 * n) := Nat.pow_pos (by omega)
    have h64 : 2 ^ (8 * n) ≤ 2 ^ 56 := Nat.pow_le_pow_right (by omega) (by omega)
    have e : IntKind.u64.wrap (IntKind.u64.wrap (2 ^ (8 * n)) - 1) = ((2 ^ (8 * n) - 1 : Nat) : Int) := by
      have e2 : ((2 : Int) ^ (8 * n)) = ((2 ^ (8 * n) : Nat) : Int) := by simp
      rw [e2, IntKind.wrap_u64, IntKind.wrap_u64]
      omega
    have HE : Hid _ := e
    clear e h0 h64
    go_enter Tryz.func145, Tryz.ntmps145
    go_wp2
    go_ret
    exact ⟨by rw [← HE.out]; rfl, rfl⟩
  · go_enter Tryz.func145, Tryz.ntmps145
    go_wp2
    go_ret
    exact ⟨rfl, rfl⟩
  · have h8' : (8 : Int) < (n : Int) := by omega
    rw [Nat.min_eq_right (by omega)]
    go_enter Tryz.func145, Tryz.ntmps145
    go_wp2
    go_ret
    exact ⟨rfl, rfl⟩

/-- The chunk of a text at a place. -/
theorem bytesW_chunk (ws : List Nat) (n j : Nat) : ((bytesW ws n).drop (8 * j)).take 8 = digs (ws.getD (1 + j) 0) (min 8 (n - 8 * j)) := by
  refine List.ext_getElem? (fun i => ?_)
  unfold bytesW digs
  rw [List.getElem?_take]
  by_cases hi : i < 8
  · rw [if_pos hi, List.getElem?_drop, List.getElem?_map, List.getElem?_map]
    by_cases hn : 8 * j + i < n
    · rw [List.getElem?_range hn, List.getElem?_range (by omega)]
      simp only [Option.map_some, byteW]
      rw [show (8 * j + i) / 8 = j by omega, show (8 * j + i) % 8 = i by omega]
    · rw [List.getElem?_eq_none (by simp; omega), List.getElem?_eq_none (by simp; omega)]
      rfl
  · rw [if_neg hi, List.getElem?_eq_none (by simp; omega)]

/-- Two lists whose beginnings are the same, by the next eight. -/
theorem take_more {α : Type} {l l' : List α} {i : Nat} (h : l.take i = l'.take i) (hl : l.length = l'.length) : l.take (i + 8) = l'.take (i + 8) ↔ (l.drop i).take 8 = (l'.drop i).take 8 := by
  rw [List.take_add, List.take_add, h]
  exact List.append_right_inj _

theorem wrap_step (i j : Nat) (h : i = 8 * j) (hi : i < 1048576) : IntKind.i64.wrap (1 + IntKind.i64.wrap ((i : Int) / 8)) = ((1 + j : Nat) : Int) := by
  have e : (i : Int) / 8 = (j : Int) := by omega
  have e2 : IntKind.i64.wrap (j : Int) = (j : Int) := by rw [IntKind.wrap_i64]; omega
  rw [e, e2, IntKind.wrap_i64]
  omega

set_option maxRecDepth 20000 in
set_option maxHeartbeats 1000000 in
theorem says_in {l r : List Ob} {o : Ob} (h : Hp n₀ bh b vw vb w lim used (l ++ o :: r)) {n : Nat} (ht : TextOb o n) (s : ByteArray) (hs : s.size < 9223372036854775808) :
    Calls Tryz.prog 132 #[mem bh, .agg #[.int .u8 3, .int .i64 o.at_], .string s] w fun e w' => e = .returned (.bool (decide (bytesW o.ws n = bts s))) ∧ Below w.heap.size w w' := by
  have hn := ht.most
  have hw0 : o.ws.getD 0 0 = n := ht.word
  have H0 := fun w' (hB : Below w.heap.size w w') => oword_in (h.below hB) 0
  rw [hw0] at H0
  have H1 := fun w' (hB : Below w.heap.size w w') => find_text (h.below hB) ht
  have H2 := fun w' (hB : Below w.heap.size w w') (i : Nat) => oword_in (h.below hB) i
  have HWl : Hid _ := h.getD_lt
  unfold mem at H0 H1 H2 ⊢
  by_cases hns : n = s.size
  · subst hns
    clear hs
    go_enter Tryz.func132, Tryz.ntmps132
    go_wp2_with (first
      | (go_at_call 89; refine (H0 _ (below2' _ _ _)).mono ?_; clear H0; rintro e w1 ⟨rfl, hB1⟩; obtain ⟨k1, k2, hBy⟩ := later2o hB1
         have d0 := cell_row1 k1; have ⟨d1, d2⟩ := cell_row2 k2))
    have HL : Hid ((bts s).length = s.size) := bts_len s
    go_loopw [7] (fun k wr => ∃ i j : Nat, k = .int .i64 i ∧ Hid (i = 8 * j) ∧ Hid ((bytesW o.ws s.size).take i = (bts s).take i) ∧ Below w.heap.size w wr ∧ wr.heap[w.heap.size]? = some (.cells #[.pointer (some ⟨bh, 0, none⟩)] 54 (0, 0)) ∧ wr.heap[w.heap.size + 1]? = some (.cells #[.int .u8 3, .int .i64 o.at_] 29 (0, 0))) (fun k _ => s.size + 8 - (intOf k).toNat)
    case atStart => exact ⟨0, 0, rfl, rfl, rfl, hBy, k1, k2⟩
    case round =>
      obtain ⟨i, j, rfl, hij, heq, hB, q1, q2⟩ := hrel
      by_cases hi : i < s.size
      · have hi' : (i : Int) < (s.size : Int) := by omega
        have hi2 : (i : Int) ≤ (s.size : Int) := by omega
        have c0 := cell_row1 q1
        have ⟨c1, c2⟩ := cell_row2 q2
        obtain ⟨W, hW⟩ : ∃ W, o.ws.getD (1 + j) 0 = W := ⟨_, rfl⟩
        obtain ⟨P, hP⟩ : ∃ P, pk ((bts (s.extract i s.size)).take 8) = P := ⟨_, rfl⟩
        have H3 : Calls Tryz.prog 89 #[.agg #[.pointer (some ⟨bh, 0, none⟩)], .int .i64 o.at_, .int .i64 (IntKind.i64.wrap (1 + IntKind.i64.wrap ((i : Int) / 8)))] wr.drew fun e w' => e = .returned (.int .u64 (W : Nat)) ∧ Below wr.heap.size wr w' := by
          have e1 : IntKind.i64.wrap (1 + IntKind.i64.wrap ((i : Int) / 8)) = ((1 + j : Nat) : Int) := by
            exact wrap_step i j hij.out (by omega)
          rw [e1, ← hW]
          exact (H2 _ (below_drew hB) (1 + j)).mono (fun e w' h => ⟨h.1, ⟨h.2.os, h.2.tape, h.2.output, h.2.size, h.2.block⟩⟩)
        have H4 : ∀ w, Calls Tryz.prog 87 #[.string (s.extract i s.size)] w fun e w' => e = .returned (.int .u64 (P : Nat)) ∧ w' = w := fun w => by rw [← hP]; exact pack_in _ w
        have key : (bits .and .u64 (bits .xor .u64 (W : Int) (P : Int)) ((2 ^ (8 * min (s.size - i) 8) - 1 : Nat) : Int) = 0) ↔ ((bytesW o.ws s.size).drop i).take 8 = ((bts s).drop i).take 8 := by
          have hlt : ∀ x ∈ ((bts s).drop i).take 8, x < 256 := fun x hx => bts_lt s x (List.mem_of_mem_drop (List.mem_of_mem_take hx))
          have hPe : P = pk (((bts s).drop i).take 8) := by rw [← hP, bts_extract s i (by omega)]
          have hlen : (((bts s).drop i).take 8).length = min 8 (s.size - i) := by simp [HL.out]
          have h8 : 8 * min (s.size - i) 8 ≤ 64 := by omega
          have hPlt := pk_lt _ hlt
          rw [hlen, ← hPe] at hPlt
          have e8 : (256 : Nat) ^ min 8 (s.size - i) = 2 ^ (8 * min (s.size - i) 8) := by rw [Nat.pow_mul, Nat.min_comm]
          have h64 : (2 : Nat) ^ (8 * min (s.size - i) 8) ≤ 18446744073709551616 := Nat.pow_le_pow_right (n := 2) (by decide) h8
          rw [e8] at hPlt
          rw [unlike W P _ (by rw [← hW]; exact HWl.out _) (Nat.lt_of_lt_of_le hPlt h64) h8 hPlt, ← e8, ← hlen, hPe, digs_pk hlt, hlen, ← hW]
          have e := hij.out
          rw [e, ← bytesW_chunk]
        have ed : (s.size : Int) - (i : Int) = ((s.size - i : Nat) : Int) := by omega
        have H5 : ∀ w, Calls Tryz.prog 145 #[.int .i64 ((s.size : Int) - (i : Int))] w fun e w' => e = .returned (.int .u64 ((2 ^ (8 * min (s.size - i) 8) - 1 : Nat) : Int)) ∧ w' = w := fun w => by
          rw [ed]; exact lowest_in _ w
        clear ed
        obtain ⟨L, hL⟩ : ∃ L, ((2 ^ (8 * min (s.size - i) 8) - 1 : Nat) : Int) = L := ⟨_, rfl⟩
        rw [hL] at H5 key
        have KEY : Hid _ := key
        clear key hW hP hL
        by_cases hq : bits .and .u64 (bits .xor .u64 (W : Int) (P : Int)) L = 0
        · have hqb : (bits .and .u64 (bits .xor .u64 (W : Int) (P : Int)) L == 0) = true := by simpa using hq
          have HQ : Hid _ := hq
          clear hq
          go_wp2
          go_region_held3 (fun W => W.cell? ⟨w.heap.size, 0, none⟩ = some (.pointer (some ⟨bh, 0, none⟩)) ∧ W.cell? ⟨w.heap.size + 1, 1, none⟩ = some (.int .i64 o.at_)) (first | exact ⟨c0, c2⟩ | exact ⟨z0, z2⟩ | go_keep)
            ((first
              | (go_at_call 89; refine H3.mono ?_; clear H3; rintro e2 w4 ⟨rfl, hB4⟩; have n1 := (hB4.block _ (Array.getElem?_eq_some_iff.1 q1).1).trans q1; have n2 := (hB4.block _ (Array.getElem?_eq_some_iff.1 q2).1).trans q2; have z0 := cell_row1 n1; have z2 := (cell_row2 n2).2)
              | (go_at_call 87; refine (H4 _).mono ?_; rintro e1 w1 ⟨rfl, hw1⟩; obtain rfl := hw1.symm)))
          all_goals
            go_wp2_with (first
              | (go_at_call 145; refine (H5 _).mono ?_; clear H5; rintro e1 w1 ⟨rfl, hw1⟩; obtain rfl := hw1.symm))
            go_roundw
            case rel =>
              have hBn := hB.trans (hB4.mono hB.size)
              exact ⟨i + 8, j + 1, by simp, by have := hij.out; show i + 8 = 8 * (j + 1); omega, (take_more heq.out (by rw [bytesW_len, HL.out])).2 (KEY.out.1 HQ.out), hBn, n1, n2⟩
            case measure => simp [intOf]; omega
        · have hqb : (bits .and .u64 (bits .xor .u64 (W : Int) (P : Int)) L == 0) = false := by simpa using hq
          have e1 : decide (bytesW o.ws s.size = bts s) = false := by
            simp only [decide_eq_false_iff_not]
            intro e
            exact hq (KEY.out.2 (by rw [e]))
          have HE : Hid _ := e1
          clear hq e1
          go_wp2
          go_region_held3 (fun W => W.cell? ⟨w.heap.size, 0, none⟩ = some (.pointer (some ⟨bh, 0, none⟩)) ∧ W.cell? ⟨w.heap.size + 1, 1, none⟩ = some (.int .i64 o.at_)) (first | exact ⟨c0, c2⟩ | exact ⟨z0, z2⟩ | go_keep)
            ((first
              | (go_at_call 89; refine H3.mono ?_; clear H3; rintro e2 w4 ⟨rfl, hB4⟩; have n1 := (hB4.block _ (Array.getElem?_eq_some_iff.1 q1).1).trans q1; have n2 := (hB4.block _ (Array.getElem?_eq_some_iff.1 q2).1).trans q2; have z0 := cell_row1 n1; have z2 := (cell_row2 n2).2)
              | (go_at_call 87; refine (H4 _).mono ?_; rintro e1 w1 ⟨rfl, hw1⟩; obtain rfl := hw1.symm)))
          all_goals
            go_wp2_with (first
              | (go_at_call 145; refine (H5 _).mono ?_; clear H5; rintro e1 w1 ⟨rfl, hw1⟩; obtain rfl := hw1.symm))
            go_ret
            exact ⟨by rw [HE.out]; rfl, hB.trans (hB4.mono hB.size)⟩
      · have hi' : ¬ (i : Int) < (s.size : Int) := by omega
        have e1 : decide (bytesW o.ws s.size = bts s) = true := by
          have := heq.out
          rw [List.take_of_length_le (by rw [bytesW_len]; omega), List.take_of_length_le (by rw [HL.out]; omega)] at this
          simpa using this
        have HE : Hid _ := e1
        clear e1
        have c0 := cell_row1 q1
        have ⟨c1, c2⟩ := cell_row2 q2
        go_wp2_with (first
          | (go_at_call 57; refine (H1 _ hB).mono ?_; clear H1; rintro e w3 ⟨rfl, hB3⟩; have hB4 := hB.trans (hB3.mono hB.size)))
        go_ret
        exact ⟨by rw [HE.out]; rfl, hB4.alloc hB4.size _⟩
  · have e1 : decide (bytesW o.ws n = bts s) = false := by
      simp only [decide_eq_false_iff_not]
      intro e
      have := congrArg List.length e
      rw [bytesW_len, bts_len] at this
      exact hns this
    have hne : ((n : Int) != (s.size : Int)) = true := by simp; omega
    rw [e1]
    clear e1 hns
    go_enter Tryz.func132, Tryz.ntmps132
    go_wp2_with (first
      | (go_at_call 89; refine (H0 _ (below2' _ _ _)).mono ?_; clear H0; rintro e w1 ⟨rfl, hB1⟩; obtain ⟨k1, k2, hBy⟩ := later2o hB1))
    go_ret
    exact ⟨rfl, hBy⟩

end Go.Proofs.YtkombdkhodjckaaGreat
