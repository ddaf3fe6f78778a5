/- Texts: bytes in words. -/
import Derived.Test.YtkombdkhodjckaaGreatObMem
namespace Go.Proofs.YtkombdkhodjckaaGreat
set_option linter.unusedVariables false
set_option linter.unusedSimpArgs false
open Go.RowKit

/-- Bytes as a word, the first one the lowest. -/
def pk : List Nat → Nat
  | [] => 0
  | b :: r => b + 256 * pk r

theorem pk_lt : ∀ (l : List Nat), (∀ b ∈ l, b < 256) → pk l < 256 ^ l.length
  | [], _ => by simp [pk]
  | b :: r, h => by
    have h1 := pk_lt r (fun x hx => h x (by simp [hx]))
    have h2 := h b (by simp)
    simp only [pk, List.length_cons, Nat.pow_succ]
    omega

theorem pk_snoc : ∀ (l : List Nat) (b : Nat), pk (l ++ [b]) = pk l + b * 256 ^ l.length
  | [], b => by simp [pk]
  | a :: r, b => by
    simp only [List.cons_append, pk, pk_snoc r b, List.length_cons, Nat.pow_succ]
    rw [Nat.mul_add, show 256 * (b * 256 ^ r.length) = b * (256 ^ r.length * 256) by rw [Nat.mul_comm 256, Nat.mul_assoc]]
    omega

theorem pk_get : ∀ (l : List Nat) (i : Nat), (∀ b ∈ l, b < 256) → pk l / 256 ^ i % 256 = l.getD i 0
  | [], i, _ => by simp [pk]
  | b :: r, 0, h => by
    have := h b (by simp)
    simp [pk]; omega
  | b :: r, i + 1, h => by
    have h2 := h b (by simp)
    have ih := pk_get r i (fun x hx => h x (by simp [hx]))
    rw [Nat.pow_succ, Nat.mul_comm, ← Nat.div_div_eq_div_mul]
    have : pk (b :: r) / 256 = pk r := by simp only [pk]; omega
    rw [this, ih]
    simp

/-- The words of bytes, eight a word. -/
def chunksN : Nat → List Nat → List Nat
  | 0, _ => []
  | _ + 1, [] => []
  | n + 1, b :: r => pk ((b :: r).take 8) :: chunksN n ((b :: r).drop 8)

def chunks (l : List Nat) : List Nat := chunksN l.length l

theorem chunksN_any : ∀ (n m : Nat) (l : List Nat), l.length ≤ n → l.length ≤ m → chunksN n l = chunksN m l
  | 0, 0, l, _, _ => rfl
  | 0, m + 1, l, h, _ => by
    have : l = [] := List.eq_nil_of_length_eq_zero (by omega)
    subst this; rfl
  | n + 1, 0, l, _, h => by
    have : l = [] := List.eq_nil_of_length_eq_zero (by omega)
    subst this; rfl
  | n + 1, m + 1, [], _, _ => rfl
  | n + 1, m + 1, b :: r, h1, h2 => by
    have e := chunksN_any n m ((b :: r).drop 8) (by simp at h1 ⊢; omega) (by simp at h2 ⊢; omega)
    simp only [chunksN]
    rw [e]

theorem chunks_nil : chunks [] = [] := rfl

theorem chunks_step {l : List Nat} (h : l ≠ []) : chunks l = pk (l.take 8) :: chunks (l.drop 8) := by
  cases l with
  | nil => exact (h rfl).elim
  | cons b r =>
    unfold chunks
    rw [List.length_cons, chunksN, chunksN_any r.length ((b :: r).drop 8).length ((b :: r).drop 8) (by simp) (Nat.le_refl _)]

theorem chunks_len (l : List Nat) : (chunks l).length = (l.length + 7) / 8 := by
  suffices ∀ n l, l.length ≤ n → (chunks l).length = (l.length + 7) / 8 from this l.length l (Nat.le_refl _)
  intro n
  induction n with
  | zero => intro l hl; have : l = [] := List.eq_nil_of_length_eq_zero (by omega); subst this; rfl
  | succ n ih =>
    intro l hl
    by_cases h : l = []
    · subst h; simp [chunks_nil]
    · have h0 : 0 < l.length := List.length_pos_iff.2 h
      rw [chunks_step h, List.length_cons, ih _ (by simp; omega), List.length_drop]
      omega

theorem chunks_get (l : List Nat) : ∀ (j : Nat), 8 * j < l.length → (chunks l)[j]? = some (pk ((l.drop (8 * j)).take 8)) := by
  suffices ∀ j l, 8 * j < l.length → (chunks l)[j]? = some (pk ((l.drop (8 * j)).take 8)) from fun j => this j l
  intro j
  induction j with
  | zero =>
    intro l hl
    rw [chunks_step (by intro e; subst e; simp at hl)]; simp
  | succ j ih =>
    intro l hl
    rw [chunks_step (by intro e; subst e; simp at hl), List.getElem?_cons_succ, ih _ (by simp; omega), List.drop_drop]
    congr 4; omega

/-- The words of a text. -/
def textW (l : List Nat) : List Nat := l.length :: chunks l

theorem textW_len (l : List Nat) : (textW l).length = 1 + (l.length + 7) / 8 := by simp [textW, chunks_len]; omega

theorem textW_byte {l : List Nat} (h : ∀ b ∈ l, b < 256) {i : Nat} (hi : i < l.length) : (textW l).getD (1 + i / 8) 0 / 256 ^ (i % 8) % 256 = l.getD i 0 := by
  have : (textW l).getD (1 + i / 8) 0 = pk ((l.drop (8 * (i / 8))).take 8) := by
    unfold textW
    rw [show 1 + i / 8 = i / 8 + 1 by omega, List.getD_cons_succ, List.getD, chunks_get l (i / 8) (by omega)]
    rfl
  rw [this, pk_get _ _ (fun b hb => h b (List.mem_of_mem_drop (List.mem_of_mem_take hb)))]
  rw [List.getD, List.getElem?_take, if_pos (by omega), List.getElem?_drop, List.getD]
  congr 2; omega

theorem or_add {a b j : Nat} (h : a < 2 ^ j) : a ||| (b * 2 ^ j) = a + b * 2 ^ j := by
  have := Nat.two_pow_add_eq_or_of_lt h b
  rw [Nat.mul_comm b, Nat.or_comm, ← this]; omega

theorem pow8 (j : Nat) : (256 : Nat) ^ j = 2 ^ (8 * j) := by rw [Nat.pow_mul]

/-- The bytes of a string. -/
def bts (s : ByteArray) : List Nat := s.data.toList.map UInt8.toNat

theorem bts_len (s : ByteArray) : (bts s).length = s.size := by
  unfold bts
  rw [List.length_map, Array.length_toList]
  rfl

theorem bts_lt (s : ByteArray) : ∀ b ∈ bts s, b < 256 := by
  intro b hb
  obtain ⟨x, _, rfl⟩ := List.mem_map.1 hb
  exact x.toNat_lt

variable {n₀ bh b lim used : Nat} {vw vb : Value} {w : World} {M : List Ob}

set_option maxHeartbeats 400000 in
theorem textSize_in (n : Nat) (hn : n ≤ 4611686018427387904) (w : World) : Calls Tryz.prog 86 #[.int .i64 n] w fun e w' => e = .returned (.int .i64 (1 + (n + 7) / 8 : Nat)) ∧ w' = w := by
  have e : ((1 + (n + 7) / 8 : Nat) : Int) = 1 + ((n : Int) + 8 - 1) / 8 := by omega
  rw [e]
  clear e
  go_enter Tryz.func86, Tryz.ntmps86
  go_wp2
  go_ret
  exact ⟨rfl, rfl⟩

theorem bts_get (s : ByteArray) {i : Nat} (h : i < s.size) : (bts s)[i]? = some (s.data[i]'h).toNat := by
  unfold bts
  rw [List.getElem?_map]
  simp [h]

theorem pack_step (s : ByteArray) {j : Nat} (h8 : j < 8) (hj : j < s.size) : bits BinOp.or IntKind.u64 ((pk ((bts s).take j) : Nat) : Int) (IntKind.u64.wrap (IntKind.u64.wrap (s[j].toNat : Int) * 2 ^ (8 * j))) = ((pk ((bts s).take (j + 1)) : Nat) : Int) := by
  have hb : s[j].toNat < 256 := s[j].toNat_lt
  have hl : ((bts s).take j).length = j := by rw [List.length_take, bts_len]; omega
  have ht : (bts s).take (j + 1) = (bts s).take j ++ [s[j].toNat] := by
    rw [List.take_add_one, bts_get s hj]; rfl
  have hp := pk_lt ((bts s).take j) (fun x hx => bts_lt s x (List.mem_of_mem_take hx))
  rw [hl, pow8] at hp
  have hpow : 2 ^ (8 * j) ≤ 2 ^ 56 := Nat.pow_le_pow_right (by omega) (by omega)
  have h1 : IntKind.u64.wrap (s[j].toNat : Int) = (s[j].toNat : Int) := by rw [IntKind.wrap_u64]; omega
  have hm : s[j].toNat * 2 ^ (8 * j) < 18446744073709551616 := by
    have : s[j].toNat * 2 ^ (8 * j) ≤ 255 * 2 ^ 56 := Nat.mul_le_mul (by omega) hpow
    omega
  have h2 : IntKind.u64.wrap ((s[j].toNat : Int) * 2 ^ (8 * j)) = ((s[j].toNat * 2 ^ (8 * j) : Nat) : Int) := by
    rw [IntKind.wrap_u64]
    have : ((s[j].toNat * 2 ^ (8 * j) : Nat) : Int) = (s[j].toNat : Int) * 2 ^ (8 * j) := by simp
    omega
  rw [h1, h2, bits_or_u64_nat _ _ (by omega) hm, or_add hp, ht, pk_snoc, hl, pow8]

set_option maxRecDepth 20000 in
set_option maxHeartbeats 1000000 in
theorem pack_in (s : ByteArray) (w : World) : Calls Tryz.prog 87 #[.string s] w fun e w' => e = .returned (.int .u64 (pk ((bts s).take 8) : Nat)) ∧ w' = w := by
  by_cases h8 : 8 < s.size
  · have h8' : (8 : Int) < (s.size : Int) := by omega
    go_enter Tryz.func87, Tryz.ntmps87
    go_wp2
    go_loop [3, 8] (fun t k => ∃ j : Nat, j ≤ 8 ∧ k = .int .i64 j ∧ t = .int .u64 (pk ((bts s).take j) : Nat)) (fun _ k => 8 - (intOf k).toNat)
    case atStart => exact ⟨0, by omega, rfl, rfl⟩
    case round =>
      obtain ⟨j, h1, rfl, rfl⟩ := hrel
      by_cases hj : j < 8
      · have hj' : (j : Int) < (8 : Int) := by omega
        have hjs : (j : Int) < (s.size : Int) := by omega
        have e := pack_step s (j := j) (by omega) (by omega)
        have HE : Hid _ := e
        clear e
        go_wp2
        go_round
        case rel => exact ⟨j + 1, by omega, by simp, by rw [HE.out]⟩
        case measure => simp [intOf]; omega
      · have hj' : ¬ (j : Int) < (8 : Int) := by omega
        have e : (bts s).take j = (bts s).take 8 := by rw [show j = 8 by omega]
        have HE : Hid _ := e
        clear e
        go_wp2
        go_ret
        exact ⟨by rw [← HE.out]; rfl, rfl⟩
  · have h8' : ¬ (8 : Int) < (s.size : Int) := by omega
    go_enter Tryz.func87, Tryz.ntmps87
    go_wp2
    go_loop [3, 8] (fun t k => ∃ j : Nat, j ≤ s.size ∧ k = .int .i64 j ∧ t = .int .u64 (pk ((bts s).take j) : Nat)) (fun _ k => s.size - (intOf k).toNat)
    case atStart => exact ⟨0, by omega, rfl, rfl⟩
    case round =>
      obtain ⟨j, h1, rfl, rfl⟩ := hrel
      by_cases hj : j < s.size
      · have hj' : (j : Int) < (s.size : Int) := by omega
        have hjs : (j : Int) < (s.size : Int) := by omega
        have e := pack_step s (j := j) (by omega) (by omega)
        have HE : Hid _ := e
        clear e
        go_wp2
        go_round
        case rel => exact ⟨j + 1, by omega, by simp, by rw [HE.out]⟩
        case measure => simp [intOf]; omega
      · have hj' : ¬ (j : Int) < (s.size : Int) := by omega
        have e : (bts s).take j = (bts s).take 8 := by rw [List.take_of_length_le (by rw [bts_len]; omega), List.take_of_length_le (by rw [bts_len]; omega)]
        have HE : Hid _ := e
        clear e
        go_wp2
        go_ret
        exact ⟨by rw [← HE.out]; rfl, rfl⟩

end Go.Proofs.YtkombdkhodjckaaGreat
