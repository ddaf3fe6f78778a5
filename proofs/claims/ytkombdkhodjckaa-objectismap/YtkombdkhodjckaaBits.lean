/- Plain arithmetic of a head word: four fields in 64 bits. -/
import Derived.Laws.Bits64b
import Derived.RowKit
namespace Go.Proofs.Ytkombdkhodjckaa

def enc (s a b k : Nat) : Nat := s + 1048576 * a + 1099511627776 * b + 1152921504606846976 * k

def fld (x f : Nat) : Nat := x / 2 ^ (f * 20) % 1048576

theorem enc_lt {s a b k : Nat} (hs : s < 1048576) (ha : a < 1048576) (hb : b < 1048576) (hk : k < 16) : enc s a b k < 18446744073709551616 := by
  unfold enc; omega

theorem fld0 {s a b k : Nat} (hs : s < 1048576) : fld (enc s a b k) 0 = s := by
  unfold fld enc; omega

theorem fld1 {s a b k : Nat} (hs : s < 1048576) (ha : a < 1048576) : fld (enc s a b k) 1 = a := by
  unfold fld enc; omega

theorem fld2 {s a b k : Nat} (hs : s < 1048576) (ha : a < 1048576) (hb : b < 1048576) : fld (enc s a b k) 2 = b := by
  unfold fld enc; omega

theorem fld3 {s a b k : Nat} (hs : s < 1048576) (ha : a < 1048576) (hb : b < 1048576) (hk : k < 16) : fld (enc s a b k) 3 = k := by
  unfold fld enc; omega

theorem bits_andNot_u64_nat (a b : Nat) (ha : a < 18446744073709551616) (hb : b < 18446744073709551616) :
    bits .andNot .u64 (a : Int) (b : Int) = ((a &&& (2 ^ 64 - (b + 1)) : Nat) : Int) := by
  have hx : a &&& (2 ^ 64 - (b + 1)) < 2 ^ 64 := Nat.and_lt_two_pow _ (by omega)
  have h1 : (BitVec.ofInt 64 (a : Int)).toNat = a := by
    rw [BitVec.ofInt_natCast, BitVec.toNat_ofNat]; exact Nat.mod_eq_of_lt (by omega)
  have h2 : (BitVec.ofInt 64 (b : Int)).toNat = b := by
    rw [BitVec.ofInt_natCast, BitVec.toNat_ofNat]; exact Nat.mod_eq_of_lt (by omega)
  show IntKind.u64.wrap ((BitVec.ofInt 64 (a : Int) &&& ~~~ (BitVec.ofInt 64 (b : Int))).toNat : Int) = _
  rw [BitVec.toNat_and, BitVec.toNat_not, h1, h2, IntKind.wrap_u64]
  have e : 2 ^ 64 - 1 - b = 2 ^ 64 - (b + 1) := by omega
  rw [e]
  omega

theorem swap_bits (i lo m v hi n : Nat) (hlo : lo < 2 ^ i) (hm : m < 2 ^ n) (hv : v < 2 ^ n) (hin : i + n ≤ 64) (hx : 2 ^ i * (2 ^ n * hi + m) + lo < 2 ^ 64) :
    (2 ^ i * (2 ^ n * hi + m) + lo &&& (2 ^ 64 - (2 ^ i * (2 ^ n - 1) + 1))) ||| (2 ^ i * v) = 2 ^ i * (2 ^ n * hi + v) + lo := by
  have hM : 2 ^ i * (2 ^ n - 1) < 2 ^ 64 := by
    have h1 : 2 ^ i * 2 ^ n ≤ 2 ^ 64 := by rw [← Nat.pow_add]; exact Nat.pow_le_pow_right (by omega) hin
    have h2 : 2 ^ i * (2 ^ n - 1) < 2 ^ i * 2 ^ n := (Nat.mul_lt_mul_left (Nat.two_pow_pos i)).2 (by have := Nat.two_pow_pos n; omega)
    omega
  apply Nat.eq_of_testBit_eq
  intro j
  have hV : 2 ^ i * v = 2 ^ i * v + 0 := rfl
  have hM' : 2 ^ i * (2 ^ n - 1) = 2 ^ i * (2 ^ n - 1) + 0 := rfl
  rw [Nat.testBit_or, Nat.testBit_and, Nat.testBit_two_pow_sub_succ hM, Nat.testBit_two_pow_mul_add _ hlo, Nat.testBit_two_pow_mul_add _ hlo, hV, Nat.testBit_two_pow_mul_add _ (Nat.two_pow_pos i), hM', Nat.testBit_two_pow_mul_add _ (Nat.two_pow_pos i)]
  by_cases hj : j < i
  · simp [hj]; intro h; exact ((by omega : j < 64))
  · simp only [hj, if_false]
    rw [Nat.testBit_two_pow_mul_add _ hm, Nat.testBit_two_pow_mul_add _ hv, Nat.testBit_two_pow_sub_one]
    by_cases hk : j - i < n
    · simp [hk]
    · have hv0 : v.testBit (j - i) = false := Nat.testBit_lt_two_pow (Nat.lt_of_lt_of_le hv (Nat.pow_le_pow_right (by omega) (by omega)))
      simp only [hk, if_false, decide_false, Bool.not_false, Bool.and_true, hv0, Bool.or_false]
      by_cases h64 : j < 64
      · simp [h64]
      · simp only [h64, decide_false, Bool.and_false]
        symm
        refine Nat.testBit_lt_two_pow ?_
        have h1 : 2 ^ (i + n) * hi < 2 ^ 64 := by
          have : 2 ^ i * (2 ^ n * hi) ≤ 2 ^ i * (2 ^ n * hi + m) := Nat.mul_le_mul_left _ (by omega)
          rw [← Nat.mul_assoc, ← Nat.pow_add] at this; omega
        have h2 : 2 ^ 64 ≤ 2 ^ (i + n) * 2 ^ (j - i - n) := by rw [← Nat.pow_add]; exact Nat.pow_le_pow_right (by omega) (by omega)
        exact Nat.lt_of_mul_lt_mul_left (Nat.lt_of_lt_of_le h1 h2)

/-- What setField makes of a word, as the program reckons it. -/
def setfI (x f v : Nat) : Int :=
  bits .or .u64 (bits .andNot .u64 (x : Int) (IntKind.u64.wrap (1048575 * 2 ^ (f * 20)))) (IntKind.u64.wrap ((v : Int) * 2 ^ (f * 20)))

def setf (x f v : Nat) : Nat := (setfI x f v).toNat

theorem setfI_nat (x f v M V : Nat) (hx : x < 18446744073709551616) (hM : IntKind.u64.wrap (1048575 * 2 ^ (f * 20)) = (M : Int)) (hV : IntKind.u64.wrap ((v : Int) * 2 ^ (f * 20)) = (V : Int)) (hM2 : M < 18446744073709551616) (hV2 : V < 18446744073709551616) :
    setfI x f v = ((((x &&& (2 ^ 64 - (M + 1))) ||| V : Nat)) : Int) := by
  unfold setfI
  rw [hM, hV, bits_andNot_u64_nat _ _ hx hM2, bits_or_u64_nat _ _ (by have := Nat.and_lt_two_pow x (y := 2 ^ 64 - (M + 1)) (n := 64) (by omega); omega) hV2]

theorem setf_of (x f v M V y : Nat) (hx : x < 18446744073709551616) (hM : IntKind.u64.wrap (1048575 * 2 ^ (f * 20)) = (M : Int)) (hV : IntKind.u64.wrap ((v : Int) * 2 ^ (f * 20)) = (V : Int)) (hM2 : M < 18446744073709551616) (hV2 : V < 18446744073709551616)
    (hy : (x &&& (2 ^ 64 - (M + 1))) ||| V = y) : setf x f v = y := by
  unfold setf; rw [setfI_nat x f v M V hx hM hV hM2 hV2, hy]; rfl

theorem setfI_eq (x f v : Nat) (hx : x < 18446744073709551616) : setfI x f v = (setf x f v : Int) ∧ setf x f v < 18446744073709551616 := by
  have e1 : IntKind.u64.wrap (1048575 * 2 ^ (f * 20)) = ((1048575 * 2 ^ (f * 20) % 18446744073709551616 : Nat) : Int) := by
    rw [IntKind.wrap_u64]; simp
  have e2 : IntKind.u64.wrap ((v : Int) * 2 ^ (f * 20)) = ((v * 2 ^ (f * 20) % 18446744073709551616 : Nat) : Int) := by
    rw [IntKind.wrap_u64]; simp
  have h := setfI_nat x f v _ _ hx e1 e2 (Nat.mod_lt _ (by omega)) (Nat.mod_lt _ (by omega))
  have hlt : (x &&& (2 ^ 64 - (1048575 * 2 ^ (f * 20) % 18446744073709551616 + 1))) ||| (v * 2 ^ (f * 20) % 18446744073709551616) < 2 ^ 64 :=
    Nat.or_lt_two_pow (Nat.and_lt_two_pow _ (by omega)) (Nat.mod_lt _ (by omega))
  unfold setf
  rw [h]
  constructor
  · rfl
  · exact hlt

theorem wr1 : IntKind.u64.wrap (1048575 * 2 ^ (0 * 20)) = ((2 ^ 0 * (2 ^ 20 - 1) : Nat) : Int) := by rw [IntKind.wrap_u64]; rfl

theorem wr2 : IntKind.u64.wrap (1048575 * 2 ^ (1 * 20)) = ((2 ^ 20 * (2 ^ 20 - 1) : Nat) : Int) := by rw [IntKind.wrap_u64]; rfl

theorem wr3 : IntKind.u64.wrap (1048575 * 2 ^ (2 * 20)) = ((2 ^ 40 * (2 ^ 20 - 1) : Nat) : Int) := by rw [IntKind.wrap_u64]; rfl

theorem wr4 : IntKind.u64.wrap (1048575 * 2 ^ (3 * 20)) = ((2 ^ 60 * (2 ^ 4 - 1) : Nat) : Int) := by rw [IntKind.wrap_u64]; rfl

theorem setf0 {s a b k v : Nat} (hs : s < 1048576) (ha : a < 1048576) (hb : b < 1048576) (hk : k < 16) (hv : v < 1048576) : setf (enc s a b k) 0 v = enc v a b k := by
  refine setf_of _ 0 v _ (2 ^ 0 * v) _ (enc_lt hs ha hb hk) wr1 (by rw [IntKind.wrap_u64]; omega) (by omega) (by omega) ?_
  have h := swap_bits 0 0 s v (a + 1048576 * b + 1099511627776 * k) 20 (by omega) (by omega) (by omega) (by omega) (by omega)
  have e1 : enc s a b k = 2 ^ 0 * (2 ^ 20 * (a + 1048576 * b + 1099511627776 * k) + s) + 0 := by unfold enc; omega
  rw [e1, h]; unfold enc; omega

theorem setf1 {s a b k v : Nat} (hs : s < 1048576) (ha : a < 1048576) (hb : b < 1048576) (hk : k < 16) (hv : v < 1048576) : setf (enc s a b k) 1 v = enc s v b k := by
  refine setf_of _ 1 v _ (2 ^ 20 * v) _ (enc_lt hs ha hb hk) wr2 (by rw [IntKind.wrap_u64]; omega) (by omega) (by omega) ?_
  have h := swap_bits 20 s a v (b + 1048576 * k) 20 (by omega) (by omega) (by omega) (by omega) (by omega)
  have e1 : enc s a b k = 2 ^ 20 * (2 ^ 20 * (b + 1048576 * k) + a) + s := by unfold enc; omega
  rw [e1, h]; unfold enc; omega

theorem setf2 {s a b k v : Nat} (hs : s < 1048576) (ha : a < 1048576) (hb : b < 1048576) (hk : k < 16) (hv : v < 1048576) : setf (enc s a b k) 2 v = enc s a v k := by
  refine setf_of _ 2 v _ (2 ^ 40 * v) _ (enc_lt hs ha hb hk) wr3 (by rw [IntKind.wrap_u64]; omega) (by omega) (by omega) ?_
  have h := swap_bits 40 (s + 1048576 * a) b v k 20 (by omega) (by omega) (by omega) (by omega) (by omega)
  have e1 : enc s a b k = 2 ^ 40 * (2 ^ 20 * k + b) + (s + 1048576 * a) := by unfold enc; omega
  rw [e1, h]; unfold enc; omega

theorem setf3 {s a b k v : Nat} (hs : s < 1048576) (ha : a < 1048576) (hb : b < 1048576) (hk : k < 16) (hv : v < 16) : setf (enc s a b k) 3 v = enc s a b v := by
  refine setf_of _ 3 v _ (2 ^ 60 * v) _ (enc_lt hs ha hb hk) wr4 (by rw [IntKind.wrap_u64]; omega) (by omega) (by omega) ?_
  have h := swap_bits 60 (s + 1048576 * a + 1099511627776 * b) k v 0 4 (by omega) (by omega) (by omega) (by omega) (by omega)
  have e1 : enc s a b k = 2 ^ 60 * (2 ^ 4 * 0 + k) + (s + 1048576 * a + 1099511627776 * b) := by unfold enc; omega
  rw [e1, h]; unfold enc; omega

theorem field_val (x f : Nat) (hx : x < 18446744073709551616) : RowKit.wrap64 (bits .and .u64 ((x : Int) / 2 ^ (f * 20)) 1048575) = (fld x f : Int) := by
  have e : ((x : Int) / 2 ^ (f * 20)) = ((x / 2 ^ (f * 20) : Nat) : Int) := by simp
  have e2 : (1048575 : Int) = ((1048575 : Nat) : Int) := rfl
  have hd : x / 2 ^ (f * 20) ≤ x := Nat.div_le_self _ _
  rw [e, e2, bits_and_u64_nat _ _ (by omega) (by omega)]
  have e3 : x / 2 ^ (f * 20) &&& 1048575 = x / 2 ^ (f * 20) % 1048576 := Nat.and_two_pow_sub_one_eq_mod _ 20
  rw [e3]
  have := Nat.mod_lt (x / 2 ^ (f * 20)) (show 0 < 1048576 by omega)
  unfold fld RowKit.wrap64
  omega

end Go.Proofs.Ytkombdkhodjckaa
