/- Plain arithmetic of a head word: four fields in 64 bits. -/
import Derived.Laws.Bits64b
import Derived.RowKit
import Derived.Test.YtkombdkhodjckaaGreatRows
import Derived.WalkKit
import Derived.WalkSpells
import Derived.WalkLawsBesides
import Derived.BigQuiet
import Derived.BigRegion
namespace Go.Proofs.YtkombdkhodjckaaGreat

def enc (s a b k : Nat) : Nat := s + 1048576 * a + 1099511627776 * b + 1152921504606846976 * k

def fld (x f : Nat) : Nat := x / 2 ^ (f * 20) % 1048576

theorem enc_lt {s a b k : Nat} (hs : s < 1048576) (ha : a < 1048576) (hb : b < 1048576) (hk : k < 16) : enc s a b k < 18446744073709551616 := by
  unfold enc; omega

theorem fld0 {s a b k : Nat} (hs : s < 1048576) : fld (enc s a b k) 0 = s := by
  unfold fld enc; omega

theorem fld1 {s a b k : Nat} (hs : s < 1048576) (ha : a < 1048576) : fld (enc s a b k) 1 = a := by
  unfold fld enc; omega

theorem fld2 {s a b k : Nat} (hs : s < 1048576) (ha : a < 1048576) (hb : b < 1048576) : fld (enc s a b k) 2 = b := by
  unfold fld enc; omega

theorem fld3 {s a b k : Nat} (hs : s < 1048576) (ha : a < 1048576) (hb : b < 1048576) (hk : k < 16) : fld (enc s a b k) 3 = k := by
  unfold fld enc; omega

theorem bits_andNot_u64_nat (a b : Nat) (ha : a < 18446744073709551616) (hb : b < 18446744073709551616) :
    bits .andNot .u64 (a : Int) (b : Int) = ((a &&& (2 ^ 64 - (b + 1)) : Nat) : Int) := by
  have hx : a &&& (2 ^ 64 - (b + 1)) < 2 ^ 64 := Nat.and_lt_two_pow _ (by omega)
  have h1 : (BitVec.ofInt 64 (a : Int)).toNat = a := by
    rw [BitVec.ofInt_natCast, BitVec.toNat_ofNat]; exact Nat.mod_eq_of_lt (by omega)
  have h2 : (BitVec.ofInt 64 (b : Int)).toNat = b := by
    rw [BitVec.ofInt_natCast, BitVec.toNat_ofNat]; exact Nat.mod_eq_of_lt (by omega)
  show IntKind.u64.wrap ((BitVec.ofInt 64 (a : Int) &&& ~~~ (BitVec.ofInt 64 (b : Int))).toNat : Int) = _
  rw [BitVec.toNat_and, BitVec.toNat_not, h1, h2, IntKind.wrap_u64]
  have e : 2 ^ 64 - 1 - b = 2 ^ 64 - (b + 1) := by omega
  rw [e]
  omega

theorem swap_bits (i lo m v hi n : Nat) (hlo : lo < 2 ^ i) (hm : m < 2 ^ n) (hv : v < 2 ^ n) (hin : i + n ≤ 64) (hx : 2 ^ i * (2 ^ n * hi + m) + lo < 2 ^ 64) :
    (2 ^ i * (2 ^ n * hi + m) + lo &&& (2 ^ 64 - (2 ^ i * (2 ^ n - 1) + 1))) ||| (2 ^ i * v) = 2 ^ i * (2 ^ n * hi + v) + lo := by
  have hM : 2 ^ i * (2 ^ n - 1) < 2 ^ 64 := by
    have h1 : 2 ^ i * 2 ^ n ≤ 2 ^ 64 := by rw [← Nat.pow_add]; exact Nat.pow_le_pow_right (by omega) hin
    have h2 : 2 ^ i * (2 ^ n - 1) < 2 ^ i * 2 ^ n := (Nat.mul_lt_mul_left (Nat.two_pow_pos i)).2 (by have := Nat.two_pow_pos n; omega)
    omega
  apply Nat.eq_of_testBit_eq
  intro j
  have hV : 2 ^ i * v = 2 ^ i * v + 0 := rfl
  have hM' : 2 ^ i * (2 ^ n - 1) = 2 ^ i * (2 ^ n - 1) + 0 := rfl
  rw [Nat.testBit_or, Nat.testBit_and, Nat.testBit_two_pow_sub_succ hM, Nat.testBit_two_pow_mul_add _ hlo, Nat.testBit_two_pow_mul_add _ hlo, hV, Nat.testBit_two_pow_mul_add _ (Nat.two_pow_pos i), hM', Nat.testBit_two_pow_mul_add _ (Nat.two_pow_pos i)]
  by_cases hj : j < i
  · simp [hj]; intro h; exact ((by omega : j < 64))
  · simp only [hj, if_false]
    rw [Nat.testBit_two_pow_mul_add _ hm, Nat.testBit_two_pow_mul_add _ hv, Nat.testBit_two_pow_sub_one]
    by_cases hk : j - i < n
    · simp [hk]
    · have hv0 : v.testBit (j - i) = false := Nat.testBit_lt_two_pow (Nat.lt_of_lt_of_le hv (Nat.pow_le_pow_right (by omega) (by omega)))
      simp only [hk, if_false, decide_false, Bool.not_false, Bool.and_true, hv0, Bool.or_false]
      by_cases h64 : j < 64
      · simp [h64]
      · simp only [h64, decide_false, Bool.and_false]
        symm
        refine Nat.testBit_lt_two_pow ?_
        have h1 : 2 ^ (i + n) * hi < 2 ^ 64 := by
          have : 2 ^ i * (2 ^ n * hi) ≤ 2 ^ i * (2 ^ n * hi + m) := Nat.mul_le_mul_left _ (by omega)
          rw [← Nat.mul_assoc, ← Nat.pow_add] at this; omega
        have h2 : 2 ^ 64 ≤ 2 ^ (i + n) * 2 ^ (j - i - n) := by rw [← Nat.pow_add]; exact Nat.pow_le_pow_right (by omega) (by omega)
        exact Nat.lt_of_mul_lt_mul_left (Nat.lt_of_lt_of_le h1 h2)

/-- What setField makes of a word, as the program reckons it. -/
def setfI (x f v : Nat) : Int :=
  bits .or .u64 (bits .andNot .u64 (x : Int) (IntKind.u64.wrap (1048575 * 2 ^ (f * 20)))) (IntKind.u64.wrap ((v : Int) * 2 ^ (f * 20)))

def setf (x f v : Nat) : Nat := (setfI x f v).toNat

theorem setfI_nat (x f v M V : Nat) (hx : x < 18446744073709551616) (hM : IntKind.u64.wrap (1048575 * 2 ^ (f * 20)) = (M : Int)) (hV : IntKind.u64.wrap ((v : Int) * 2 ^ (f * 20)) = (V : Int)) (hM2 : M < 18446744073709551616) (hV2 : V < 18446744073709551616) :
    setfI x f v = ((((x &&& (2 ^ 64 - (M + 1))) ||| V : Nat)) : Int) := by
  unfold setfI
  rw [hM, hV, bits_andNot_u64_nat _ _ hx hM2, bits_or_u64_nat _ _ (by have := Nat.and_lt_two_pow x (y := 2 ^ 64 - (M + 1)) (n := 64) (by omega); omega) hV2]

theorem setf_of (x f v M V y : Nat) (hx : x < 18446744073709551616) (hM : IntKind.u64.wrap (1048575 * 2 ^ (f * 20)) = (M : Int)) (hV : IntKind.u64.wrap ((v : Int) * 2 ^ (f * 20)) = (V : Int)) (hM2 : M < 18446744073709551616) (hV2 : V < 18446744073709551616)
    (hy : (x &&& (2 ^ 64 - (M + 1))) ||| V = y) : setf x f v = y := by
  unfold setf; rw [setfI_nat x f v M V hx hM hV hM2 hV2, hy]; rfl

theorem setfI_eq (x f v : Nat) (hx : x < 18446744073709551616) : setfI x f v = (setf x f v : Int) ∧ setf x f v < 18446744073709551616 := by
  have e1 : IntKind.u64.wrap (1048575 * 2 ^ (f * 20)) = ((1048575 * 2 ^ (f * 20) % 18446744073709551616 : Nat) : Int) := by
    rw [IntKind.wrap_u64]; simp
  have e2 : IntKind.u64.wrap ((v : Int) * 2 ^ (f * 20)) = ((v * 2 ^ (f * 20) % 18446744073709551616 : Nat) : Int) := by
    rw [IntKind.wrap_u64]; simp
  have h := setfI_nat x f v _ _ hx e1 e2 (Nat.mod_lt _ (by omega)) (Nat.mod_lt _ (by omega))
  have hlt : (x &&& (2 ^ 64 - (1048575 * 2 ^ (f * 20) % 18446744073709551616 + 1))) ||| (v * 2 ^ (f * 20) % 18446744073709551616) < 2 ^ 64 :=
    Nat.or_lt_two_pow (Nat.and_lt_two_pow _ (by omega)) (Nat.mod_lt _ (by omega))
  unfold setf
  rw [h]
  constructor
  · rfl
  · exact hlt

theorem wr1 : IntKind.u64.wrap (1048575 * 2 ^ (0 * 20)) = ((2 ^ 0 * (2 ^ 20 - 1) : Nat) : Int) := by rw [IntKind.wrap_u64]; rfl

theorem wr2 : IntKind.u64.wrap (1048575 * 2 ^ (1 * 20)) = ((2 ^ 20 * (2 ^ 20 - 1) : Nat) : Int) := by rw [IntKind.wrap_u64]; rfl

theorem wr3 : IntKind.u64.wrap (1048575 * 2 ^ (2 * 20)) = ((2 ^ 40 * (2 ^ 20 - 1) : Nat) : Int) := by rw [IntKind.wrap_u64]; rfl

theorem wr4 : IntKind.u64.wrap (1048575 * 2 ^ (3 * 20)) = ((2 ^ 60 * (2 ^ 4 - 1) : Nat) : Int) := by rw [IntKind.wrap_u64]; rfl

theorem setf0 {s a b k v : Nat} (hs : s < 1048576) (ha : a < 1048576) (hb : b < 1048576) (hk : k < 16) (hv : v < 1048576) : setf (enc s a b k) 0 v = enc v a b k := by
  refine setf_of _ 0 v _ (2 ^ 0 * v) _ (enc_lt hs ha hb hk) wr1 (by rw [IntKind.wrap_u64]; omega) (by omega) (by omega) ?_
  have h := swap_bits 0 0 s v (a + 1048576 * b + 1099511627776 * k) 20 (by omega) (by omega) (by omega) (by omega) (by omega)
  have e1 : enc s a b k = 2 ^ 0 * (2 ^ 20 * (a + 1048576 * b + 1099511627776 * k) + s) + 0 := by unfold enc; omega
  rw [e1, h]; unfold enc; omega

theorem setf1 {s a b k v : Nat} (hs : s < 1048576) (ha : a < 1048576) (hb : b < 1048576) (hk : k < 16) (hv : v < 1048576) : setf (enc s a b k) 1 v = enc s v b k := by
  refine setf_of _ 1 v _ (2 ^ 20 * v) _ (enc_lt hs ha hb hk) wr2 (by rw [IntKind.wrap_u64]; omega) (by omega) (by omega) ?_
  have h := swap_bits 20 s a v (b + 1048576 * k) 20 (by omega) (by omega) (by omega) (by omega) (by omega)
  have e1 : enc s a b k = 2 ^ 20 * (2 ^ 20 * (b + 1048576 * k) + a) + s := by unfold enc; omega
  rw [e1, h]; unfold enc; omega

theorem setf2 {s a b k v : Nat} (hs : s < 1048576) (ha : a < 1048576) (hb : b < 1048576) (hk : k < 16) (hv : v < 1048576) : setf (enc s a b k) 2 v = enc s a v k := by
  refine setf_of _ 2 v _ (2 ^ 40 * v) _ (enc_lt hs ha hb hk) wr3 (by rw [IntKind.wrap_u64]; omega) (by omega) (by omega) ?_
  have h := swap_bits 40 (s + 1048576 * a) b v k 20 (by omega) (by omega) (by omega) (by omega) (by omega)
  have e1 : enc s a b k = 2 ^ 40 * (2 ^ 20 * k + b) + (s + 1048576 * a) := by unfold enc; omega
  rw [e1, h]; unfold enc; omega

theorem setf3 {s a b k v : Nat} (hs : s < 1048576) (ha : a < 1048576) (hb : b < 1048576) (hk : k < 16) (hv : v < 16) : setf (enc s a b k) 3 v = enc s a b v := by
  refine setf_of _ 3 v _ (2 ^ 60 * v) _ (enc_lt hs ha hb hk) wr4 (by rw [IntKind.wrap_u64]; omega) (by omega) (by omega) ?_
  have h := swap_bits 60 (s + 1048576 * a + 1099511627776 * b) k v 0 4 (by omega) (by omega) (by omega) (by omega) (by omega)
  have e1 : enc s a b k = 2 ^ 60 * (2 ^ 4 * 0 + k) + (s + 1048576 * a + 1099511627776 * b) := by unfold enc; omega
  rw [e1, h]; unfold enc; omega

theorem field_val (x f : Nat) (hx : x < 18446744073709551616) : RowKit.wrap64 (bits .and .u64 ((x : Int) / 2 ^ (f * 20)) 1048575) = (fld x f : Int) := by
  have e : ((x : Int) / 2 ^ (f * 20)) = ((x / 2 ^ (f * 20) : Nat) : Int) := by simp
  have e2 : (1048575 : Int) = ((1048575 : Nat) : Int) := rfl
  have hd : x / 2 ^ (f * 20) ≤ x := Nat.div_le_self _ _
  rw [e, e2, bits_and_u64_nat _ _ (by omega) (by omega)]
  have e3 : x / 2 ^ (f * 20) &&& 1048575 = x / 2 ^ (f * 20) % 1048576 := Nat.and_two_pow_sub_one_eq_mod _ 20
  rw [e3]
  have := Nat.mod_lt (x / 2 ^ (f * 20)) (show 0 < 1048576 by omega)
  unfold fld RowKit.wrap64
  omega

end Go.Proofs.YtkombdkhodjckaaGreat

namespace Go.Proofs.YtkombdkhodjckaaGreat
open Go.RowKit

theorem zeroCells_one (z : Value) (n : Nat) : (Builtin.zeroCells #[z] n).toList = List.replicate n z := by
  apply List.ext_getElem?
  intro j
  by_cases hj : j < n
  · simp [Builtin.zeroCells, hj, Nat.mod_one]
  · simp [Builtin.zeroCells, hj]

theorem run_append_zeros {P : Program} (w : World) (base : Nat) (t ti ty e : TypeId) (ik : IntKind) (i : TypeInfo) (z : Value) (bytes : Nat) (ht : P.underlying t = some (.slice e)) (hti : P.underlying ti = some (.int ik)) (hi : P.info? e = some i) (hz : i.zero = some z)
    (hsize : i.size = 1) (hby : i.bytes = bytes) (hzs : z.cells = #[z]) (hone : z.oneCell' = true)
    (v : Value) (n : Nat) (xs : List Value) (hown : w.ownsRow base e 1 v n xs)
    (m : Nat) (hm : 0 < m) (h63 : n + m ≤ maxLen) (hbytes : (n + m) * bytes ≤ 140737488355328) (hbase : base ≤ w.heap.size) :
    ∃ v' w', (Builtin.append_ #[t, ti] ty #[v, .int .i64 (m : Int)]).run P w = .ok v' w' ∧ w'.ownsRow base e 1 v' (n + m) (xs ++ List.replicate m z) ∧ w.grownBy w' v.ownBlock ∧ (v'.ownBlock = v.ownBlock ∨ v'.ownBlock = some w.heap.size) := by
  subst hby
  have hmb : m * i.bytes ≤ 140737488355328 := Nat.le_trans (Nat.mul_le_mul_right _ (by omega)) hbytes
  have hsmall : n + m ≤ 9223372036854775807 := by simp only [maxLen] at h63; omega
  have hwrap : IntKind.i64.wrap (m : Int) = (m : Int) := by
    rw [IntKind.wrap_i64]; omega
  have hneg : ¬ ((m : Int) < 0) := by omega
  have hbig : ¬ ((m : Int) * (i.bytes : Int) > 281474976710656) := by
    have : ((m * i.bytes : Nat) : Int) ≤ 140737488355328 := by omega
    rw [Int.natCast_mul] at this; omega
  have hm0 : m ≠ 0 := by omega
  have grown : ∀ (old : Nat), old < n + m → ∀ (row : Option Nat),
      (w.drew.alloc (.cells (xs.toArray ++ Builtin.zeroCells #[z] m ++ Builtin.zeroCells #[z] (grownCap w (n + m) old e - (n + m))) e)).ownsRow base e 1
        (.slice (some ⟨w.heap.size, 0, none⟩) (n + m) (grownCap w (n + m) old e)) (n + m) (xs ++ List.replicate m z) ∧
      w.grownBy (w.drew.alloc (.cells (xs.toArray ++ Builtin.zeroCells #[z] m ++ Builtin.zeroCells #[z] (grownCap w (n + m) old e - (n + m))) e)) row := by
    intro old ho row
    have hge := grownCap_ge w (n + m) old e
    have hcm : grownCap w (n + m) old e ≤ maxLen := grownCap_le_maxLen w (n + m) old e h63
    have hxl : xs.length = n := by simpa using hown.1
    refine ⟨⟨by simp [hxl], .inr ⟨w.heap.size, _, _, rfl, hbase, heap_alloc_new w.drew _, hge, hcm, ?_, ?_⟩⟩, ⟨rfl, rfl, rfl, by simp, fun k hk _ => Below.heap_alloc w.drew _ k hk⟩⟩
    · simp only [Array.size_append, List.size_toArray, size_zeroCells, hxl]
      simp; omega
    · simp only [Array.toList_append, zeroCells_one]
      rw [List.take_append_of_le_length (by simp [hxl]), List.take_of_length_le (by simp [hxl])]
  rcases hown.2 with ⟨rfl, rfl⟩ | ⟨g, cap, cur, rfl, hbg, hg, hnc, hcm, hcs, htake⟩
  · have hx : xs = [] := List.eq_nil_of_length_eq_zero (by simpa using hown.1)
    subst hx
    have hgr := grown 0 (by omega) (Value.ownBlock (.slice none 0 0))
    simp only [Nat.zero_add, List.nil_append, Array.empty_append] at hgr ⊢
    refine ⟨_, _, ?_, hgr.1, hgr.2, .inr rfl⟩
    have h63' : ¬ (9223372036854775807 < (m : Int)) := by omega
    have h48' : ¬ (281474976710656 < Builtin.nextslicecap m 0 * i.bytes) := by rw [nextslicecap_zero hm]; omega
    simp [Builtin.append_, run_underlying ht, run_underlying hti, sizeOf, typeInfo, zeroValue, hi, hz, hzs, hsize, asInt, asIntOf, hwrap, hneg, hbig, hm0, h63', h48', Question.forced, run_firstCells_none, newRow, grownCap]
  · by_cases hroom : n + m ≤ cap
    · have hfit : n + m ≤ cur.size := by simp at hcs; omega
      have hst := run_storeCells_at P g (n * 1) e (Builtin.zeroCells #[z] m).toList 0 cur w hg (by rw [zeroCells_one]; simpa using hfit) (by
        rw [zeroCells_one]; intro u hu; rw [List.mem_replicate] at hu; rw [hu.2]; exact hone)
      simp only [Nat.add_zero, Nat.mul_one] at hst
      refine ⟨_, _, ?_, ⟨?_, .inr ⟨g, cap, _, rfl, hbg, setRow_heap w g cur (cur.toList.take n ++ List.replicate m z ++ cur.toList.drop (n + m)).toArray e _ hg, hroom, hcm, ?_, ?_⟩⟩, ⟨rfl, rfl, rfl, by simp, fun k _ hk => setRow_other w g k _ (fun e => hk (by simp [Value.ownBlock, e]))⟩, .inl rfl⟩
      · rw [zeroCells_one] at hst
        simp [Builtin.append_, run_underlying ht, run_underlying hti, sizeOf, typeInfo, zeroValue, hi, hz, hzs, hsize, asInt, asIntOf, hwrap, hneg, hbig, hm0, hroom, Addr.add_lit, zeroCells_one, hst]
      · simpa using hown.1
      · simp only [List.size_toArray, List.length_append, List.length_take, List.length_drop, Array.length_toList, List.length_replicate]
        simp at hcs; omega
      · have hxl : xs.length = n := by simpa using hown.1
        simp only [Nat.mul_one] at htake ⊢
        rw [htake, List.take_append_of_le_length (by simp [hxl]), List.take_of_length_le (by simp [hxl])]
    · have holds : ∀ j u, xs[j]? = some u → w.cell? ((⟨g, 0, none⟩ : Addr).add j) = some u := hown.cells (g := g) rfl
      have hgr := grown cap (by omega) (Value.ownBlock (.slice (some ⟨g, 0, none⟩) n cap))
      refine ⟨_, _, ?_, hgr.1, hgr.2, .inr rfl⟩
      have h63' : ¬ (9223372036854775807 < ((n : Int) + (m : Int))) := by omega
      have h48' : ¬ (281474976710656 < Builtin.nextslicecap (n + m) cap * i.bytes) := by have := growslice_fits (need := n + m) (old := cap) (by omega) hbytes; omega
      have hfo := run_firstCells_some (P := P) w.drew 1 n ⟨g, 0, none⟩ n cap xs hown.1 (by simpa using holds)
      simp [Builtin.append_, run_underlying ht, run_underlying hti, sizeOf, typeInfo, zeroValue, hi, hz, hzs, hsize, asInt, asIntOf, hwrap, hneg, hbig, hm0, hroom, h63', h48', Question.forced, hfo, newRow, grownCap]

theorem wpList_append_zeros {P : Program} (w : World) {ops : Array Oper} {rest : List Oper} {o : Oper} {a : Act} {Q : Exit → Act → World → Prop} (hgd : o.guard = none) (s x : Operand) (t ti : TypeId)
    (ho : o.op = .call { callee := .builtin .append, args := #[s, x], argTypes := #[t, ti] })
    (base : Nat) (e : TypeId) (ik : IntKind) (i : TypeInfo) (z : Value) (bytes : Nat) (ht : P.underlying t = some (.slice e)) (hti : P.underlying ti = some (.int ik)) (hi : P.info? e = some i) (hz : i.zero = some z)
    (hsize : i.size = 1) (hby : i.bytes = bytes) (hzs : z.cells = #[z]) (hone : z.oneCell' = true)
    (v : Value) (n : Nat) (xs : List Value) (hs : a.eval s = v) (hown : w.ownsRow base e 1 v n xs)
    (m : Nat) (hx : a.eval x = .int .i64 (m : Int)) (hm : 0 < m) (h63 : n + m ≤ maxLen) (hbytes : (n + m) * bytes ≤ 140737488355328) (hbase : base ≤ w.heap.size)
    (h : ∀ v' w', w'.ownsRow base e 1 v' (n + m) (xs ++ List.replicate m z) → w.grownBy w' v.ownBlock → (v'.ownBlock = v.ownBlock ∨ v'.ownBlock = some w.heap.size) → wpList P ops Q rest (a.put o.dst v') w') : wpList P ops Q (o :: rest) a w := by
  refine wpList_plain hgd fun K hK => ?_
  obtain ⟨v', w', hr, h2, h3, h4⟩ := run_append_zeros (P := P) w base t ti o.type e ik i z bytes ht hti hi hz hsize hby hzs hone v n xs hown m hm h63 hbytes hbase
  unfold Oper.wp execOp
  simp only [ho, resolve, invoke, builtin, Sem.run_bind, Sem.run_pure, Result.andThen_ok, List.map_toArray, List.map_cons, List.map_nil, hs, hx, hr]
  exact hK _ _ (h v' w' h2 h3 h4)

/-- An arena, plainly: its limit, its words, which of them are heads, where its last object begins. -/
structure Ar where
  limit : Nat
  ws : List Nat
  bs : List Bool
  last : Option Nat

def optI : Option Nat → Int
  | none => -1
  | some i => i

def wv (n : Nat) : Value := .int .u64 n

/-- The arena at block b of the world w. -/
structure IsAr (n₀ b : Nat) (vw vb : Value) (w : World) (A : Ar) : Prop where
  base : n₀ ≤ b
  blk : w.heap[b]? = some (.cells #[.int .i64 A.limit, vw, vb, .int .i64 (optI A.last)] 138 (0, 0))
  rw : w.ownsRow n₀ 98 1 vw A.ws.length (A.ws.map wv)
  rb : w.ownsRow n₀ 4 1 vb A.bs.length (A.bs.map Value.bool)
  leb : A.bs.length ≤ A.limit
  le : A.ws.length ≤ A.limit
  lim : A.limit ≤ 1048576
  val : ∀ x ∈ A.ws, x < 18446744073709551616

/-- What a step of an arena may turn: its own block, its two rows, new blocks. -/
structure Step (b : Nat) (vw vb : Value) (w : World) (vw' vb' : Value) (w' : World) : Prop where
  os : w'.os = w.os
  tape : w'.tape = w.tape
  output : w'.output = w.output
  size : w.heap.size ≤ w'.heap.size
  block : ∀ k, k < w.heap.size → k ≠ b → some k ≠ vw.ownBlock → some k ≠ vb.ownBlock → w'.heap[k]? = w.heap[k]?
  fw : ∀ k, vw'.ownBlock = some k → vw.ownBlock = some k ∨ w.heap.size ≤ k
  fb : ∀ k, vb'.ownBlock = some k → vb.ownBlock = some k ∨ w.heap.size ≤ k

theorem Step.refl (b : Nat) (vw vb : Value) (w : World) : Step b vw vb w vw vb w :=
  ⟨rfl, rfl, rfl, Nat.le_refl _, fun _ _ _ _ _ => rfl, fun _ h => .inl h, fun _ h => .inl h⟩

theorem Step.trans {b : Nat} {vw vb vw' vb' vw'' vb'' : Value} {w w' w'' : World} (h : Step b vw vb w vw' vb' w') (g : Step b vw' vb' w' vw'' vb'' w'') : Step b vw vb w vw'' vb'' w'' := by
  refine ⟨g.os.trans h.os, g.tape.trans h.tape, g.output.trans h.output, Nat.le_trans h.size g.size, ?_, ?_, ?_⟩
  · intro k hk hb hw hv
    refine (g.block k (Nat.lt_of_lt_of_le hk h.size) hb ?_ ?_).trans (h.block k hk hb hw hv)
    · intro e; rcases h.fw k e.symm with e' | e'
      · exact hw e'.symm
      · omega
    · intro e; rcases h.fb k e.symm with e' | e'
      · exact hv e'.symm
      · omega
  · intro k e
    rcases g.fw k e with e' | e'
    · exact h.fw k e'
    · exact .inr (Nat.le_trans h.size e')
  · intro k e
    rcases g.fb k e with e' | e'
    · exact h.fb k e'
    · exact .inr (Nat.le_trans h.size e')

theorem Step.drew {b : Nat} {vw vb vw' vb' : Value} {w w' : World} (h : Step b vw vb w vw' vb' w') : Step b vw vb w vw' vb' w'.drew := ⟨h.os, h.tape, h.output, h.size, h.block, h.fw, h.fb⟩

theorem Step.of_below {b : Nat} {vw vb : Value} {w w' : World} (h : Below w.heap.size w w') : Step b vw vb w vw vb w' :=
  ⟨h.os, h.tape, h.output, h.size, fun k hk _ _ _ => h.block k hk, fun _ h => .inl h, fun _ h => .inl h⟩

theorem Step.below {n₀ b : Nat} {vw vb vw' vb' : Value} {w w' : World} {A : Ar} (h : Step b vw vb w vw' vb' w') (hA : IsAr n₀ b vw vb w A) : Below n₀ w w' := by
  refine ⟨h.os, h.tape, h.output, h.size, fun k hk => ?_⟩
  have hb := hA.base
  have hlt : b < w.heap.size := (Array.getElem?_eq_some_iff.1 hA.blk).1
  refine h.block k (by omega) (by omega) ?_ ?_
  · intro e; have := (hA.rw.lt k e.symm).1; omega
  · intro e; have := (hA.rb.lt k e.symm).1; omega

namespace IsAr

variable {n₀ b : Nat} {vw vb : Value} {w : World} {A : Ar}

theorem lt (h : IsAr n₀ b vw vb w A) : b < w.heap.size := (Array.getElem?_eq_some_iff.1 h.blk).1

theorem c0 (h : IsAr n₀ b vw vb w A) : w.cell? ⟨b, 0, none⟩ = some (.int .i64 A.limit) := by rw [cell_of_row w b 0 _ _ _ h.blk]; rfl

theorem c1 (h : IsAr n₀ b vw vb w A) : w.cell? ⟨b, 1, none⟩ = some vw := by rw [cell_of_row w b 1 _ _ _ h.blk]; rfl

theorem c2 (h : IsAr n₀ b vw vb w A) : w.cell? ⟨b, 2, none⟩ = some vb := by rw [cell_of_row w b 2 _ _ _ h.blk]; rfl

theorem c3 (h : IsAr n₀ b vw vb w A) : w.cell? ⟨b, 3, none⟩ = some (.int .i64 (optI A.last)) := by rw [cell_of_row w b 3 _ _ _ h.blk]; rfl

theorem f (h : IsAr n₀ b vw vb w A) (j : Nat) : w.frozen? ⟨b, j, none⟩ = false := frozen_of_row w b j _ _ h.blk

theorem row_form {w : World} {base : Nat} {e : TypeId} {v : Value} {n : Nat} {xs : List Value} (h : w.ownsRow base e 1 v n xs) : ∃ p c, v = .slice p n c ∧ n ≤ c ∧ c ≤ maxLen := by
  rcases h.2 with ⟨rfl, rfl⟩ | ⟨g, cap, cur, rfl, _, _, h1, h2, _⟩
  · exact ⟨none, 0, rfl, Nat.le_refl _, by unfold maxLen; omega⟩
  · exact ⟨_, _, rfl, h1, h2⟩

theorem row_some {w : World} {base : Nat} {e : TypeId} {v : Value} {n : Nat} {xs : List Value} (h : w.ownsRow base e 1 v n xs) (hn : 0 < n) : ∃ g c, v = .slice (some ⟨g, 0, none⟩) n c ∧ n ≤ c ∧ c ≤ maxLen := by
  rcases h.2 with ⟨rfl, rfl⟩ | ⟨g, cap, cur, rfl, _, _, h1, h2, _⟩
  · omega
  · exact ⟨_, _, rfl, h1, h2⟩

theorem row_type {w : World} {base : Nat} {e : TypeId} {v : Value} {n : Nat} {xs : List Value} (h : w.ownsRow base e 1 v n xs) {k : Nat} (hk : v.ownBlock = some k) : ∃ cur, w.heap[k]? = some (.cells cur e (0, 0)) := by
  rcases h.2 with ⟨rfl, rfl⟩ | ⟨g, cap, cur, rfl, _, hg, _⟩
  · simp [Value.ownBlock] at hk
  · simp [Value.ownBlock] at hk; subst hk; exact ⟨cur, hg⟩

theorem nw (h : IsAr n₀ b vw vb w A) : vw.ownBlock ≠ some b := by
  intro e; obtain ⟨cur, hc⟩ := row_type h.rw e; rw [h.blk] at hc; simp at hc

theorem nb (h : IsAr n₀ b vw vb w A) : vb.ownBlock ≠ some b := by
  intro e; obtain ⟨cur, hc⟩ := row_type h.rb e; rw [h.blk] at hc; simp at hc

theorem nwb (h : IsAr n₀ b vw vb w A) {k : Nat} (hk : vw.ownBlock = some k) : vb.ownBlock ≠ some k := by
  intro e; obtain ⟨cur, hc⟩ := row_type h.rb e; obtain ⟨cur', hc'⟩ := row_type h.rw hk; rw [hc] at hc'; simp at hc'

/-- A world in which the three blocks are as they were has the arena. -/
theorem kept (h : IsAr n₀ b vw vb w A) {w' : World} (hb : w'.heap[b]? = w.heap[b]?) (hw : ∀ k, vw.ownBlock = some k → w'.heap[k]? = w.heap[k]?) (hv : ∀ k, vb.ownBlock = some k → w'.heap[k]? = w.heap[k]?) : IsAr n₀ b vw vb w' A := by
  have row : ∀ {e : TypeId} {v : Value} {n : Nat} {xs : List Value}, w.ownsRow n₀ e 1 v n xs → (∀ k, v.ownBlock = some k → w'.heap[k]? = w.heap[k]?) → w'.ownsRow n₀ e 1 v n xs := by
    intro e v n xs hr hk
    refine ⟨hr.1, ?_⟩
    rcases hr.2 with hn | ⟨g, cap, cur, rfl, hb, hgg, rest⟩
    · exact .inl hn
    · exact .inr ⟨g, cap, cur, rfl, hb, by rw [hk g rfl]; exact hgg, rest⟩
  exact ⟨h.base, hb.trans h.blk, row h.rw hw, row h.rb hv, h.leb, h.le, h.lim, h.val⟩

theorem below (h : IsAr n₀ b vw vb w A) {w' : World} (hB : Below w.heap.size w w') : IsAr n₀ b vw vb w' A :=
  h.kept (hB.block b h.lt) (fun k hk => hB.block k (h.rw.lt k hk).2) (fun k hk => hB.block k (h.rb.lt k hk).2)

theorem drew (h : IsAr n₀ b vw vb w A) : IsAr n₀ b vw vb w.drew A := ⟨h.base, h.blk, h.rw, h.rb, h.leb, h.le, h.lim, h.val⟩

theorem drewN (h : IsAr n₀ b vw vb w A) (k : Nat) : IsAr n₀ b vw vb (w.drewN k) A := ⟨h.base, h.blk, h.rw, h.rb, h.leb, h.le, h.lim, h.val⟩

/-- A word of the arena. -/
theorem word (h : IsAr n₀ b vw vb w A) {i x : Nat} (hi : A.ws[i]? = some x) : ∃ g c, vw = .slice (some ⟨g, 0, none⟩) A.ws.length c ∧ w.cell? ⟨g, i, none⟩ = some (.int .u64 x) ∧ w.frozen? ⟨g, i, none⟩ = false := by
  have hlt : i < A.ws.length := (List.getElem?_eq_some_iff.1 hi).1
  obtain ⟨g, c, rfl, _, _⟩ := row_some h.rw (by omega)
  refine ⟨g, c, rfl, ?_, h.rw.frozenAt i⟩
  rw [h.rw.cellAt i (by omega)]
  simp [hi, wv]

theorem mark (h : IsAr n₀ b vw vb w A) {i : Nat} {x : Bool} (hi : A.bs[i]? = some x) : ∃ g c, vb = .slice (some ⟨g, 0, none⟩) A.bs.length c ∧ w.cell? ⟨g, i, none⟩ = some (.bool x) ∧ w.frozen? ⟨g, i, none⟩ = false := by
  have hlt : i < A.bs.length := (List.getElem?_eq_some_iff.1 hi).1
  obtain ⟨g, c, rfl, _, _⟩ := row_some h.rb (by omega)
  refine ⟨g, c, rfl, ?_, h.rb.frozenAt i⟩
  rw [h.rb.cellAt i (by omega)]
  simp [hi]

/-- A store into a word. -/
theorem setWord (h : IsAr n₀ b vw vb w A) {g c i y : Nat} (hv : vw = .slice (some ⟨g, 0, none⟩) A.ws.length c) (hy : y < 18446744073709551616) :
    IsAr n₀ b vw vb (w.setCell ⟨g, i, none⟩ (.int .u64 y)) { A with ws := A.ws.set i y } ∧ Step b vw vb w vw vb (w.setCell ⟨g, i, none⟩ (.int .u64 y)) := by
  have hg : vw.ownBlock = some g := by rw [hv]; rfl
  have hgb : g ≠ b := fun e => h.nw (by rw [hg, e])
  have hs := (hv ▸ h.rw).stored i (.int .u64 y)
  refine ⟨⟨h.base, (heap_setCell_other w ⟨g, i, none⟩ b _ hgb.symm).trans h.blk, ?_, ?_, ?_, ?_, h.lim, ?_⟩, ⟨rfl, rfl, rfl, by simp [World.setCell], fun k _ _ hw _ => heap_setCell_other w ⟨g, i, none⟩ k _ (fun e => hw (by rw [hg, e])), fun _ h => .inl h, fun _ h => .inl h⟩⟩
  · have := hs.1
    rw [hv]
    simpa [wv, List.map_set] using this
  · exact h.rb.kept hs.2 (.inr (h.nwb hg))
  · simpa using h.leb
  · simpa using h.le
  · intro x hx
    rcases List.mem_or_eq_of_mem_set hx with h' | h'
    · exact h.val x h'
    · omega

/-- A store into a mark. -/
theorem setMark (h : IsAr n₀ b vw vb w A) {g c i : Nat} {y : Bool} (hv : vb = .slice (some ⟨g, 0, none⟩) A.bs.length c) :
    IsAr n₀ b vw vb (w.setCell ⟨g, i, none⟩ (.bool y)) { A with bs := A.bs.set i y } ∧ Step b vw vb w vw vb (w.setCell ⟨g, i, none⟩ (.bool y)) := by
  have hg : vb.ownBlock = some g := by rw [hv]; rfl
  have hgb : g ≠ b := fun e => h.nb (by rw [hg, e])
  have hs := (hv ▸ h.rb).stored i (.bool y)
  refine ⟨⟨h.base, (heap_setCell_other w ⟨g, i, none⟩ b _ hgb.symm).trans h.blk, ?_, ?_, ?_, h.le, h.lim, h.val⟩, ⟨rfl, rfl, rfl, by simp [World.setCell], fun k _ _ _ hw => heap_setCell_other w ⟨g, i, none⟩ k _ (fun e => hw (by rw [hg, e])), fun _ h => .inl h, fun _ h => .inl h⟩⟩
  · refine h.rw.kept hs.2 ?_
    cases e : vw.ownBlock with
    | none => exact .inl rfl
    | some k => exact .inr (fun e' => h.nwb e (by rw [hg, e']))
  · have := hs.1
    rw [hv]
    simpa [List.map_set] using this
  · simpa using h.leb

/-- A store into 'last'. -/
theorem setLast (h : IsAr n₀ b vw vb w A) (o : Option Nat) :
    IsAr n₀ b vw vb (w.setCell ⟨b, 3, none⟩ (.int .i64 (optI o))) { A with last := o } ∧ Step b vw vb w vw vb (w.setCell ⟨b, 3, none⟩ (.int .i64 (optI o))) := by
  have hgr : w.grownBy (w.setCell ⟨b, 3, none⟩ (.int .i64 (optI o))) (some b) := ⟨rfl, rfl, rfl, by simp [World.setCell], fun k _ hk => heap_setCell_other w ⟨b, 3, none⟩ k _ (fun e => hk (by rw [e]))⟩
  refine ⟨⟨h.base, ?_, h.rw.kept hgr (.inr h.nw), h.rb.kept hgr (.inr h.nb), h.leb, h.le, h.lim, h.val⟩, ⟨rfl, rfl, rfl, by simp [World.setCell], fun k _ hb _ _ => heap_setCell_other w ⟨b, 3, none⟩ k _ hb, fun _ h => .inl h, fun _ h => .inl h⟩⟩
  have := heap_setCell_same w b 3 _ 138 (.int .i64 (optI o)) h.blk
  simpa using this

/-- The words' row has grown and is stored. -/
theorem grownWords (h : IsAr n₀ b vw vb w A) {w1 : World} {v' : Value} {m : Nat} (hown : w1.ownsRow n₀ 98 1 v' (A.ws.length + m) (A.ws.map wv ++ List.replicate m (.int .u64 0))) (hg : w.grownBy w1 vw.ownBlock)
    (hf : v'.ownBlock = vw.ownBlock ∨ v'.ownBlock = some w.heap.size) (hm : A.ws.length + m ≤ A.limit) :
    IsAr n₀ b v' vb (w1.setCell ⟨b, 1, none⟩ v') { A with ws := A.ws ++ List.replicate m 0 } ∧ Step b vw vb w v' vb (w1.setCell ⟨b, 1, none⟩ v') := by
  have hb1 : w1.heap[b]? = some (.cells #[.int .i64 A.limit, vw, vb, .int .i64 (optI A.last)] 138 (0, 0)) := (hg.block b h.lt (fun e => h.nw e.symm)).trans h.blk
  have hvb : v'.ownBlock ≠ some b := by
    intro e; obtain ⟨cur, hc⟩ := row_type hown e; rw [hb1] at hc; simp at hc
  have hgr : w1.grownBy (w1.setCell ⟨b, 1, none⟩ v') (some b) := ⟨rfl, rfl, rfl, by simp [World.setCell], fun k _ hk => heap_setCell_other w1 ⟨b, 1, none⟩ k _ (fun e => hk (by rw [e]))⟩
  have hrb1 : w1.ownsRow n₀ 4 1 vb A.bs.length (A.bs.map Value.bool) := h.rb.kept hg (by
    cases e : vb.ownBlock with
    | none => exact .inl rfl
    | some k => exact .inr (fun e' => h.nwb e'.symm e))
  refine ⟨⟨h.base, ?_, ?_, hrb1.kept hgr (.inr h.nb), h.leb, by simpa using hm, h.lim, ?_⟩, ⟨hg.os, hg.tape, hg.output, by simpa [World.setCell] using hg.size, ?_, ?_, fun _ h => .inl h⟩⟩
  · have := heap_setCell_same w1 b 1 _ 138 v' hb1
    simpa using this
  · have := hown.kept hgr (.inr hvb)
    simpa [wv] using this
  · intro x hx
    rcases List.mem_append.1 hx with h' | h'
    · exact h.val x h'
    · rw [List.mem_replicate] at h'; omega
  · intro k hk hkb hkw _
    exact (heap_setCell_other w1 ⟨b, 1, none⟩ k _ hkb).trans (hg.block k hk hkw)
  · intro k e
    rcases hf with hf | hf
    · exact .inl (by rw [← hf]; exact e)
    · rw [hf] at e; right; simp at e; omega

theorem grownMarks (h : IsAr n₀ b vw vb w A) {w1 : World} {v' : Value} {m : Nat} (hown : w1.ownsRow n₀ 4 1 v' (A.bs.length + m) (A.bs.map Value.bool ++ List.replicate m (.bool false))) (hg : w.grownBy w1 vb.ownBlock)
    (hf : v'.ownBlock = vb.ownBlock ∨ v'.ownBlock = some w.heap.size) (hm : A.bs.length + m ≤ A.limit) :
    IsAr n₀ b vw v' (w1.setCell ⟨b, 2, none⟩ v') { A with bs := A.bs ++ List.replicate m false } ∧ Step b vw vb w vw v' (w1.setCell ⟨b, 2, none⟩ v') := by
  have hb1 : w1.heap[b]? = some (.cells #[.int .i64 A.limit, vw, vb, .int .i64 (optI A.last)] 138 (0, 0)) := (hg.block b h.lt (fun e => h.nb e.symm)).trans h.blk
  have hvb : v'.ownBlock ≠ some b := by
    intro e; obtain ⟨cur, hc⟩ := row_type hown e; rw [hb1] at hc; simp at hc
  have hgr : w1.grownBy (w1.setCell ⟨b, 2, none⟩ v') (some b) := ⟨rfl, rfl, rfl, by simp [World.setCell], fun k _ hk => heap_setCell_other w1 ⟨b, 2, none⟩ k _ (fun e => hk (by rw [e]))⟩
  have hrw1 : w1.ownsRow n₀ 98 1 vw A.ws.length (A.ws.map wv) := h.rw.kept hg (by
    cases e : vw.ownBlock with
    | none => exact .inl rfl
    | some k => exact .inr (fun e' => h.nwb e e'.symm))
  refine ⟨⟨h.base, ?_, hrw1.kept hgr (.inr h.nw), ?_, by simpa using hm, h.le, h.lim, h.val⟩, ⟨hg.os, hg.tape, hg.output, by simpa [World.setCell] using hg.size, ?_, fun _ h => .inl h, ?_⟩⟩
  · have := heap_setCell_same w1 b 2 _ 138 v' hb1
    simpa using this
  · have := hown.kept hgr (.inr hvb)
    simpa using this
  · intro k hk hkb _ hkw
    exact (heap_setCell_other w1 ⟨b, 2, none⟩ k _ hkb).trans (hg.block k hk hkw)
  · intro k e
    rcases hf with hf | hf
    · exact .inl (by rw [← hf]; exact e)
    · rw [hf] at e; right; simp at e; omega

end IsAr

theorem row_shorter {w : World} {base : Nat} {e : TypeId} {g n c m : Nat} {xs : List Value} (h : w.ownsRow base e 1 (.slice (some ⟨g, 0, none⟩) n c) n xs) (hm : m ≤ n) : w.ownsRow base e 1 (.slice (some ⟨g, 0, none⟩) m c) m (xs.take m) := by
  have hl : xs.length = n := by simpa using h.1
  rcases h.2 with ⟨h', _⟩ | ⟨g', cap, cur, h', hb, hg, h1, h2, h3, h4⟩
  · simp at h'
  · simp only [Value.slice.injEq, Option.some.injEq, Addr.mk.injEq, and_true, true_and] at h'
    obtain ⟨rfl, rfl⟩ := h'
    refine ⟨by simp [hl]; omega, .inr ⟨g, c, cur, rfl, hb, hg, by omega, h2, h3, ?_⟩⟩
    rw [← h4, List.take_take]; congr 1; omega

end Go.Proofs.YtkombdkhodjckaaGreat

namespace Go.Proofs.YtkombdkhodjckaaGreat
open Go.RowKit

variable {n₀ b : Nat} {vw vb : Value} {w : World} {A : Ar}

theorem ret_int {k : IntKind} {a b : Int} (h : a = b) : Ending.returned (.int k a) = .returned (.int k b) := by rw [h]

set_option maxHeartbeats 400000 in
theorem end_in (h : IsAr n₀ b vw vb w A) : Calls Tryz.prog 41 #[.pointer (some ⟨b, 0, none⟩)] w fun e w' => e = .returned (.int .i64 A.ws.length) ∧ w' = w := by
  have hc := h.c1
  obtain ⟨p, c, rfl, _, _⟩ := IsAr.row_form h.rw
  clear h
  go_enter Tryz.func41, Tryz.ntmps41
  go_wp2
  go_ret
  exact ⟨rfl, rfl⟩

set_option maxHeartbeats 400000 in
theorem free_in (h : IsAr n₀ b vw vb w A) : Calls Tryz.prog 91 #[.pointer (some ⟨b, 0, none⟩)] w fun e w' => e = .returned (.int .i64 ((A.limit : Int) - A.ws.length)) ∧ ∃ k, w' = w.drewN k := by
  have hc := h.c1
  have hc0 := h.c0
  have hle := h.le
  have hlim := h.lim
  obtain ⟨p, c, rfl, _, _⟩ := IsAr.row_form h.rw
  clear h
  obtain ⟨n, hn⟩ : ∃ n, A.ws.length = n := ⟨_, rfl⟩
  obtain ⟨L, hL⟩ : ∃ L, A.limit = L := ⟨_, rfl⟩
  rw [hn] at hc hle ⊢
  rw [hL] at hc0 hle hlim ⊢
  clear hn hL
  go_enter Tryz.func91, Tryz.ntmps91
  go_wp2
  go_quiet (fail)
  go_wp2
  go_ret
  exact ⟨rfl, _, rfl⟩

set_option maxHeartbeats 400000 in
theorem field_in (h : IsAr n₀ b vw vb w A) (i x f : Nat) (hi : A.ws[i]? = some x) (hf : f ≤ 3) :
    Calls Tryz.prog 112 #[.pointer (some ⟨b, 0, none⟩), .int .i64 i, .int .i64 f] w fun e w' => e = .returned (.int .i64 (fld x f)) ∧ w' = w := by
  have hc := h.c1
  have hle := h.le
  have hlim := h.lim
  have hx := h.val x (List.mem_of_getElem? hi)
  have hlt : i < A.ws.length := (List.getElem?_eq_some_iff.1 hi).1
  obtain ⟨g, c, rfl, hcell, _⟩ := h.word hi
  clear h hi
  go_enter Tryz.func112, Tryz.ntmps112
  go_wp2
  go_ret
  exact ⟨ret_int (field_val x f hx), rfl⟩

set_option maxHeartbeats 4000000 in
theorem setField_in (h : IsAr n₀ b vw vb w A) (i x f v : Nat) (hi : A.ws[i]? = some x) (hf : f ≤ 3) (hv : v < 1048576) :
    Calls Tryz.prog 116 #[.pointer (some ⟨b, 0, none⟩), .int .i64 i, .int .i64 f, .int .i64 v] w fun e w' => e = .returned (.tuple #[]) ∧
      IsAr n₀ b vw vb w' { A with ws := A.ws.set i (setf x f v) } ∧ Step b vw vb w vw vb w' := by
  have hc := h.c1
  have hle := h.le
  have hlim := h.lim
  have hx := h.val x (List.mem_of_getElem? hi)
  have hlt : i < A.ws.length := (List.getElem?_eq_some_iff.1 hi).1
  obtain ⟨g, c, hvw, hcell, hfr⟩ := h.word hi
  have H : Hid (∀ w', w' = (w.setCell ⟨g, i, none⟩ (.int .u64 (setfI x f v))).drew → IsAr n₀ b vw vb w' { A with ws := A.ws.set i (setf x f v) } ∧ Step b vw vb w vw vb w') := by
    intro w' hw'
    obtain ⟨e1, e2⟩ := setfI_eq x f v hx
    rw [e1] at hw'
    obtain ⟨h1, h2⟩ := h.setWord (i := i) hvw e2
    rw [hw']
    exact ⟨h1.drew, h2.drew⟩
  rw [hvw] at hc
  clear h hi hvw
  go_enter Tryz.func116, Tryz.ntmps116
  go_wp2
  go_region
  go_end0
  exact ⟨rfl, H.out _ rfl⟩

def setW (A : Ar) (i f v : Nat) : Ar := { A with ws := A.ws.set i (setf (A.ws.getD i 0) f v) }

@[simp] theorem setW_len (A : Ar) (i f v : Nat) : (setW A i f v).ws.length = A.ws.length := by simp [setW]
@[simp] theorem setW_bs (A : Ar) (i f v : Nat) : (setW A i f v).bs = A.bs := rfl
@[simp] theorem setW_last (A : Ar) (i f v : Nat) : (setW A i f v).last = A.last := rfl
@[simp] theorem setW_limit (A : Ar) (i f v : Nat) : (setW A i f v).limit = A.limit := rfl

theorem setField_at (h : IsAr n₀ b vw vb w A) (i f v : Nat) (hi : i < A.ws.length) (hf : f ≤ 3) (hv : v < 1048576) :
    Calls Tryz.prog 116 #[.pointer (some ⟨b, 0, none⟩), .int .i64 i, .int .i64 f, .int .i64 v] w fun e w' => e = .returned (.tuple #[]) ∧
      IsAr n₀ b vw vb w' (setW A i f v) ∧ Step b vw vb w vw vb w' := by
  have := setField_in h i (A.ws.getD i 0) f v (by simp [List.getD, hi]) hf hv
  exact this

def ahd (x : Nat) : Option Nat := if fld x 1 = 0 then none else some (fld x 1 - 1)

def bhd (x : Nat) : Option Nat := if fld x 2 = 0 then none else some (fld x 2)

theorem fld_lt (x f : Nat) : fld x f < 1048576 := Nat.mod_lt _ (by omega)

theorem optI_ahd (x : Nat) : (fld x 1 : Int) - 1 = optI (ahd x) := by
  unfold ahd optI; split <;> (split at * <;> simp_all <;> omega)

set_option maxHeartbeats 400000 in
theorem ahead_in (h : IsAr n₀ b vw vb w A) (i x : Nat) (hi : A.ws[i]? = some x) :
    Calls Tryz.prog 129 #[.pointer (some ⟨b, 0, none⟩), .int .i64 i] w fun e w' => e = .returned (.int .i64 (optI (ahd x))) ∧ w' = w := by
  have hl := fld_lt x 1
  have hc := (field_in h i x 1 hi (by omega))
  clear hi h
  go_enter Tryz.func129, Tryz.ntmps129
  go_wp2_with (go_at_call 112; refine hc.mono ?_; clear hc; rintro e w' ⟨rfl, rfl⟩)
  go_ret
  exact ⟨ret_int (optI_ahd x), rfl⟩

set_option maxHeartbeats 400000 in
theorem behind_in (h : IsAr n₀ b vw vb w A) (i x : Nat) (hi : A.ws[i]? = some x) :
    Calls Tryz.prog 126 #[.pointer (some ⟨b, 0, none⟩), .int .i64 i] w fun e w' => e = .returned (.int .i64 (optI (bhd x))) ∧ w' = w := by
  have hl := fld_lt x 2
  have hc := (field_in h i x 2 hi (by omega))
  clear hi h
  by_cases h0 : fld x 2 = 0
  · have e : bhd x = none := by simp [bhd, h0]
    rw [e]
    rw [h0] at hc
    clear h0 hl e
    go_enter Tryz.func126, Tryz.ntmps126
    go_wp2_with (go_at_call 112; refine hc.mono ?_; clear hc; rintro e w' ⟨rfl, rfl⟩)
    go_ret
    exact ⟨rfl, rfl⟩
  · have e : bhd x = some (fld x 2) := by simp [bhd, h0]
    have h1 : 0 < fld x 2 := by omega
    rw [e]
    go_enter Tryz.func126, Tryz.ntmps126
    go_wp2_with (go_at_call 112; refine hc.mono ?_; clear hc; rintro e w' ⟨rfl, rfl⟩)
    go_ret
    exact ⟨rfl, rfl⟩

/-- The place right behind an object. -/
def endAt (A : Ar) : Option Nat → Nat
  | none => 0
  | some i => i + 1 + fld (A.ws.getD i 0) 0

set_option maxHeartbeats 400000 in
theorem endOf_in (h : IsAr n₀ b vw vb w A) (o : Option Nat) (ho : ∀ i, o = some i → i < A.ws.length) :
    Calls Tryz.prog 83 #[.pointer (some ⟨b, 0, none⟩), .int .i64 (optI o)] w fun e w' => e = .returned (.int .i64 (endAt A o)) ∧ w' = w := by
  cases o with
  | none =>
    clear h
    unfold optI endAt
    go_enter Tryz.func83, Tryz.ntmps83
    go_wp2
    go_ret
    exact ⟨rfl, rfl⟩
  | some i =>
    have hi := ho i rfl
    have hl := fld_lt (A.ws.getD i 0) 0
    have hc := (field_in h i (A.ws.getD i 0) 0 (by simp [List.getD, hi]) (by omega))
    have hle := h.le
    have hlim := h.lim
    unfold optI endAt
    dsimp only
    obtain ⟨y, hy⟩ : ∃ y, fld (A.ws.getD i 0) 0 = y := ⟨_, rfl⟩
    rw [hy] at hc hl ⊢
    clear h ho hy
    go_enter Tryz.func83, Tryz.ntmps83
    go_wp2_with (go_at_call 112; refine hc.mono ?_; clear hc; rintro e w' ⟨rfl, rfl⟩)
    go_ret
    exact ⟨ret_int (by omega), rfl⟩

def tieA (A : Ar) (x y : Option Nat) : Ar :=
  let A1 := match x with | some i => setW A i 2 (y.getD 0) | none => A
  match y with | some j => setW A1 j 1 (x.elim 0 (· + 1)) | none => { A1 with last := x }

set_option maxHeartbeats 1000000 in
theorem tie_in (h : IsAr n₀ b vw vb w A) (x y : Option Nat) (hx : ∀ i, x = some i → i < A.ws.length ∧ (y ≠ none → i + 1 < 1048576)) (hy : ∀ j, y = some j → j < A.ws.length) :
    Calls Tryz.prog 113 #[.pointer (some ⟨b, 0, none⟩), .int .i64 (optI x), .int .i64 (optI y)] w fun e w' => e = .returned (.tuple #[]) ∧
      IsAr n₀ b vw vb w' (tieA A x y) ∧ Step b vw vb w vw vb w' := by
  have hle := h.le
  have hlim := h.lim
  cases x with
  | none =>
    cases y with
    | none =>
      have hl := h.setLast none
      have H : Hid _ := hl
      have hf := h.f 3
      have hc3 := h.c3
      clear hl h hx hy
      unfold optI tieA
      dsimp only
      go_enter Tryz.func113, Tryz.ntmps113
      go_wp2
      go_end0
      exact ⟨rfl, H.out⟩
    | some j =>
      have hj := hy j rfl
      have hs := setField_at h j 1 0 hj (by omega) (by omega)
      unfold optI tieA
      dsimp only
      clear hx hy h
      go_enter Tryz.func113, Tryz.ntmps113
      go_wp2_with (go_at_call 116; refine hs.mono ?_; clear hs; rintro e w' ⟨rfl, hA', hS'⟩)
      go_end0
      exact ⟨rfl, hA', hS'⟩
  | some i =>
    obtain ⟨hi, hi2⟩ := hx i rfl
    cases y with
    | none =>
      have hs := setField_at h i 2 0 hi (by omega) (by omega)
      unfold optI tieA
      dsimp only
      clear hx hy h
      go_enter Tryz.func113, Tryz.ntmps113
      go_wp2_with (go_at_call 116; refine hs.mono ?_; clear hs; rintro e w' ⟨rfl, hA', hS'⟩; have hf := hA'.f 3; have hc3 := hA'.c3; have H : Hid _ := hA'.setLast (some i))
      go_end0
      exact ⟨rfl, H.out.1, hS'.trans H.out.2⟩
    | some j =>
      have hj := hy j rfl
      have hi2 := hi2 (by simp)
      have hs := setField_at h i 2 j hi (by omega) (by omega)
      unfold optI tieA
      dsimp only
      clear hx hy h
      go_enter Tryz.func113, Tryz.ntmps113
      go_wp2_with (first
        | (go_at_call 116; refine hs.mono ?_; clear hs; rintro e w1 ⟨rfl, hA1, hS1⟩; have hs2 := setField_at hA1 j 1 (i + 1) (by simpa using hj) (by omega) (by omega))
        | (go_at_call 116; refine hs2.mono ?_; clear hs2; rintro e w2 ⟨rfl, hA2, hS2⟩))
      go_end0
      exact ⟨rfl, hA2, hS1.trans hS2⟩

end Go.Proofs.YtkombdkhodjckaaGreat

namespace Go.Proofs.YtkombdkhodjckaaGreat
open Go.RowKit

variable {n₀ b : Nat} {vw vb : Value} {w : World} {A : Ar}

theorem info29 : (Tryz.prog.info? 98).map (fun i => (i.zero, i.size, i.bytes)) = some (some (.int .u64 0), 1, 8) := by kernel_rfl

theorem info4 : (Tryz.prog.info? 4).map (fun i => (i.zero, i.size, i.bytes)) = some (some (.bool false), 1, 1) := by kernel_rfl

set_option maxHeartbeats 1000000 in
theorem has_in (h : IsAr n₀ b vw vb w A) (hl : A.bs.length = A.ws.length) (i : Int) :
    Calls Tryz.prog 125 #[.pointer (some ⟨b, 0, none⟩), .int .i64 i] w fun e w' => e = .returned (.bool (decide (0 ≤ i) && A.bs.getD i.toNat false)) ∧ w' = w := by
  have he := end_in h
  have hle := h.le
  have hlim := h.lim
  by_cases h0 : 0 ≤ i
  · obtain ⟨j, rfl⟩ : ∃ j : Nat, i = j := ⟨i.toNat, by omega⟩
    by_cases h1 : j < A.ws.length
    · obtain ⟨x, hx⟩ : ∃ x, A.bs[j]? = some x := ⟨A.bs[j]'(by omega), by simp [hl, h1]⟩
      obtain ⟨g, c, hvb, hcell, _⟩ := h.mark hx
      have hc2 := h.c2
      rw [hvb, hl] at hc2
      have e : (decide (0 ≤ (j : Int)) && A.bs.getD (j : Int).toNat false) = x := by simp [List.getD, hx]
      rw [e]
      clear h hx e hvb
      obtain ⟨n, hn⟩ : ∃ n, A.ws.length = n := ⟨_, rfl⟩
      rw [hn] at *
      clear hn hl
      go_enter Tryz.func125, Tryz.ntmps125
      go_wp2_with (go_at_call 41; refine he.mono ?_; clear he; rintro e w' ⟨rfl, rfl⟩)
      go_ret
      exact ⟨rfl, rfl⟩
    · have e : (decide (0 ≤ (j : Int)) && A.bs.getD (j : Int).toNat false) = false := by simp [List.getD, hl, h1]
      rw [e]
      clear h e
      obtain ⟨n, hn⟩ : ∃ n, A.ws.length = n := ⟨_, rfl⟩
      rw [hn] at *
      clear hn hl
      go_enter Tryz.func125, Tryz.ntmps125
      go_wp2_with (go_at_call 41; refine he.mono ?_; clear he; rintro e w' ⟨rfl, rfl⟩)
      go_ret
      exact ⟨rfl, rfl⟩
  · have e : (decide (0 ≤ i) && A.bs.getD i.toNat false) = false := by simp [h0]
    rw [e]
    clear h e he hl hle hlim
    go_enter Tryz.func125, Tryz.ntmps125
    go_wp2
    go_ret
    exact ⟨rfl, rfl⟩

theorem grown_cell {w w1 : World} {row : Option Nat} (hg : w.grownBy w1 row) {k : Nat} (hk : k < w.heap.size) (hne : row ≠ some k) (j : Nat) : w1.cell? ⟨k, j, none⟩ = w.cell? ⟨k, j, none⟩ :=
  World.cell?_of_block (a := ⟨k, j, none⟩) (hg.block k hk (fun e => hne e.symm))

theorem grown_frozen {w w1 : World} {row : Option Nat} (hg : w.grownBy w1 row) {k : Nat} (hk : k < w.heap.size) (hne : row ≠ some k) (j : Nat) : w1.frozen? ⟨k, j, none⟩ = w.frozen? ⟨k, j, none⟩ :=
  World.frozen?_of_block (a := ⟨k, j, none⟩) (hg.block k hk (fun e => hne e.symm))

theorem mark_new {n₀ b g2 N k2 m : Nat} {v : Value} {w2 : World} {A : Ar} {W : List Nat} (h : IsAr n₀ b v (.slice (some ⟨g2, 0, none⟩) N k2) w2 { A with ws := W, bs := A.bs ++ List.replicate (m + 1) false }) (j : Nat) (hj : j = A.bs.length) :
    w2.cell? ⟨g2, j, none⟩ = some (.bool false) ∧ w2.frozen? ⟨g2, j, none⟩ = false := by
  obtain ⟨gm, cm, hvm, hcm, hfm⟩ := h.mark (i := j) (x := false) (by rw [List.getElem?_append_right (by omega)]; simp [hj])
  simp only [Value.slice.injEq, Option.some.injEq, Addr.mk.injEq, and_true] at hvm
  obtain ⟨rfl, _, _⟩ := hvm
  exact ⟨hcm, hfm⟩

/-- The arena behind 'add'. -/
def addA (A : Ar) (k size : Nat) : Ar :=
  let A1 : Ar := { A with ws := A.ws ++ List.replicate (size + 1) 0, bs := (A.bs ++ List.replicate (size + 1) false).set A.ws.length true }
  let A3 := setW (setW A1 A.ws.length 0 size) A.ws.length 3 k
  tieA (tieA A3 A.last (some A.ws.length)) (some A.ws.length) none

theorem tieA_len (A : Ar) (x y : Option Nat) : (tieA A x y).ws.length = A.ws.length := by
  cases x <;> cases y <;> simp [tieA]

theorem tieA_bs (A : Ar) (x y : Option Nat) : (tieA A x y).bs = A.bs := by
  cases x <;> cases y <;> simp [tieA]

theorem tieA_limit (A : Ar) (x y : Option Nat) : (tieA A x y).limit = A.limit := by
  cases x <;> cases y <;> simp [tieA]

set_option maxHeartbeats 1000000 in
theorem add_in (h : IsAr n₀ b vw vb w A) (hl : A.bs.length = A.ws.length) (hlast : ∀ i, A.last = some i → i < A.ws.length) (k size : Nat) (hk : k < 16) (hs : A.ws.length + size + 1 ≤ A.limit) :
    Calls Tryz.prog 92 #[.pointer (some ⟨b, 0, none⟩), .int .u8 k, .int .i64 size] w fun e w' => e = .returned (.int .i64 A.ws.length) ∧
      ∃ vw' vb', IsAr n₀ b vw' vb' w' (addA A k size) ∧ Step b vw vb w vw' vb' w' := by
  have he := end_in h
  have hle := h.le
  have hlim := h.lim
  have hbase : n₀ ≤ w.heap.size := Nat.le_trans h.base (Nat.le_of_lt h.lt)
  obtain ⟨i0, hi, hz0, hz1, hz2⟩ := info_parts info29
  obtain ⟨j0, hj, hy0, hy1, hy2⟩ := info_parts info4
  have hc1 := h.c1
  have hc2 := h.c2
  have hc3 := h.c3
  obtain ⟨p, c, rfl, _, _⟩ := IsAr.row_form h.rw
  obtain ⟨p2, c2, rfl, _, _⟩ := IsAr.row_form h.rb
  have HL : Hid (A.bs.length = A.ws.length) := hl
  have hbl : A.bs.length + size + 1 ≤ A.limit := by omega
  have hbq : A.ws.length < A.bs.length + (size + 1) := by omega
  clear hl
  go_enter Tryz.func92, Tryz.ntmps92
  go_wp2_with (first
    | (go_at_call 41; refine he.mono ?_; clear he; rintro e w' ⟨rfl, rfl⟩)
    | (at_builtin; refine wpList_append_zeros _ rfl _ _ 136 3 rfl n₀ 98 .i64 i0 (.int .u64 0) 8 Tryz.underlying136 Tryz.underlying3 hi hz0 hz1 hz2 rfl rfl _ _ _ rfl h.rw (size + 1) (by go_num) (by omega) (by unfold maxLen; omega) (by omega) hbase ?_; intro v' w1 hown1 hgrow1 hfr1
       obtain ⟨hA1, hS1⟩ := h.grownWords hown1 hgrow1 hfr1 (by omega)
       have d0 := grown_cell hgrow1 h.lt h.nw
       have d1 := grown_frozen hgrow1 h.lt h.nw
       have f1 := d1 1
       have f2 := d1 2
       have f3 := d1 3
       rw [h.f] at f1 f2 f3
       have e1 := (d0 1).trans hc1
       have e2 := (d0 2).trans hc2
       have e3 := (d0 3).trans hc3
       clear d0 d1
       obtain ⟨g1, k1, rfl, _, _⟩ := IsAr.row_some hown1 (by omega)
       clear hown1 hgrow1 hfr1 h hc1 hc2 hc3)
    | (at_builtin; refine wpList_append_zeros _ rfl _ _ 120 3 rfl n₀ 4 .i64 j0 (.bool false) 1 Tryz.underlying120 Tryz.underlying3 hj hy0 hy1 hy2 rfl rfl _ A.bs.length (A.bs.map Value.bool) rfl hA1.rb (size + 1) (by go_num) (by omega) (by unfold maxLen; omega) (by omega) (Nat.le_trans hbase hS1.size) ?_; intro v' w2 hown2 hgrow2 hfr2
       obtain ⟨hA2, hS2⟩ := hA1.grownMarks hown2 hgrow2 hfr2 (by dsimp only; omega)
       have d0 := grown_cell hgrow2 hA1.lt hA1.nb
       have d1 := grown_frozen hgrow2 hA1.lt hA1.nb
       have f1' := d1 1
       have f2' := d1 2
       have f3' := d1 3
       rw [hA1.f] at f1' f2' f3'
       have e1' := (d0 1).trans hA1.c1
       have e2' := (d0 2).trans hA1.c2
       have e3' := (d0 3).trans hA1.c3
       clear d0 d1
       obtain ⟨g2, k2, rfl, _, _⟩ := IsAr.row_some hown2 (by omega)
       clear hown2 hgrow2 hfr2 hA1 f1 f2 f3 e1 e2 e3
       obtain ⟨hcm, hfm⟩ := mark_new hA2 A.ws.length HL.out.symm
       have hgb : ¬ g2 = b := fun e => hA2.nb (by rw [e]; rfl)
       have hgb' : ¬ b = g2 := fun e => hgb e.symm
       have hA3 := hA2.setMark (g := g2) (c := k2) (i := A.ws.length) (y := true) (by simp)
       have hc3x := hA2.c3
       have hc2x := hA2.c2))
  have hS12 := hS1.trans (hS2.trans hA3.2)
  have hA3' := hA3.1
  have hx := setField_at hA3' A.ws.length 0 size (by simp) (by omega) (by omega)
  clear hA3 hA2 hS1 hS2 hcm hfm hc3x hc2x f1' f2' f3' e1' e2' e3' hA3'
  refine hx.mono ?_
  rintro e w4 ⟨rfl, hA4, hS4⟩
  clear hx
  have hS14 := hS12.trans hS4
  have hx := setField_at hA4 A.ws.length 3 k (by simp) (by omega) (by omega)
  clear hS12 hS4 hA4
  go_wp2_with (first
    | (go_at_call 116; refine hx.mono ?_; clear hx; rintro e w5 ⟨rfl, hA5, hS5⟩; have hc5 := hA5.c3; have hy := tie_in hA5 A.last (some A.ws.length) (fun i hi => ⟨by have := hlast i hi; simp; omega, fun _ => by have := hlast i hi; omega⟩) (fun i hi => by cases hi; simp))
    | (go_at_call 113; refine hy.mono ?_; clear hy; rintro e w6 ⟨rfl, hA6, hS6⟩; have hz := tie_in hA6 (some A.ws.length) none (fun i hi => ⟨by cases hi; simp [tieA_len], fun h => (h rfl).elim⟩) (fun i hi => by cases hi))
    | (go_at_call 113; refine hz.mono ?_; clear hz; rintro e w7 ⟨rfl, hA7, hS7⟩))
  go_ret
  exact ⟨rfl, _, _, hA7, hS14.trans (hS5.trans (hS6.trans hS7))⟩

end Go.Proofs.YtkombdkhodjckaaGreat
