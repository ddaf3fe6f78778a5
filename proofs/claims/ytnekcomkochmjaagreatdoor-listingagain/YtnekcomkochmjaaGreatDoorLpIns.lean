/- listing: words of ops and signs, rows. -/
import Derived.Test.YtnekcomkochmjaaGreatDoorLpNum
import Derived.Test.YtnekcomkochmjaaGreatDoorLkIns
import Derived.Deep.MidRow
namespace Go.Proofs.YtnekcomkochmjaaGreatDoor
set_option linter.unusedVariables false
set_option linter.unusedSimpArgs false
open Go.RowKit

namespace Lp
open Lk

variable {w : World}

/-- A word's number in a list of words; 0, if it is none. -/
def findW (L : List (List UInt8)) (s : List UInt8) : Nat := (L.findIdx? (fun x => decide (x = s))).getD 0

theorem findW_at {L : List (List UInt8)} {s : List UInt8} {j : Nat} (h : L[j]? = some s) (hn : ∀ p ∈ L.take j, p ≠ s) : findW L s = j := by
  have : L.findIdx? (fun x => decide (x = s)) = some j := by
    rw [List.findIdx?_eq_some_iff_getElem]
    obtain ⟨hj, e⟩ := List.getElem?_eq_some_iff.1 h
    refine ⟨hj, by simp [e], fun k hk => ?_⟩
    have := hn (L[k]'(by omega)) (by rw [List.mem_take_iff_getElem]; exact ⟨k, by omega, rfl⟩)
    simp [this]
  unfold findW
  rw [this]; rfl

theorem findW_none {L : List (List UInt8)} {s : List UInt8} (hn : ∀ p ∈ L, p ≠ s) : findW L s = 0 := by
  have : L.findIdx? (fun x => decide (x = s)) = none := by
    rw [List.findIdx?_eq_none_iff]
    intro x hx
    simp [hn x hx]
  unfold findW
  rw [this]; rfl

theorem range_of {g : Nat} {L : List (List UInt8)} (h : RowAt strC 1 w (some ⟨g, 0, none⟩) L) : w.rangeAt g 0 (L.map (fun p => Value.string (bs p))) := by
  intro j v hj
  rw [List.getElem?_map] at hj
  cases hx : L[j]? with
  | none => rw [hx] at hj; cases hj
  | some x =>
    rw [hx] at hj
    simp at hj
    subst hj
    obtain ⟨b0, off, e, h1⟩ := h.look (Below.refl _ _) hx
    simp only [Option.some.injEq, Addr.mk.injEq] at e
    obtain ⟨rfl, rfl, _⟩ := e
    have := h1 0 _ rfl
    simpa using this

theorem infoWd : (Tryz.prog.info? 70).map (·.size) = some 1 := by kernel_rfl

theorem run_index_row {P : Program} (w : World) {t e : TypeId} {n : Nat} {cs : Array Value} {k : IntKind} {j : Nat} {v : Value} (h : P.underlying t = some (.array n e)) (he : P.underlying e = some .string) (hs : (P.info? e).map (·.size) = some 1) (hj : j < n) (hv : cs[j]? = some v) :
    (Instr.index t (.agg cs) (.int k j)).run P w = .ok v w := by
  cases hq : P.info? e with
  | none => simp [hq] at hs
  | some i =>
    have hsz : i.size = 1 := by simpa [hq] using hs
    have hj' : (0 : Int) ≤ (j : Int) ∧ (j : Int) < (n : Int) := by omega
    simp [Instr.index, run_underlying h, asIntOf, hj, part, isAgg, run_underlying he, sizeOf, typeInfo, hq, hsz, hv, go_sem]

theorem info_opOf : (Tryz.prog.info? 102).map (·.size) = some (opsL.map (fun p => Value.string (bs p))).length := by kernel_rfl

set_option maxRecDepth 20000 in
set_option maxHeartbeats 2000000 in
theorem opOf_in (s : List UInt8) (hw : WordsT w) :
    Calls Tryz.prog 102 #[.string (bs s)] w fun e w' => e = .returned (.int .u8 (findW opsL s)) ∧ w' = w := by
  have hrg := range_of hw.ops
  have hif := info_opOf
  obtain ⟨cs, hcs⟩ : ∃ cs, cs = opsL.map (fun p => Value.string (bs p)) := ⟨_, rfl⟩
  rw [← hcs] at hrg hif
  have HCS : Hid _ := hcs
  clear hcs hw
  have hlens : opsL.length = 31 := rfl
  go_enter Tryz.func102, Tryz.ntmps102
  go_wp2_with (first
    | (refine wpList_load_mid rfl 102 _ rfl 0 0 rfl cs _ hrg Tryz.underlying102 rfl hif ?_; clear hrg hif))
  go_loopw [6] (fun k wr => ∃ j : Nat, k = .int .i64 j ∧ j ≤ 31 ∧ (∀ p ∈ opsL.take j, p ≠ s) ∧ wr = w) (fun k _ => 31 - (intOf k).toNat)
  case atStart => exact ⟨0, rfl, by omega, by simp, rfl⟩
  case round =>
    obtain ⟨j, rfl, hj, hall, rfl⟩ := hrel
    have HA : Hid _ := hall
    clear hall
    by_cases hjn : j < 31
    · have hj' : (j : Int) < 31 := by omega
      obtain ⟨p, hp⟩ : ∃ p, opsL[j]? = some p := ⟨opsL[j]'(by omega), by simp⟩
      have hix : cs[j]? = some (.string (bs p)) := by rw [HCS.out, List.getElem?_map, hp]; rfl
      have HP : Hid _ := hp
      clear hp
      have hget : cs.toArray[j]? = some (.string (bs p)) := by simpa using hix
      have hrun := fun (W : World) => run_index_row (P := Tryz.prog) W (k := .i64) Tryz.underlying102 Tryz.underlying70 infoWd hjn hget
      clear hix hget
      have hwr : IntKind.u8.wrap (j : Int) = (j : Int) := by rw [IntKind.wrap_u8]; omega
      by_cases hps : p = s
      · have hv2 : ((bs p).toList == (bs s).toList) = true := by rw [hps]; simp
        have HF : Hid _ := findW_at (hps ▸ HP.out) HA.out
        clear hps
        go_wp2
        go_ret
        rw [HF.out]
        exact ⟨rfl, rfl⟩
      · have hv2 : ((bs p).toList == (bs s).toList) = false := by rw [bs_toList, bs_toList, beq_eq_false_iff_ne]; exact hps
        have HN : Hid _ := hps
        clear hps
        go_wp2
        go_roundw
        case rel =>
          refine ⟨j + 1, by simp, by omega, ?_, by first | rfl | trivial⟩
          intro q hq
          rw [List.take_add_one, HP.out] at hq
          simp at hq
          rcases hq with hq | rfl
          · exact HA.out q hq
          · exact HN.out
        case measure => simp [intOf]; omega
    · have hj' : ¬ ((j : Int) < 31) := by omega
      have HF : Hid _ := findW_none (L := opsL) (s := s) (by have := HA.out; rwa [List.take_of_length_le (by omega)] at this)
      go_wp2
      go_ret
      rw [HF.out]
      exact ⟨rfl, rfl⟩

theorem info_binOf : (Tryz.prog.info? 103).map (·.size) = some (binsL.map (fun p => Value.string (bs p))).length := by kernel_rfl

set_option maxRecDepth 20000 in
set_option maxHeartbeats 2000000 in
theorem binOf_in (s : List UInt8) (hw : WordsT w) :
    Calls Tryz.prog 104 #[.string (bs s)] w fun e w' => e = .returned (.int .u8 (findW binsL s)) ∧ w' = w := by
  have hrg := range_of hw.bins
  have hif := info_binOf
  obtain ⟨cs, hcs⟩ : ∃ cs, cs = binsL.map (fun p => Value.string (bs p)) := ⟨_, rfl⟩
  rw [← hcs] at hrg hif
  have HCS : Hid _ := hcs
  clear hcs hw
  have hlens : binsL.length = 10 := rfl
  go_enter Tryz.func104, Tryz.ntmps104
  go_wp2_with (first
    | (refine wpList_load_mid rfl 103 _ rfl 1 0 rfl cs _ hrg Tryz.underlying103 rfl hif ?_; clear hrg hif))
  go_loopw [6] (fun k wr => ∃ j : Nat, k = .int .i64 j ∧ j ≤ 10 ∧ (∀ p ∈ binsL.take j, p ≠ s) ∧ wr = w) (fun k _ => 10 - (intOf k).toNat)
  case atStart => exact ⟨0, rfl, by omega, by simp, rfl⟩
  case round =>
    obtain ⟨j, rfl, hj, hall, rfl⟩ := hrel
    have HA : Hid _ := hall
    clear hall
    by_cases hjn : j < 10
    · have hj' : (j : Int) < 10 := by omega
      obtain ⟨p, hp⟩ : ∃ p, binsL[j]? = some p := ⟨binsL[j]'(by omega), by simp⟩
      have hix : cs[j]? = some (.string (bs p)) := by rw [HCS.out, List.getElem?_map, hp]; rfl
      have HP : Hid _ := hp
      clear hp
      have hget : cs.toArray[j]? = some (.string (bs p)) := by simpa using hix
      have hrun := fun (W : World) => run_index_row (P := Tryz.prog) W (k := .i64) Tryz.underlying103 Tryz.underlying70 infoWd hjn hget
      clear hix hget
      have hwr : IntKind.u8.wrap (j : Int) = (j : Int) := by rw [IntKind.wrap_u8]; omega
      by_cases hps : p = s
      · have hv2 : ((bs p).toList == (bs s).toList) = true := by rw [hps]; simp
        have HF : Hid _ := findW_at (hps ▸ HP.out) HA.out
        clear hps
        go_wp2
        go_ret
        rw [HF.out]
        exact ⟨rfl, rfl⟩
      · have hv2 : ((bs p).toList == (bs s).toList) = false := by rw [bs_toList, bs_toList, beq_eq_false_iff_ne]; exact hps
        have HN : Hid _ := hps
        clear hps
        go_wp2
        go_roundw
        case rel =>
          refine ⟨j + 1, by simp, by omega, ?_, by first | rfl | trivial⟩
          intro q hq
          rw [List.take_add_one, HP.out] at hq
          simp at hq
          rcases hq with hq | rfl
          · exact HA.out q hq
          · exact HN.out
        case measure => simp [intOf]; omega
    · have hj' : ¬ ((j : Int) < 10) := by omega
      have HF : Hid _ := findW_none (L := binsL) (s := s) (by have := HA.out; rwa [List.take_of_length_le (by omega)] at this)
      go_wp2
      go_ret
      rw [HF.out]
      exact ⟨rfl, rfl⟩

end Lp

end Go.Proofs.YtnekcomkochmjaaGreatDoor

namespace Go.Proofs.YtnekcomkochmjaaGreatDoor
set_option linter.unusedVariables false
set_option linter.unusedSimpArgs false
open Go.RowKit

namespace Lp
open Lk

variable {w : World}

/-- The row that a line is of, by its first word. -/
def rowP (s : List UInt8) : Nat := if s = [102, 110] then 1 else if s = [99, 97, 112] ∨ s = [117, 112] then 2 else if s = [105, 110, 116] ∨ s = [116, 101, 120, 116] then 3 else if s = [99, 97, 116, 99, 104] then 5 else 4

set_option maxRecDepth 20000 in
set_option maxHeartbeats 2000000 in
theorem rowOf_in (s : List UInt8) (w : World) : Calls Tryz.prog 30 #[.string (bs s)] w fun e w' => e = .returned (.int .u8 (rowP s)) ∧ w' = w := by
  by_cases h0 : s = [102, 110]
  · subst h0
    have m0 : ((bs [102, 110]).toList == ([102, 110] : List UInt8)) = true := by rw [bs_toList]; decide
    have m1 : ((bs [102, 110]).toList == ([99, 97, 112] : List UInt8)) = false := by rw [bs_toList]; decide
    have m2 : ((bs [102, 110]).toList == ([117, 112] : List UInt8)) = false := by rw [bs_toList]; decide
    have m3 : ((bs [102, 110]).toList == ([105, 110, 116] : List UInt8)) = false := by rw [bs_toList]; decide
    have m4 : ((bs [102, 110]).toList == ([116, 101, 120, 116] : List UInt8)) = false := by rw [bs_toList]; decide
    have m5 : ((bs [102, 110]).toList == ([99, 97, 116, 99, 104] : List UInt8)) = false := by rw [bs_toList]; decide
    go_enter Tryz.func30, Tryz.ntmps30
    go_wp2
    go_ret
    exact ⟨rfl, rfl⟩
  by_cases h1 : s = [99, 97, 112]
  · subst h1
    have m0 : ((bs [99, 97, 112]).toList == ([102, 110] : List UInt8)) = false := by rw [bs_toList]; decide
    have m1 : ((bs [99, 97, 112]).toList == ([99, 97, 112] : List UInt8)) = true := by rw [bs_toList]; decide
    have m2 : ((bs [99, 97, 112]).toList == ([117, 112] : List UInt8)) = false := by rw [bs_toList]; decide
    have m3 : ((bs [99, 97, 112]).toList == ([105, 110, 116] : List UInt8)) = false := by rw [bs_toList]; decide
    have m4 : ((bs [99, 97, 112]).toList == ([116, 101, 120, 116] : List UInt8)) = false := by rw [bs_toList]; decide
    have m5 : ((bs [99, 97, 112]).toList == ([99, 97, 116, 99, 104] : List UInt8)) = false := by rw [bs_toList]; decide
    go_enter Tryz.func30, Tryz.ntmps30
    go_wp2
    go_ret
    exact ⟨rfl, rfl⟩
  by_cases h2 : s = [117, 112]
  · subst h2
    have m0 : ((bs [117, 112]).toList == ([102, 110] : List UInt8)) = false := by rw [bs_toList]; decide
    have m1 : ((bs [117, 112]).toList == ([99, 97, 112] : List UInt8)) = false := by rw [bs_toList]; decide
    have m2 : ((bs [117, 112]).toList == ([117, 112] : List UInt8)) = true := by rw [bs_toList]; decide
    have m3 : ((bs [117, 112]).toList == ([105, 110, 116] : List UInt8)) = false := by rw [bs_toList]; decide
    have m4 : ((bs [117, 112]).toList == ([116, 101, 120, 116] : List UInt8)) = false := by rw [bs_toList]; decide
    have m5 : ((bs [117, 112]).toList == ([99, 97, 116, 99, 104] : List UInt8)) = false := by rw [bs_toList]; decide
    go_enter Tryz.func30, Tryz.ntmps30
    go_wp2
    go_ret
    exact ⟨rfl, rfl⟩
  by_cases h3 : s = [105, 110, 116]
  · subst h3
    have m0 : ((bs [105, 110, 116]).toList == ([102, 110] : List UInt8)) = false := by rw [bs_toList]; decide
    have m1 : ((bs [105, 110, 116]).toList == ([99, 97, 112] : List UInt8)) = false := by rw [bs_toList]; decide
    have m2 : ((bs [105, 110, 116]).toList == ([117, 112] : List UInt8)) = false := by rw [bs_toList]; decide
    have m3 : ((bs [105, 110, 116]).toList == ([105, 110, 116] : List UInt8)) = true := by rw [bs_toList]; decide
    have m4 : ((bs [105, 110, 116]).toList == ([116, 101, 120, 116] : List UInt8)) = false := by rw [bs_toList]; decide
    have m5 : ((bs [105, 110, 116]).toList == ([99, 97, 116, 99, 104] : List UInt8)) = false := by rw [bs_toList]; decide
    go_enter Tryz.func30, Tryz.ntmps30
    go_wp2
    go_ret
    exact ⟨rfl, rfl⟩
  by_cases h4 : s = [116, 101, 120, 116]
  · subst h4
    have m0 : ((bs [116, 101, 120, 116]).toList == ([102, 110] : List UInt8)) = false := by rw [bs_toList]; decide
    have m1 : ((bs [116, 101, 120, 116]).toList == ([99, 97, 112] : List UInt8)) = false := by rw [bs_toList]; decide
    have m2 : ((bs [116, 101, 120, 116]).toList == ([117, 112] : List UInt8)) = false := by rw [bs_toList]; decide
    have m3 : ((bs [116, 101, 120, 116]).toList == ([105, 110, 116] : List UInt8)) = false := by rw [bs_toList]; decide
    have m4 : ((bs [116, 101, 120, 116]).toList == ([116, 101, 120, 116] : List UInt8)) = true := by rw [bs_toList]; decide
    have m5 : ((bs [116, 101, 120, 116]).toList == ([99, 97, 116, 99, 104] : List UInt8)) = false := by rw [bs_toList]; decide
    go_enter Tryz.func30, Tryz.ntmps30
    go_wp2
    go_ret
    exact ⟨rfl, rfl⟩
  by_cases h5 : s = [99, 97, 116, 99, 104]
  · subst h5
    have m0 : ((bs [99, 97, 116, 99, 104]).toList == ([102, 110] : List UInt8)) = false := by rw [bs_toList]; decide
    have m1 : ((bs [99, 97, 116, 99, 104]).toList == ([99, 97, 112] : List UInt8)) = false := by rw [bs_toList]; decide
    have m2 : ((bs [99, 97, 116, 99, 104]).toList == ([117, 112] : List UInt8)) = false := by rw [bs_toList]; decide
    have m3 : ((bs [99, 97, 116, 99, 104]).toList == ([105, 110, 116] : List UInt8)) = false := by rw [bs_toList]; decide
    have m4 : ((bs [99, 97, 116, 99, 104]).toList == ([116, 101, 120, 116] : List UInt8)) = false := by rw [bs_toList]; decide
    have m5 : ((bs [99, 97, 116, 99, 104]).toList == ([99, 97, 116, 99, 104] : List UInt8)) = true := by rw [bs_toList]; decide
    go_enter Tryz.func30, Tryz.ntmps30
    go_wp2
    go_ret
    exact ⟨rfl, rfl⟩
  have e : rowP s = 4 := by unfold rowP; simp [h0, h1, h2, h3, h4, h5]
  rw [e]
  have n0 : ((bs s).toList == (⟨#[102, 110]⟩ : ByteArray).toList) = false := by rw [show (⟨#[102, 110]⟩ : ByteArray) = bs [102, 110] from rfl, bs_toList, bs_toList, beq_eq_false_iff_ne]; exact h0
  have m0 : ((bs s).toList == ([102, 110] : List UInt8)) = false := by rw [bs_toList, beq_eq_false_iff_ne]; exact h0
  have n1 : ((bs s).toList == (⟨#[99, 97, 112]⟩ : ByteArray).toList) = false := by rw [show (⟨#[99, 97, 112]⟩ : ByteArray) = bs [99, 97, 112] from rfl, bs_toList, bs_toList, beq_eq_false_iff_ne]; exact h1
  have m1 : ((bs s).toList == ([99, 97, 112] : List UInt8)) = false := by rw [bs_toList, beq_eq_false_iff_ne]; exact h1
  have n2 : ((bs s).toList == (⟨#[117, 112]⟩ : ByteArray).toList) = false := by rw [show (⟨#[117, 112]⟩ : ByteArray) = bs [117, 112] from rfl, bs_toList, bs_toList, beq_eq_false_iff_ne]; exact h2
  have m2 : ((bs s).toList == ([117, 112] : List UInt8)) = false := by rw [bs_toList, beq_eq_false_iff_ne]; exact h2
  have n3 : ((bs s).toList == (⟨#[105, 110, 116]⟩ : ByteArray).toList) = false := by rw [show (⟨#[105, 110, 116]⟩ : ByteArray) = bs [105, 110, 116] from rfl, bs_toList, bs_toList, beq_eq_false_iff_ne]; exact h3
  have m3 : ((bs s).toList == ([105, 110, 116] : List UInt8)) = false := by rw [bs_toList, beq_eq_false_iff_ne]; exact h3
  have n4 : ((bs s).toList == (⟨#[116, 101, 120, 116]⟩ : ByteArray).toList) = false := by rw [show (⟨#[116, 101, 120, 116]⟩ : ByteArray) = bs [116, 101, 120, 116] from rfl, bs_toList, bs_toList, beq_eq_false_iff_ne]; exact h4
  have m4 : ((bs s).toList == ([116, 101, 120, 116] : List UInt8)) = false := by rw [bs_toList, beq_eq_false_iff_ne]; exact h4
  have n5 : ((bs s).toList == (⟨#[99, 97, 116, 99, 104]⟩ : ByteArray).toList) = false := by rw [show (⟨#[99, 97, 116, 99, 104]⟩ : ByteArray) = bs [99, 97, 116, 99, 104] from rfl, bs_toList, bs_toList, beq_eq_false_iff_ne]; exact h5
  have m5 : ((bs s).toList == ([99, 97, 116, 99, 104] : List UInt8)) = false := by rw [bs_toList, beq_eq_false_iff_ne]; exact h5
  clear e h0 h1 h2 h3 h4 h5
  go_enter Tryz.func30, Tryz.ntmps30
  go_wp2
  go_ret
  exact ⟨rfl, rfl⟩

/-- May a line of a row stand behind one of another? -/
def followP (r last : Nat) : Bool := decide (r = 1) || (decide (last ≠ 0) && decide (last ≤ r))

set_option maxHeartbeats 2000000 in
theorem mayFollow_in (r last : Nat) (hr : r < 256) (hl : last < 256) (w : World) : Calls Tryz.prog 31 #[.int .u8 r, .int .u8 last] w fun e w' => e = .returned (.bool (followP r last)) ∧ w' = w := by
  unfold followP
  by_cases h1 : r = 1
  · subst h1
    go_enter Tryz.func31, Tryz.ntmps31
    go_wp2
    go_ret
    exact ⟨rfl, rfl⟩
  · have h1' : ((r : Int) == 1) = false := by rw [beq_eq_false_iff_ne]; omega
    rw [decide_eq_false h1]
    by_cases h2 : last = 0
    · subst h2
      go_enter Tryz.func31, Tryz.ntmps31
      go_wp2
      go_ret
      exact ⟨rfl, rfl⟩
    · have h2' : ((last : Int) != 0) = true := by simp; omega
      have h2'' : ((last : Int) == 0) = false := by rw [beq_eq_false_iff_ne]; omega
      rw [decide_eq_true (show last ≠ 0 from h2)]
      by_cases h3 : last ≤ r
      · have h3' : (last : Int) ≤ (r : Int) := by omega
        rw [decide_eq_true h3]
        go_enter Tryz.func31, Tryz.ntmps31
        go_wp2
        go_ret
        exact ⟨rfl, rfl⟩
      · have h3' : ¬ ((last : Int) ≤ (r : Int)) := by omega
        have h3'' : (r : Int) < (last : Int) := by omega
        have h3d : decide ((last : Int) ≤ (r : Int)) = false := by simp; omega
        rw [decide_eq_false h3]
        go_enter Tryz.func31, Tryz.ntmps31
        go_wp2
        go_ret
        exact ⟨rfl, rfl⟩

theorem set4_row {W : World} {g : Nat} {a b c d x0 x1 x2 x3 : Value} {t : TypeId} (h : W.heap[g]? = some (.cells #[a, b, c, d] t (0, 0))) : ((((W.setCell ⟨g, 0, none⟩ x0).setCell ⟨g, 1, none⟩ x1).setCell ⟨g, 2, none⟩ x2).setCell ⟨g, 3, none⟩ x3).heap[g]? = some (.cells #[x0, x1, x2, x3] t (0, 0)) := by
  have h1 := heap_setCell_same W g 0 _ t x0 h
  have h2 := heap_setCell_same _ g 1 _ t x1 h1
  have h3 := heap_setCell_same _ g 2 _ t x2 h2
  have h4 := heap_setCell_same _ g 3 _ t x3 h3
  simpa using h4

/-- What is written into a block that was not there at the start. -/
theorem Rst.put {b g i : Nat} {w W : World} (h : Rst b w W) (hg : w.heap.size ≤ g) (v : Value) : Rst b w (W.setCell ⟨g, i, none⟩ v) :=
  ⟨h.os, h.tape, h.output, by simpa [World.setCell] using h.size, fun k hk hb => (heap_setCell_other W ⟨g, i, none⟩ k v (by simp only; omega)).trans (h.block k hk hb)⟩

theorem Rd.put {w0 : World} {b g i : Nat} {l : Ln} {w : World} (h : Rd w0 b l w) (hg : w0.heap.size ≤ g) (hb : b ≠ g) (v : Value) : Rd w0 b l (w.setCell ⟨g, i, none⟩ v) :=
  ⟨(heap_setCell_other w ⟨g, i, none⟩ b v hb).trans h.ln, h.base, h.bel.setCell hg v, h.len⟩

/-- A handler's line. -/
def Ln.hanV (l : Ln) : Hn := ⟨l.num, l.numd.num, l.numd.numd.num, l.numd.numd.numd.num⟩

def Ln.hand (l : Ln) : Ln := l.numd.numd.numd.numd

theorem infoHn : (Tryz.prog.info? 78).map (·.size) = some 4 := by kernel_rfl

set_option maxRecDepth 20000 in
set_option maxHeartbeats 2000000 in
theorem handler_in {w0 : World} {b : Nat} {l : Ln} (h : Rd w0 b l w) (he : ErrT w0) (tab : Tab w0) :
    Calls Tryz.prog 71 #[.pointer (some ⟨b, 0, none⟩)] w fun e w' => e = .returned (.agg #[.int .i64 l.hanV.fr, .int .i64 l.hanV.to, .int .i64 l.hanV.at_, .int .i64 l.hanV.deep]) ∧ Rd w0 b l.hand w' ∧ Rst b w w' := by
  have hA := below1 w (.cells #[.int .i64 0, .int .i64 0, .int .i64 0, .int .i64 0] 78)
  have hz := heap_alloc_new w (.cells #[.int .i64 0, .int .i64 0, .int .i64 0, .int .i64 0] 78)
  have hlt := h.ln.lt
  have hb0 := h.base
  have H1 := number_in (h.below hA) he tab
  have HE : Hid (ErrT w0) := he
  have HT : Hid (Tab w0) := tab
  unfold Ln.hanV Ln.hand
  simp only
  generalize l.num = n1 at *
  generalize l.numd = l1 at *
  clear h he tab
  go_enter Tryz.func71, Tryz.ntmps71
  go_wp2_with (first
    | (go_at_call 62; (with_reducible refine H1.mono ?_); clear H1; rintro e w1 ⟨rfl, hd1, hr1⟩; have z1 := (hr1.block w.heap.size (by simp) (by omega)).trans hz; have H2 := number_in hd1 HE.out HT.out; have g1 := (Rst.of_below (b := b) hA).trans hr1)
    | (go_at_call 62; (with_reducible refine H2.mono ?_); clear H2; rintro e w2 ⟨rfl, hd2, hr2⟩; have z2 := (hr2.block w.heap.size (Array.getElem?_eq_some_iff.1 z1).1 (by omega)).trans z1; have H3 := number_in hd2 HE.out HT.out; have g2 := g1.trans hr2)
    | (go_at_call 62; (with_reducible refine H3.mono ?_); clear H3; rintro e w3 ⟨rfl, hd3, hr3⟩; have z3 := (hr3.block w.heap.size (Array.getElem?_eq_some_iff.1 z2).1 (by omega)).trans z2; have H4 := number_in hd3 HE.out HT.out; have g3 := g2.trans hr3)
    | (go_at_call 62; (with_reducible refine H4.mono ?_); clear H4; rintro e w4 ⟨rfl, hd4, hr4⟩; have z4 := (hr4.block w.heap.size (Array.getElem?_eq_some_iff.1 z3).1 (by omega)).trans z3; obtain ⟨⟨u0, u1, u2, u3⟩, v0, v1, v2, v3⟩ := cell_row4 z4; have g4 := g3.trans hr4))
  refine bodyPost_ret (results_cell_row (by rfl) _ _ w.heap.size 78 _ _ _ (by rfl) (set4_row z4) Tryz.underlying78 (by rfl) infoHn) (by rfl) ?_
  exact ⟨rfl, (((hd4.put (by omega) (by omega) _).put (by omega) (by omega) _).put (by omega) (by omega) _).put (by omega) (by omega) _, (((g4.put (Nat.le_refl _) _).put (Nat.le_refl _) _).put (Nat.le_refl _) _).put (Nat.le_refl _) _⟩

end Lp

end Go.Proofs.YtnekcomkochmjaaGreatDoor

namespace Go.Proofs.YtnekcomkochmjaaGreatDoor
set_option linter.unusedVariables false
set_option linter.unusedSimpArgs false
open Go.RowKit

namespace Lp
open Lk

variable {w : World}

/-- An instruction's line behind its number: the op, the instruction, what is left. -/
def Ln.opV (l : Ln) : Nat := findW opsL l.word

def Ln.opd (l : Ln) : Ln := l.past.want (decide (l.opV ≠ 0))

def Ln.insV (l : Ln) : In := if l.opV = 14 then ⟨14, findW binsL l.opd.word⟩ else if numb l.opV then ⟨l.opV, l.opd.num⟩ else ⟨l.opV, 0⟩

def Ln.insd (l : Ln) : Ln := if l.opV = 14 then l.opd.past.want (decide (findW binsL l.opd.word ≠ 0)) else if numb l.opV then l.opd.numd else l.opd

theorem findW_lt (L : List (List UInt8)) (s : List UInt8) (h : 0 < L.length) : findW L s < L.length := by
  unfold findW
  cases hf : L.findIdx? (fun x => decide (x = s)) with
  | none => simpa using h
  | some j =>
    rw [List.findIdx?_eq_some_iff_getElem] at hf
    obtain ⟨hj, _⟩ := hf
    simpa using hj

theorem infoIns : (Tryz.prog.info? 38).map (·.size) = some 2 := by kernel_rfl

theorem set2_row {W : World} {g : Nat} {a b x y : Value} {t : TypeId} (h : W.heap[g]? = some (.cells #[a, b] t (0, 0))) : ((W.setCell ⟨g, 0, none⟩ x).setCell ⟨g, 1, none⟩ y).heap[g]? = some (.cells #[x, y] t (0, 0)) := by
  have h1 := heap_setCell_same W g 0 _ t x h
  have h2 := heap_setCell_same _ g 1 _ t y h1
  simpa using h2

theorem opd_len (l : Ln) : l.opd.rest.length ≤ l.rest.length := past_len l

set_option maxRecDepth 20000 in
set_option maxHeartbeats 4000000 in
theorem ins_in {w0 : World} {b : Nat} {l : Ln} (h : Rd w0 b l w) (he : ErrT w0) (tab : Tab w0) (hw : WordsT w0) :
    Calls Tryz.prog 69 #[.pointer (some ⟨b, 0, none⟩)] w fun e w' => e = .returned (.agg #[.int .u8 l.insV.op, .int .i64 l.insV.a]) ∧ Rd w0 b l.insd w' ∧ Rst b w w' := by
  have hA := below1 w (.cells #[.int .u8 0, .int .i64 0] 38)
  have hz := heap_alloc_new w (.cells #[.int .u8 0, .int .i64 0] 38)
  have hlt := h.ln.lt
  have hb0 := h.base
  have h1 := h.below hA
  have H1 := word_in h1.ln h1.len
  have HH : Hid _ := h1
  have H2 := fun (W : World) (hW : Below w0.heap.size w0 W) => opOf_in (w := W) l.word (hw.below hW)
  have ho : l.opV < 31 := findW_lt opsL l.word (by decide)
  have e0 : findW opsL l.word = l.opV := rfl
  rw [e0] at H2
  have e1 : l.past.want (decide (l.opV ≠ 0)) = l.opd := rfl
  have H3 := fun (W : World) (hW : IsLn b l.past W) => want_in hW (decide (l.opV ≠ 0))
  rw [e1] at H3
  have HN := fun (W : World) => hasNumber_in l.opV (by omega) W
  have H4 := fun (W : World) (hW : Rd w0 b l.opd W) => word_in hW.ln hW.len
  have H5 := fun (W : World) (hW : Below w0.heap.size w0 W) => binOf_in (w := W) l.opd.word (hw.below hW)
  have H6 := fun (W : World) (hW : IsLn b l.opd.past W) => want_in hW (decide (findW binsL l.opd.word ≠ 0))
  have H7 := fun (W : World) (hW : Rd w0 b l.opd W) => number_in hW he tab
  have hbl : findW binsL l.opd.word < 10 := findW_lt binsL l.opd.word (by decide)
  obtain ⟨V, hV⟩ : ∃ V, V = l.insV := ⟨_, rfl⟩
  obtain ⟨D, hD⟩ : ∃ D, D = l.insd := ⟨_, rfl⟩
  rw [← hV, ← hD]
  have HVV : Hid (V = if l.opV = 14 then ⟨14, findW binsL l.opd.word⟩ else if numb l.opV then ⟨l.opV, l.opd.num⟩ else ⟨l.opV, 0⟩) := hV
  have HDD : Hid (D = if l.opV = 14 then l.opd.past.want (decide (findW binsL l.opd.word ≠ 0)) else if numb l.opV then l.opd.numd else l.opd) := hD
  clear hV hD
  generalize l.opV = op at *
  clear e0 e1 h h1 he tab hw
  generalize hbn : findW binsL l.opd.word = bn at *
  have hne : (((op : Int) != 0)) = decide (op ≠ 0) := by by_cases h : op = 0 <;> simp [h]
  have hne2 : (((bn : Int) != 0)) = decide (bn ≠ 0) := by by_cases h : bn = 0 <;> simp [h]
  clear hbn
  go_enter Tryz.func69, Tryz.ntmps69
  go_wp2_with (first
    | (go_at_call 103; (with_reducible refine H1.mono ?_); clear H1; rintro e w1 ⟨rfl, hl1, hr1⟩; have z1 := (hr1.block w.heap.size (by simp) (by omega)).trans hz; have hd1 := HH.out.step hl1 hr1 (past_len _); have g1 := (Rst.of_below (b := b) hA).trans hr1; clear hl1 hr1)
    | (go_at_call 102; (with_reducible refine (H2 _ hd1.bel).mono ?_); clear H2; rintro e w2 ⟨rfl, rfl⟩; have hA2 := below1 w2 (.cells #[.int .u8 op, .int .i64 0] 38); have y2 := heap_alloc_new w2 (.cells #[.int .u8 op, .int .i64 0] 38); obtain ⟨⟨u0, u1⟩, v0, v1⟩ := cell_row2 y2; have hd2 := hd1.below hA2; have z2 := (hA2.block w.heap.size (Array.getElem?_eq_some_iff.1 z1).1).trans z1; have g2 := g1.trans (Rst.of_below (b := b) hA2); have hlz := (Array.getElem?_eq_some_iff.1 z1).1; have hlb := hd1.ln.lt; refine halt_here ?_))
  unfold Halted
  have H3' := H3 _ hd2.ln
  clear H3
  generalize hok : decide (op ≠ 0) = okk at *
  go_wp2_with (first
    | (go_at_call 101; (with_reducible refine H3'.mono ?_); clear H3'; rintro e w3 ⟨rfl, hl3, hr3⟩; have hd3 := hd2.step hl3 hr3 (Nat.le_refl _); have y3 := (hr3.block w2.heap.size (by simp) (by omega)).trans y2; have z3 := (hr3.block w.heap.size (Array.getElem?_eq_some_iff.1 z2).1 (by omega)).trans z2; have g3 := g2.trans hr3; obtain ⟨⟨p0, p1⟩, q0, q1⟩ := cell_row2 y3; refine halt_here ?_))
  unfold Halted
  have hwb := hd3.base
  have hy2 : w.heap.size < w2.heap.size := hlz
  have hbl2 : b < w2.heap.size := hlb
  have HOK : Hid _ := hok
  clear hok
  by_cases h14 : op = 14
  · subst h14
    have eV : Hid (V = ⟨14, bn⟩) := by have := HVV.out; rw [if_pos rfl] at this; exact this
    have eD : Hid (D = l.opd.past.want (decide (bn ≠ 0))) := by have := HDD.out; rw [if_pos rfl] at this; exact this
    clear HVV HDD
    simp only [show ((14 : Nat) : Int) = 14 from rfl] at *
    have H4' := H4 _ hd3
    clear H4 H7 HN
    generalize hok2 : decide (bn ≠ 0) = ok2 at *
    have HOK2 : Hid _ := hok2
    clear hok2
    go_wp2_with (first
      | (go_at_call 103; (with_reducible refine H4'.mono ?_); clear H4'; rintro e w4 ⟨rfl, hl4, hr4⟩; have hd4 := hd3.step hl4 hr4 (past_len _); have y4 := (hr4.block w2.heap.size (Array.getElem?_eq_some_iff.1 y3).1 (by omega)).trans y3; have z4 := (hr4.block w.heap.size (Array.getElem?_eq_some_iff.1 z3).1 (by omega)).trans z3; have g4 := g3.trans hr4; obtain ⟨⟨a0, a1⟩, b0, b1⟩ := cell_row2 y4)
      | (go_at_call 104; (with_reducible refine (H5 _ hd4.bel).mono ?_); clear H5; rintro e w5 ⟨rfl, rfl⟩; have H6' := H6 _ hd4.ln)
      | (go_at_call 101; (with_reducible refine H6'.mono ?_); clear H6'; rintro e w6 ⟨rfl, hl6, hr6⟩; have hd6 := hd4.step hl6 hr6 (Nat.le_refl _); have y6 := (hr6.block w2.heap.size (Array.getElem?_eq_some_iff.1 y4).1 (by omega)).trans y4; have z6 := (hr6.block w.heap.size (Array.getElem?_eq_some_iff.1 z4).1 (by omega)).trans z4; have g6 := g4.trans hr6; obtain ⟨⟨c0, c1⟩, d0, d1⟩ := cell_row2 y6; have y7 := heap_setCell_same w6 w2.heap.size 1 _ _ (.int .i64 bn) y6; have z7 := (heap_setCell_other w6 ⟨w2.heap.size, 1, none⟩ w.heap.size (.int .i64 bn) (by simp only; omega)).trans z6; obtain ⟨⟨i0, i1⟩, j0, j1⟩ := cell_row2 (W := w6.setCell ⟨w2.heap.size, 1, none⟩ (.int .i64 bn)) (by simpa using y7); obtain ⟨⟨k0, k1⟩, m0, m1⟩ := cell_row2 z7))
    refine bodyPost_ret (results_cell_row (by rfl) _ _ w.heap.size 38 _ _ _ (by rfl) (set2_row z7) Tryz.underlying38 (by rfl) infoIns) (by rfl) ?_
    rw [eV.out, eD.out]
    have hd7 := hd6.put (g := w2.heap.size) (i := 1) (by omega) (by omega) (.int .i64 bn)
    have g7 := g6.put (g := w2.heap.size) (i := 1) (by omega) (.int .i64 bn)
    exact ⟨rfl, (hd7.put (by omega) (by omega) _).put (by omega) (by omega) _, (g7.put (Nat.le_refl _) _).put (Nat.le_refl _) _⟩
  have h14' : ((op : Int) == 14) = false := by rw [beq_eq_false_iff_ne]; omega
  clear H4 H5 H6
  by_cases hnb : numb op = true
  · have eV : Hid (V = ⟨op, l.opd.num⟩) := by have := HVV.out; rw [if_neg h14, if_pos hnb] at this; exact this
    have eD : Hid (D = l.opd.numd) := by have := HDD.out; rw [if_neg h14, if_pos hnb] at this; exact this
    clear HVV HDD
    rw [hnb] at HN
    have H7' := H7 _ hd3
    clear H7 hnb
    generalize l.opd.num = nn at *
    go_wp2_with (first
      | (go_at_call 40; (with_reducible refine (HN _).mono ?_); rintro e w4 ⟨rfl, rfl⟩)
      | (go_at_call 62; (with_reducible refine H7'.mono ?_); clear H7'; rintro e w6 ⟨rfl, hd6, hr6⟩; have y6 := (hr6.block w2.heap.size (Array.getElem?_eq_some_iff.1 y3).1 (by omega)).trans y3; have z6 := (hr6.block w.heap.size (Array.getElem?_eq_some_iff.1 z3).1 (by omega)).trans z3; have g6 := g3.trans hr6; obtain ⟨⟨c0, c1⟩, d0, d1⟩ := cell_row2 y6; have y7 := heap_setCell_same w6 w2.heap.size 1 _ _ (.int .i64 nn) y6; have z7 := (heap_setCell_other w6 ⟨w2.heap.size, 1, none⟩ w.heap.size (.int .i64 nn) (by simp only; omega)).trans z6; obtain ⟨⟨i0, i1⟩, j0, j1⟩ := cell_row2 (W := w6.setCell ⟨w2.heap.size, 1, none⟩ (.int .i64 nn)) (by simpa using y7); obtain ⟨⟨k0, k1⟩, m0, m1⟩ := cell_row2 z7))
    refine bodyPost_ret (results_cell_row (by rfl) _ _ w.heap.size 38 _ _ _ (by rfl) (set2_row z7) Tryz.underlying38 (by rfl) infoIns) (by rfl) ?_
    rw [eV.out, eD.out]
    have hd7 := hd6.put (g := w2.heap.size) (i := 1) (by omega) (by omega) (.int .i64 nn)
    have g7 := g6.put (g := w2.heap.size) (i := 1) (by omega) (.int .i64 nn)
    exact ⟨rfl, (hd7.put (by omega) (by omega) _).put (by omega) (by omega) _, (g7.put (Nat.le_refl _) _).put (Nat.le_refl _) _⟩
  · have eV : Hid (V = ⟨op, 0⟩) := by have := HVV.out; rw [if_neg h14, if_neg hnb] at this; exact this
    have eD : Hid (D = l.opd) := by have := HDD.out; rw [if_neg h14, if_neg hnb] at this; exact this
    clear HVV HDD
    rw [Bool.not_eq_true] at hnb
    rw [hnb] at HN
    clear H7 hnb
    obtain ⟨⟨k0, k1⟩, m0, m1⟩ := cell_row2 z3
    go_wp2_with (first
      | (go_at_call 40; (with_reducible refine (HN _).mono ?_); rintro e w4 ⟨rfl, rfl⟩))
    refine bodyPost_ret (results_cell_row (by rfl) _ _ w.heap.size 38 _ _ _ (by rfl) (set2_row z3) Tryz.underlying38 (by rfl) infoIns) (by rfl) ?_
    rw [eV.out, eD.out]
    exact ⟨rfl, (hd3.put (by omega) (by omega) _).put (by omega) (by omega) _, (g3.put (Nat.le_refl _) _).put (Nat.le_refl _) _⟩

end Lp

end Go.Proofs.YtnekcomkochmjaaGreatDoor
