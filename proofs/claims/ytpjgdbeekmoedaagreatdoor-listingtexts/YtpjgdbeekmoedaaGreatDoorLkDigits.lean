/- The document: a text in quotes. -/
import Derived.Test.YtpjgdbeekmoedaaGreatDoorLkMath
import Derived.Test.YtpjgdbeekmoedaaGreatDoorLkPage
import Derived.Test.YtpjgdbeekmoedaaGreatDoorLkIns
import Derived.Lib.ItoaLen
import Derived.Deep.RegionHeld3
namespace Go.Proofs.YtpjgdbeekmoedaaGreatDoor
set_option linter.unusedVariables false
set_option linter.unusedSimpArgs false
open Go.RowKit

namespace Lq
open Lk (bs bs_size bs_get eq34 eq92 eq10)

variable {w : World}

def escB (c : UInt8) : List UInt8 := if c = 34 ∨ c = 92 then [92, c] else if c = 10 then [92, 110] else [c]

def esc (s : List UInt8) : List UInt8 := s.flatMap escB

def quo (s : List UInt8) : List UInt8 := 34 :: (esc s ++ [34])

theorem escB_len (c : UInt8) : (escB c).length ≤ 2 := by unfold escB; split <;> (try split) <;> simp

theorem esc_len (s : List UInt8) : (esc s).length ≤ 2 * s.length := by
  induction s with
  | nil => simp [esc]
  | cons c r ih =>
    have := escB_len c
    simp only [esc, List.flatMap_cons, List.length_append, List.length_cons] at ih ⊢
    omega

theorem esc_take {s : List UInt8} {j : Nat} {c : UInt8} (h : s[j]? = some c) : esc (s.take (j + 1)) = esc (s.take j) ++ escB c := by
  rw [List.take_add_one, h]
  simp [esc]

/-- Bytes put behind a row of bytes. -/
theorem row_bytes {base : Nat} {v : Value} {l x : List UInt8} (h : w.ownsRow base 5 1 v (l.length + x.length) (Lib.byteCells l ++ Lib.byteCells x)) : w.ownsRow base 5 1 v (l ++ x).length (Lib.byteCells (l ++ x)) := by
  rw [List.length_append]
  simpa [Lib.byteCells] using h

theorem back_bytes {base : Nat} {g n c : Nat} {l : List UInt8} (h : w.ownsRow base 5 1 (.slice (some ⟨g, 0, none⟩) l.length c) l.length (Lib.byteCells l)) :
    (convert 81 9 (.slice (some ⟨g, 0, none⟩) l.length c)).run Tryz.prog w = .ok (.string (bs l)) w := by
  refine run_convert_bytes_back (P := Tryz.prog) w 81 9 5 ⟨g, 0, none⟩ c l Tryz.underlying81 Tryz.underlying5 Tryz.underlying9 ?_
  intro j hj
  exact h.cells (g := g) rfl j _ (by simp [Lib.byteCells, List.getElem?_eq_getElem hj])

set_option maxRecDepth 20000 in
set_option maxHeartbeats 1000000 in
theorem rquoted_in (s : List UInt8) (hl : s.length ≤ 65536) (w : World) :
    Calls Tryz.prog 158 #[.string (bs s)] w fun e w' => e = .returned (.string (bs (quo s))) ∧ Below w.heap.size w w' := by
  obtain ⟨i0, hi, hz0, hz1, hz2⟩ := info_parts Lk.infoU8
  have hsz := bs_size s
  have hA := below1 w (.cells #[.int .u8 34] 5)
  go_enter Tryz.func158, Tryz.ntmps158
  go_wp2_with (first
    | (at_builtin; (refine wpList_append_own _ rfl _ _ 81 rfl w.heap.size 5 i0 (.int .u8 0) 1 1 Tryz.underlying81 hi hz0 hz1 hz2 rfl (by decide) (.slice none 0 0) 0 [] rfl (World.ownsRow_nil _ _ _ _) ⟨w.heap.size, 0, none⟩ 1 1 [.int .u8 34] rfl rfl (World.news_of_block (cs := #[.int .u8 34]) (t := 5) (fr := (0, 0)) (heap_alloc_new w _)) (by simp [Value.oneCell']) (by unfold maxLen; omega) (by omega) (by simp) ?_); intro v1 w1 hown1 hgrow1 _; have hB1 : Below w.heap.size w w1 := hA.trans (rbelow_grown hgrow1 (fun q e => by cases e) (by simp)); clear hgrow1))
  go_loopw [3, 4] (fun v k wr => ∃ j : Nat, k = .int .i64 j ∧ j ≤ s.length ∧ wr.ownsRow w.heap.size 5 1 v (34 :: esc (s.take j)).length (Lib.byteCells (34 :: esc (s.take j))) ∧ Below w.heap.size w wr) (fun _ k _ => s.length - (intOf k).toNat)
  case atStart =>
    refine ⟨0, rfl, by omega, ?_, hB1⟩
    simpa [esc, Lib.byteCells] using hown1
  case round =>
    obtain ⟨j, rfl, hj, hrow, hB⟩ := hrel
    have hsB := hB.size
    have hel := esc_len (s.take j)
    have htl : (s.take j).length ≤ s.length := by simp; omega
    by_cases hjl : j < s.length
    · have hjs : j < (bs s).size := by omega
      have hc : s[j]? = some ((bs s)[j]'hjs) := bs_get hjs
      have hjl' : (j : Int) < (s.length : Int) := by omega
      have het := esc_take hc
      have hll : (34 :: esc (s.take j)).length ≤ 131073 := by simp; omega
      generalize hL : (34 :: esc (s.take j) : List UInt8) = L at *
      have hnext : (34 :: esc (s.take (j + 1)) : List UInt8) = L ++ escB ((bs s)[j]'hjs) := by rw [het, ← hL]; simp
      have HN : Hid _ := hnext
      clear hnext het hL hel htl hc
      by_cases h34 : ((bs s)[j]'hjs).toNat = 34 ∨ ((bs s)[j]'hjs).toNat = 92
      · have hor : (((bs s)[j]'hjs).toNat : Int) = 34 ∨ (¬ ((((bs s)[j]'hjs).toNat : Int) = 34) ∧ (((bs s)[j]'hjs).toNat : Int) = 92) := by omega
        have hes : escB ((bs s)[j]'hjs) = [92, (bs s)[j]'hjs] := by unfold escB; rw [if_pos (h34.imp eq34.2 eq92.2)]
        have HE : Hid _ := hes
        clear h34 hes
        rcases hor with hq | ⟨hq, hq2⟩
        · go_wp2_with (first
            | (at_builtin; (refine wpList_append_own _ rfl _ _ 81 rfl w.heap.size 5 i0 (.int .u8 0) 1 1 Tryz.underlying81 hi hz0 hz1 hz2 rfl (by decide) _ L.length (Lib.byteCells L) rfl (hrow.alloc _) ⟨wr.heap.size, 0, none⟩ 2 2 [.int .u8 92, .int .u8 34] rfl rfl (World.news_of_block (cs := #[.int .u8 92, .int .u8 34]) (t := 5) (fr := (0, 0)) (heap_alloc_new wr _)) (by simp [Value.oneCell']) (by unfold maxLen; omega) (by omega) (by simp; omega) ?_); intro v2 w2 hown2 hgrow2 _))
          go_roundw
          case rel =>
            refine ⟨j + 1, by simp, by omega, ?_, ((below1 wr _).mono hsB |> hB.trans).trans (rbelow_grown hgrow2 (fun q e => (hrow.lt q e).1) (by simp; omega))⟩
            rw [HN.out, HE.out]
            have e34 : (bs s)[j]'hjs = 34 := eq34.2 (by omega)
            rw [e34]
            exact row_bytes (x := [92, 34]) (by simpa [Lib.byteCells] using hown2)
          case measure => simp [intOf]; omega
        · go_wp2_with (first
            | (at_builtin; (refine wpList_append_own _ rfl _ _ 81 rfl w.heap.size 5 i0 (.int .u8 0) 1 1 Tryz.underlying81 hi hz0 hz1 hz2 rfl (by decide) _ L.length (Lib.byteCells L) rfl (hrow.alloc _) ⟨wr.heap.size, 0, none⟩ 2 2 [.int .u8 92, .int .u8 92] rfl rfl (World.news_of_block (cs := #[.int .u8 92, .int .u8 92]) (t := 5) (fr := (0, 0)) (heap_alloc_new wr _)) (by simp [Value.oneCell']) (by unfold maxLen; omega) (by omega) (by simp; omega) ?_); intro v2 w2 hown2 hgrow2 _))
          go_roundw
          case rel =>
            refine ⟨j + 1, by simp, by omega, ?_, ((below1 wr _).mono hsB |> hB.trans).trans (rbelow_grown hgrow2 (fun q e => (hrow.lt q e).1) (by simp; omega))⟩
            rw [HN.out, HE.out]
            have e34 : (bs s)[j]'hjs = 92 := eq92.2 (by omega)
            rw [e34]
            exact row_bytes (x := [92, 92]) (by simpa [Lib.byteCells] using hown2)
          case measure => simp [intOf]; omega
      · have hq : ¬ ((((bs s)[j]'hjs).toNat : Int) = 34) := by omega
        have hq2 : ¬ ((((bs s)[j]'hjs).toNat : Int) = 92) := by omega
        have hne : ¬ ((bs s)[j]'hjs = 34 ∨ (bs s)[j]'hjs = 92) := fun h => h34 (h.imp eq34.1 eq92.1)
        by_cases h10 : ((bs s)[j]'hjs).toNat = 10
        · have hq3 : (((bs s)[j]'hjs).toNat : Int) = 10 := by omega
          have hes : escB ((bs s)[j]'hjs) = [92, 110] := by unfold escB; rw [if_neg hne, if_pos (eq10.2 h10)]
          have HE : Hid _ := hes
          clear h34 hes hne h10
          go_wp2_with (first
            | (at_builtin; (refine wpList_append_own _ rfl _ _ 81 rfl w.heap.size 5 i0 (.int .u8 0) 1 1 Tryz.underlying81 hi hz0 hz1 hz2 rfl (by decide) _ L.length (Lib.byteCells L) rfl (hrow.alloc _) ⟨wr.heap.size, 0, none⟩ 2 2 [.int .u8 92, .int .u8 110] rfl rfl (World.news_of_block (cs := #[.int .u8 92, .int .u8 110]) (t := 5) (fr := (0, 0)) (heap_alloc_new wr _)) (by simp [Value.oneCell']) (by unfold maxLen; omega) (by omega) (by simp; omega) ?_); intro v2 w2 hown2 hgrow2 _))
          go_roundw
          case rel =>
            refine ⟨j + 1, by simp, by omega, ?_, ((below1 wr _).mono hsB |> hB.trans).trans (rbelow_grown hgrow2 (fun q e => (hrow.lt q e).1) (by simp; omega))⟩
            rw [HN.out, HE.out]
            exact row_bytes (x := [92, 110]) (by simpa [Lib.byteCells] using hown2)
          case measure => simp [intOf]; omega
        · have hq3 : ¬ ((((bs s)[j]'hjs).toNat : Int) = 10) := by omega
          have hes : escB ((bs s)[j]'hjs) = [(bs s)[j]'hjs] := by unfold escB; rw [if_neg hne, if_neg (fun e => h10 (eq10.1 e))]
          have HE : Hid _ := hes
          clear h34 hes hne h10
          go_wp2_with (first
            | (at_builtin; (refine wpList_append_own _ rfl _ _ 81 rfl w.heap.size 5 i0 (.int .u8 0) 1 1 Tryz.underlying81 hi hz0 hz1 hz2 rfl (by decide) _ L.length (Lib.byteCells L) rfl (hrow.alloc _) ⟨wr.heap.size, 0, none⟩ 1 1 [.int .u8 ((bs s)[j]'hjs).toNat] rfl rfl (World.news_of_block (cs := #[.int .u8 ((bs s)[j]'hjs).toNat]) (t := 5) (fr := (0, 0)) (heap_alloc_new wr _)) (by simp [Value.oneCell']) (by unfold maxLen; omega) (by omega) (by simp; omega) ?_); intro v2 w2 hown2 hgrow2 _))
          go_roundw
          case rel =>
            refine ⟨j + 1, by simp, by omega, ?_, ((below1 wr _).mono hsB |> hB.trans).trans (rbelow_grown hgrow2 (fun q e => (hrow.lt q e).1) (by simp; omega))⟩
            rw [HN.out, HE.out]
            exact row_bytes (x := [(bs s)[j]'hjs]) (by simpa [Lib.byteCells] using hown2)
          case measure => simp [intOf]; omega
    · have hjl' : ¬ ((j : Int) < (s.length : Int)) := by omega
      have e : s.take j = s := List.take_of_length_le (by omega)
      rw [e] at hrow hel
      have hll : (34 :: esc s).length ≤ 131073 := by simp; omega
      have hfin : quo s = (34 :: esc s) ++ [34] := rfl
      generalize hL : (34 :: esc s : List UInt8) = L at *
      have HF : Hid _ := hfin
      clear e hel htl hL hfin
      have hLL : (L ++ [34]).length = L.length + 1 := by simp
      go_wp2_with (first
        | (at_builtin; (refine wpList_append_own _ rfl _ _ 81 rfl w.heap.size 5 i0 (.int .u8 0) 1 1 Tryz.underlying81 hi hz0 hz1 hz2 rfl (by decide) _ L.length (Lib.byteCells L) rfl (hrow.alloc _) ⟨wr.heap.size, 0, none⟩ 1 1 [.int .u8 34] rfl rfl (World.news_of_block (cs := #[.int .u8 34]) (t := 5) (fr := (0, 0)) (heap_alloc_new wr _)) (by simp [Value.oneCell']) (by unfold maxLen; omega) (by omega) (by simp; omega) ?_); intro v2 w2 hown2 hgrow2 _; have hB2 : Below w.heap.size w w2 := ((below1 wr _).mono hsB |> hB.trans).trans (rbelow_grown hgrow2 (fun q e => (hrow.lt q e).1) (by simp; omega)); have hown3 : w2.ownsRow w.heap.size 5 1 v2 (L ++ [34]).length (Lib.byteCells (L ++ [34])) := row_bytes (x := [34]) (by simpa [Lib.byteCells] using hown2); obtain ⟨p2, c2, rfl, -, -, hp2⟩ := row_form hown3; obtain ⟨g2, rfl⟩ := hp2 (by rw [hLL]; omega); have hcv := back_bytes (n := 0) hown3; rw [hLL] at hcv hown3 ⊢; clear hgrow2 hown2 hp2))
      go_ret
      rw [HF.out]
      exact ⟨rfl, hB2⟩

theorem quo_eq (s : List UInt8) : quo s = Lk.quo s := rfl

end Lq

end Go.Proofs.YtpjgdbeekmoedaaGreatDoor

namespace Go.Proofs.YtpjgdbeekmoedaaGreatDoor
set_option linter.unusedVariables false
set_option linter.unusedSimpArgs false
open Go.RowKit

namespace Ld
open Lk (bs bs_size)

variable {w : World}

theorem infoU8 : (Tryz.prog.info? 5).map (fun i => (i.zero, i.size, i.bytes)) = some (some (.int .u8 0), 1, 1) := by kernel_rfl

def Halted (p : Prop) : Prop := p

theorem halt_here {p : Prop} (h : Halted p) : p := h

theorem add_mid0 (g j : Nat) : (⟨g, 0, none⟩ : Addr).add j = ⟨g, j, none⟩ := by rw [Addr.add_mid, Nat.zero_add]

/-- A row of bytes, its first and last ones exchanged. -/
def mixAt (R : List UInt8) (i k : Nat) : UInt8 := if k < i ∨ R.length - i ≤ k then R.getD (R.length - 1 - k) 0 else R.getD k 0

def mix (i : Nat) (R : List UInt8) : List UInt8 := (List.range R.length).map (mixAt R i)

theorem mix_len (i : Nat) (R : List UInt8) : (mix i R).length = R.length := by simp [mix]

theorem mix_get {i : Nat} {R : List UInt8} {k : Nat} (h : k < R.length) : (mix i R)[k]? = some (mixAt R i k) := by
  unfold mix
  rw [List.getElem?_map, List.getElem?_range h]
  rfl

theorem getD_get {R : List UInt8} {k : Nat} (h : k < R.length) : R[k]? = some (R.getD k 0) := by simp [List.getD, List.getElem?_eq_getElem h]

theorem mix_zero (R : List UInt8) : mix 0 R = R := by
  apply List.ext_getElem?
  intro k
  by_cases h : k < R.length
  · rw [mix_get h, getD_get h]
    unfold mixAt
    rw [if_neg (by omega)]
  · rw [List.getElem?_eq_none (by rw [mix_len]; omega), List.getElem?_eq_none (by omega)]

theorem mix_end {i : Nat} {R : List UInt8} (h : R.length ≤ 2 * i + 1) : mix i R = R.reverse := by
  apply List.ext_getElem?
  intro k
  by_cases hk : k < R.length
  · rw [mix_get hk, List.getElem?_reverse hk, getD_get (by omega)]
    unfold mixAt
    by_cases hc : k < i ∨ R.length - i ≤ k
    · rw [if_pos hc]
    · rw [if_neg hc]
      have : R.length - 1 - k = k := by omega
      rw [this]
  · rw [List.getElem?_eq_none (by rw [mix_len]; omega), List.getElem?_eq_none (by simp; omega)]

theorem mix_step {i : Nat} {R : List UInt8} (h : 2 * i + 1 < R.length) : ((mix i R).set i (mixAt R i (R.length - 1 - i))).set (R.length - 1 - i) (mixAt R i i) = mix (i + 1) R := by
  apply List.ext_getElem?
  intro k
  by_cases hk : k < R.length
  · rw [mix_get hk]
    by_cases h1 : k = R.length - 1 - i
    · rw [h1, List.getElem?_set_self (by rw [List.length_set, mix_len]; omega)]
      unfold mixAt
      rw [if_neg (by omega), if_pos (by omega)]
      have : R.length - 1 - (R.length - 1 - i) = i := by omega
      rw [this]
    · rw [List.getElem?_set_ne (Ne.symm h1)]
      by_cases h2 : k = i
      · rw [h2, List.getElem?_set_self (by rw [mix_len]; omega)]
        unfold mixAt
        rw [if_neg (by omega), if_pos (by omega)]
      · rw [List.getElem?_set_ne (Ne.symm h2), mix_get hk]
        unfold mixAt
        by_cases hc : k < i ∨ R.length - i ≤ k
        · rw [if_pos hc, if_pos (by omega)]
        · rw [if_neg hc, if_neg (by omega)]
  · rw [List.getElem?_eq_none (by simp [mix_len]; omega), List.getElem?_eq_none (by rw [mix_len]; omega)]

/-- A row of bytes of one's own, one of them written. -/
theorem row_byte {base g c k : Nat} {L : List UInt8} {n : Nat} (x : UInt8) (hn : L.length = n) (h : w.ownsRow base 5 1 (.slice (some ⟨g, 0, none⟩) n c) n (Lib.byteCells L)) (hk : k < n) :
    (w.setCell ⟨g, k, none⟩ (.int .u8 x.toNat)).ownsRow base 5 1 (.slice (some ⟨g, 0, none⟩) n c) n (Lib.byteCells (L.set k x)) := by
  rcases h.2 with ⟨h1, _⟩ | ⟨g', cap, cur, h1, hb, hg, hnc, hcm, hcs, htake⟩
  · cases h1
  · simp only [Value.slice.injEq, Option.some.injEq, Addr.mk.injEq, and_true, true_and] at h1
    obtain ⟨rfl, rfl⟩ := h1
    refine ⟨by simp [Lib.byteCells, hn], .inr ⟨g, c, cur.setIfInBounds k (.int .u8 x.toNat), rfl, hb, heap_setCell_same w g k cur _ (.int .u8 x.toNat) hg, hnc, hcm, by simpa using hcs, ?_⟩⟩
    have e : Lib.byteCells (L.set k x) = (Lib.byteCells L).set k (.int .u8 x.toNat) := by simp [Lib.byteCells, List.map_set]
    rw [e, ← htake, Array.toList_setIfInBounds, List.take_set]

theorem row_at {base g c k : Nat} {L : List UInt8} {n : Nat} {x : UInt8} (h : w.ownsRow base 5 1 (.slice (some ⟨g, 0, none⟩) n c) n (Lib.byteCells L)) (hx : L[k]? = some x) : w.cell? ⟨g, k, none⟩ = some (.int .u8 x.toNat) := by
  have := h.cells (g := g) rfl k (.int .u8 x.toNat) (by simp [Lib.byteCells, hx])
  rwa [add_mid0] at this

theorem backS_bytes {base g c : Nat} {l : List UInt8} (h : w.ownsRow base 5 1 (.slice (some ⟨g, 0, none⟩) l.length c) l.length (Lib.byteCells l)) :
    (convert 81 9 (.slice (some ⟨g, 0, none⟩) l.length c)).run Tryz.prog w = .ok (.string ⟨l.toArray⟩) w := by
  refine run_convert_bytes_back (P := Tryz.prog) w 81 9 5 ⟨g, 0, none⟩ c l Tryz.underlying81 Tryz.underlying5 Tryz.underlying9 ?_
  intro j hj
  exact h.cells (g := g) rfl j _ (by simp [Lib.byteCells, List.getElem?_eq_getElem hj])

theorem rowS_bytes {base : Nat} {v : Value} {l x : List UInt8} (h : w.ownsRow base 5 1 v (l.length + x.length) (Lib.byteCells l ++ Lib.byteCells x)) : w.ownsRow base 5 1 v (l ++ x).length (Lib.byteCells (l ++ x)) := by
  rw [List.length_append]
  simpa [Lib.byteCells] using h

theorem dig_nat {d : Nat} (h : d < 10) : (UInt8.ofNat (48 + d)).toNat = 48 + d := by simp [Nat.mod_eq_of_lt (show 48 + d < 256 by omega)]

theorem dec_lt {n : Nat} (h : n < 10) : Lib.decDigits n = [UInt8.ofNat (48 + n)] := by rw [Lib.decDigits, dif_pos h]

theorem dec_ge {n : Nat} (h : ¬ n < 10) : Lib.decDigits n = Lib.decDigits (n / 10) ++ [UInt8.ofNat (48 + n % 10)] := by rw [Lib.decDigits, dif_neg h]

set_option maxRecDepth 20000 in
set_option maxHeartbeats 2000000 in
theorem rDigits_pos (m0 : Nat) (h1 : m0 ≤ 9223372036854775807) (hk : (Lib.decDigits m0).length ≤ 21) (w : World) :
    Calls Tryz.prog 160 #[.int .i64 (m0 : Int)] w fun e w' => e = .returned (.string ⟨(Lib.decDigits m0).toArray⟩) ∧ Below w.heap.size w w' := by
  obtain ⟨i0, hi, hz0, hz1, hz2⟩ := info_parts infoU8
  have hq : ¬ ((m0 : Int) < 0) := by omega
  go_enter Tryz.func160, Tryz.ntmps160
  go_wp2
  go_loopw [3, 4] (fun mv v wr => ∃ (m : Nat) (R : List UInt8), mv = .int .u64 m ∧ m ≤ m0 ∧ Lib.decDigits m0 = Lib.decDigits m ++ R.reverse ∧ wr.ownsRow w.heap.size 5 1 v R.length (Lib.byteCells R) ∧ Below w.heap.size w wr) (fun mv _ _ => (intOf mv).toNat)
  case atStart => exact ⟨m0, [], by simp, Nat.le_refl _, by simp, World.ownsRow_nil _ _ _ _, Below.refl _ _⟩
  case round =>
    obtain ⟨m, R, rfl, hm, hd, hrow, hB⟩ := hrel
    have hsz := hB.size
    have hRl : R.length ≤ 21 := by
      have := congrArg List.length hd
      simp at this
      omega
    by_cases h9 : 9 < m
    · have h9' : (9 : Int) < (m : Int) := by omega
      have hdd : m % 10 < 10 := Nat.mod_lt _ (by omega)
      have hdn := dig_nat hdd
      have ht : Int.tmod (m : Int) 10 = ((m % 10 : Nat) : Int) := by rw [Int.tmod_eq_emod_of_nonneg (by omega)]; omega
      have hqq : Int.tdiv (m : Int) 10 = ((m / 10 : Nat) : Int) := by rw [Int.tdiv_eq_ediv_of_nonneg (by omega)]; omega
      rw [dec_ge (by omega : ¬ m < 10)] at hd
      have hqm : m / 10 < m := by omega
      obtain ⟨dg, hdg⟩ : ∃ dg, UInt8.ofNat (48 + m % 10) = dg := ⟨_, rfl⟩
      rw [hdg] at hdn hd
      have HD : Hid _ := And.intro hd hdn
      clear hd hdg hdn
      generalize hmd : m % 10 = dd at *
      generalize hmq : m / 10 = qq at *
      clear hmd hmq
      go_wp2_with (first
        | (at_builtin; (refine wpList_append_own _ rfl _ _ 81 rfl w.heap.size 5 i0 (.int .u8 0) 1 1 Tryz.underlying81 hi hz0 hz1 hz2 rfl (by decide) _ R.length (Lib.byteCells R) rfl (hrow.alloc _) ⟨wr.heap.size, 0, none⟩ 1 1 [.int .u8 ((48 : Int) + (dd : Int))] rfl rfl (World.news_of_block (cs := #[.int .u8 ((48 : Int) + (dd : Int))]) (t := 5) (fr := (0, 0)) (heap_alloc_new wr _)) (by simp [Value.oneCell']) (by unfold maxLen; omega) (by omega) (by simp; omega) ?_); intro v2 w2 hown2 hgrow2 _))
      go_roundw
      case rel =>
        obtain ⟨hd, hdn⟩ := HD.out
        refine ⟨qq, R ++ [dg], by simp, by omega, by rw [hd]; simp, ?_, ((below1 wr _).mono hsz |> hB.trans).trans (rbelow_grown hgrow2 (fun q e => (hrow.lt q e).1) (by simp; omega))⟩
        have e : ((dg.toNat : Nat) : Int) = (48 : Int) + (dd : Int) := by omega
        refine rowS_bytes (x := [dg]) ?_
        simpa [Lib.byteCells, e] using hown2
      case measure => simp [intOf]; omega
    · have h9' : ¬ ((9 : Int) < (m : Int)) := by omega
      have hdn := dig_nat (show m < 10 by omega)
      rw [dec_lt (by omega : m < 10)] at hd
      obtain ⟨dg, hdg⟩ : ∃ dg, UInt8.ofNat (48 + m) = dg := ⟨_, rfl⟩
      rw [hdg] at hdn hd
      clear hdg
      have e48 : ((dg.toNat : Nat) : Int) = (48 : Int) + (m : Int) := by omega
      have HD : Hid _ := And.intro hd e48
      have hm9 : m ≤ 9 := by omega
      clear hd hdn e48
      go_wp2_with (first
        | (at_builtin; (refine wpList_append_own _ rfl _ _ 81 rfl w.heap.size 5 i0 (.int .u8 0) 1 1 Tryz.underlying81 hi hz0 hz1 hz2 rfl (by decide) _ R.length (Lib.byteCells R) rfl (hrow.alloc _) ⟨wr.heap.size, 0, none⟩ 1 1 [.int .u8 ((48 : Int) + (m : Int))] rfl rfl (World.news_of_block (cs := #[.int .u8 ((48 : Int) + (m : Int))]) (t := 5) (fr := (0, 0)) (heap_alloc_new wr _)) (by simp [Value.oneCell']) (by unfold maxLen; omega) (by omega) (by simp; omega) ?_); intro v2 w2 hown2 hgrow2 _; refine halt_here ?_))
      unfold Halted
      obtain ⟨hd, e48⟩ := HD.out
      have hB2 : Below w.heap.size w w2 := ((below1 wr _).mono hsz |> hB.trans).trans (rbelow_grown hgrow2 (fun q e => (hrow.lt q e).1) (by simp; omega))
      have hsz2 := hB2.size
      have hrow2 : w2.ownsRow w.heap.size 5 1 v2 (R ++ [dg]).length (Lib.byteCells (R ++ [dg])) := rowS_bytes (x := [dg]) (by simpa [Lib.byteCells, e48] using hown2)
      have hrev : (R ++ [dg]).reverse = Lib.decDigits m0 := by rw [hd]; simp
      have hRl2 : (R ++ [dg]).length ≤ 22 := by simp; omega
      have hpos : 1 ≤ (R ++ [dg]).length := by simp
      have HRV : Hid _ := hrev
      clear hown2 hgrow2 hrow hd e48 HD hrev hk hRl
      generalize R ++ [dg] = R2 at *
      have hB3 := hB2
      have hrow3 := hrow2
      have hl3 : R2.length ≤ 23 := by omega
      have hp3 := hpos
      have HV := HRV
      clear hrow2 HRV hRl2 hpos hB2 hsz2
      obtain ⟨v3, hv3⟩ : ∃ v, v = v2 := ⟨_, rfl⟩
      subst hv3
      obtain ⟨w3, hw3⟩ : ∃ x, x = w2 := ⟨_, rfl⟩
      subst hw3
      obtain ⟨R3, hR3⟩ : ∃ x, x = R2 := ⟨_, rfl⟩
      subst hR3
      obtain ⟨pv, cv, e3, hcl, hcm, hpg⟩ := row_form hrow3
      obtain ⟨g, eg⟩ := hpg (by omega)
      subst eg
      subst e3
      clear hpg
      go_wp2
      go_loopw [5, 6] (fun k _ wx => ∃ i : Nat, k = .int .i64 i ∧ 2 * i ≤ R3.length + 1 ∧ wx.ownsRow w.heap.size 5 1 (.slice (some ⟨g, 0, none⟩) R3.length cv) R3.length (Lib.byteCells (mix i R3)) ∧ Below w.heap.size w wx) (fun k _ _ => R3.length - (intOf k).toNat)
      case atStart => exact ⟨0, rfl, by omega, by rw [mix_zero]; exact hrow3, hB3⟩
      case round =>
        obtain ⟨i, rfl, hi2, hrowi, hBi⟩ := hrel
        have hg0 : w.heap.size ≤ g := (hrowi.lt g rfl).1
        by_cases hlt : 2 * i + 1 < R3.length
        · have hlt' : (2 : Int) * (i : Int) < (R3.length : Int) - 1 := by omega
          have hr1 := row_at hrowi (mix_get (i := i) (k := i) (R := R3) (by omega))
          have hr2 := row_at hrowi (mix_get (i := i) (k := R3.length - 1 - i) (R := R3) (by omega))
          have hs1 := row_byte (mixAt R3 i (R3.length - 1 - i)) (mix_len i R3) hrowi (show i < R3.length by omega)
          have hs2 := row_byte (mixAt R3 i i) (by rw [List.length_set, mix_len]) hs1 (show R3.length - 1 - i < R3.length by omega)
          rw [mix_step hlt] at hs2
          obtain ⟨y, hy⟩ : ∃ y, y = R3.length - 1 - i := ⟨_, rfl⟩
          have hyi : (R3.length : Int) - 1 - (i : Int) = (y : Int) := by omega
          have hyl : (y : Int) < (R3.length : Int) := by omega
          have hil' : (i : Int) < (R3.length : Int) := by omega
          rw [← hy] at hr2 hs1 hs2
          obtain ⟨cur, hcur⟩ := row_obj hrowi (k := g) rfl
          have fz1 := frozen_of_row wr g i _ _ hcur
          obtain ⟨cur2, hcur2⟩ := row_obj hs1 (k := g) rfl
          have fz2 := frozen_of_row (wr.setCell ⟨g, i, none⟩ (.int .u8 (mixAt R3 i y).toNat)) g y _ _ hcur2
          have hine : i ≠ y := by omega
          have c2 : ((wr.setCell ⟨g, i, none⟩ (.int .u8 (mixAt R3 i y).toNat)).cell? ⟨g, y, none⟩).isSome = true := by
            rw [row_at hs1 (k := y) (x := mixAt R3 i y) (by rw [List.getElem?_set_ne hine]; exact mix_get (by omega))]; rfl
          have HS : Hid _ := And.intro hs2 (And.intro (below_set (below_set hBi hg0 _) hg0 _ : Below w.heap.size w ((wr.setCell ⟨g, i, none⟩ (.int .u8 (mixAt R3 i y).toNat)).setCell ⟨g, y, none⟩ (.int .u8 (mixAt R3 i i).toNat))) hy)
          clear hs1 hs2 hrowi hcur hcur2 hy
          go_wp2
          go_roundw
          case rel =>
            obtain ⟨hs2, hbb, -⟩ := HS.out
            exact ⟨i + 1, by simp, by omega, hs2, hbb⟩
          case measure => simp [intOf]; omega
        · have hlt' : ¬ ((2 : Int) * (i : Int) < (R3.length : Int) - 1) := by omega
          rw [mix_end (by omega : R3.length ≤ 2 * i + 1), HV.out] at hrowi
          have hll : R3.length = (Lib.decDigits m0).length := by have := congrArg List.length HV.out; simpa using this
          have hrowj := hrowi
          rw [hll] at hrowj
          have hcvt := backS_bytes hrowj
          rw [← hll] at hcvt
          clear hrowj hll
          go_wp2
          go_ret
          exact ⟨rfl, hBi⟩

set_option maxRecDepth 20000 in
set_option maxHeartbeats 2000000 in
theorem rDigits_neg (m0 : Nat) (h0 : 1 ≤ m0) (h1 : m0 ≤ 9223372036854775808) (hk : (Lib.decDigits m0).length ≤ 21) (w : World) :
    Calls Tryz.prog 160 #[.int .i64 (-(m0 : Int))] w fun e w' => e = .returned (.string ⟨(45 :: Lib.decDigits m0).toArray⟩) ∧ Below w.heap.size w w' := by
  obtain ⟨i0, hi, hz0, hz1, hz2⟩ := info_parts infoU8
  have hq : 0 < m0 := by omega
  have hw1 : IntKind.u64.wrap (-(m0 : Int)) = 18446744073709551616 - (m0 : Int) := by rw [IntKind.wrap_u64]; omega
  have hw2 : IntKind.u64.wrap (0 - (18446744073709551616 - (m0 : Int))) = (m0 : Int) := by rw [IntKind.wrap_u64]; omega
  have hw3 : IntKind.u64.wrap (-(18446744073709551616 - (m0 : Int))) = (m0 : Int) := by rw [IntKind.wrap_u64]; omega
  go_enter Tryz.func160, Tryz.ntmps160
  go_wp2
  go_loopw [3, 4] (fun mv v wr => ∃ (m : Nat) (R : List UInt8), mv = .int .u64 m ∧ m ≤ m0 ∧ Lib.decDigits m0 = Lib.decDigits m ++ R.reverse ∧ wr.ownsRow w.heap.size 5 1 v R.length (Lib.byteCells R) ∧ Below w.heap.size w wr) (fun mv _ _ => (intOf mv).toNat)
  case atStart => exact ⟨m0, [], by simp, Nat.le_refl _, by simp, World.ownsRow_nil _ _ _ _, Below.refl _ _⟩
  case round =>
    obtain ⟨m, R, rfl, hm, hd, hrow, hB⟩ := hrel
    have hsz := hB.size
    have hRl : R.length ≤ 21 := by
      have := congrArg List.length hd
      simp at this
      omega
    by_cases h9 : 9 < m
    · have h9' : (9 : Int) < (m : Int) := by omega
      have hdd : m % 10 < 10 := Nat.mod_lt _ (by omega)
      have hdn := dig_nat hdd
      have ht : Int.tmod (m : Int) 10 = ((m % 10 : Nat) : Int) := by rw [Int.tmod_eq_emod_of_nonneg (by omega)]; omega
      have hqq : Int.tdiv (m : Int) 10 = ((m / 10 : Nat) : Int) := by rw [Int.tdiv_eq_ediv_of_nonneg (by omega)]; omega
      rw [dec_ge (by omega : ¬ m < 10)] at hd
      have hqm : m / 10 < m := by omega
      obtain ⟨dg, hdg⟩ : ∃ dg, UInt8.ofNat (48 + m % 10) = dg := ⟨_, rfl⟩
      rw [hdg] at hdn hd
      have HD : Hid _ := And.intro hd hdn
      clear hd hdg hdn
      generalize hmd : m % 10 = dd at *
      generalize hmq : m / 10 = qq at *
      clear hmd hmq
      go_wp2_with (first
        | (at_builtin; (refine wpList_append_own _ rfl _ _ 81 rfl w.heap.size 5 i0 (.int .u8 0) 1 1 Tryz.underlying81 hi hz0 hz1 hz2 rfl (by decide) _ R.length (Lib.byteCells R) rfl (hrow.alloc _) ⟨wr.heap.size, 0, none⟩ 1 1 [.int .u8 ((48 : Int) + (dd : Int))] rfl rfl (World.news_of_block (cs := #[.int .u8 ((48 : Int) + (dd : Int))]) (t := 5) (fr := (0, 0)) (heap_alloc_new wr _)) (by simp [Value.oneCell']) (by unfold maxLen; omega) (by omega) (by simp; omega) ?_); intro v2 w2 hown2 hgrow2 _))
      go_roundw
      case rel =>
        obtain ⟨hd, hdn⟩ := HD.out
        refine ⟨qq, R ++ [dg], by simp, by omega, by rw [hd]; simp, ?_, ((below1 wr _).mono hsz |> hB.trans).trans (rbelow_grown hgrow2 (fun q e => (hrow.lt q e).1) (by simp; omega))⟩
        have e : ((dg.toNat : Nat) : Int) = (48 : Int) + (dd : Int) := by omega
        refine rowS_bytes (x := [dg]) ?_
        simpa [Lib.byteCells, e] using hown2
      case measure => simp [intOf]; omega
    · have h9' : ¬ ((9 : Int) < (m : Int)) := by omega
      have hdn := dig_nat (show m < 10 by omega)
      rw [dec_lt (by omega : m < 10)] at hd
      obtain ⟨dg, hdg⟩ : ∃ dg, UInt8.ofNat (48 + m) = dg := ⟨_, rfl⟩
      rw [hdg] at hdn hd
      clear hdg
      have e48 : ((dg.toNat : Nat) : Int) = (48 : Int) + (m : Int) := by omega
      have HD : Hid _ := And.intro hd e48
      have hm9 : m ≤ 9 := by omega
      clear hd hdn e48
      go_wp2_with (first
        | (at_builtin; (refine wpList_append_own _ rfl _ _ 81 rfl w.heap.size 5 i0 (.int .u8 0) 1 1 Tryz.underlying81 hi hz0 hz1 hz2 rfl (by decide) _ R.length (Lib.byteCells R) rfl (hrow.alloc _) ⟨wr.heap.size, 0, none⟩ 1 1 [.int .u8 ((48 : Int) + (m : Int))] rfl rfl (World.news_of_block (cs := #[.int .u8 ((48 : Int) + (m : Int))]) (t := 5) (fr := (0, 0)) (heap_alloc_new wr _)) (by simp [Value.oneCell']) (by unfold maxLen; omega) (by omega) (by simp; omega) ?_); intro v2 w2 hown2 hgrow2 _; refine halt_here ?_))
      unfold Halted
      obtain ⟨hd, e48⟩ := HD.out
      have hB2 : Below w.heap.size w w2 := ((below1 wr _).mono hsz |> hB.trans).trans (rbelow_grown hgrow2 (fun q e => (hrow.lt q e).1) (by simp; omega))
      have hsz2 := hB2.size
      have hrow2 : w2.ownsRow w.heap.size 5 1 v2 (R ++ [dg]).length (Lib.byteCells (R ++ [dg])) := rowS_bytes (x := [dg]) (by simpa [Lib.byteCells, e48] using hown2)
      have hrev : (R ++ [dg]).reverse = Lib.decDigits m0 := by rw [hd]; simp
      have hRl2 : (R ++ [dg]).length ≤ 22 := by simp; omega
      have hpos : 1 ≤ (R ++ [dg]).length := by simp
      have HRV : Hid _ := hrev
      clear hown2 hgrow2 hrow hd e48 HD hrev hk hRl
      generalize R ++ [dg] = R2 at *
      go_wp2_with (first
        | (at_builtin; (refine wpList_append_own _ rfl _ _ 81 rfl w.heap.size 5 i0 (.int .u8 0) 1 1 Tryz.underlying81 hi hz0 hz1 hz2 rfl (by decide) _ R2.length (Lib.byteCells R2) rfl (hrow2.alloc _) ⟨w2.heap.size, 0, none⟩ 1 1 [.int .u8 45] rfl rfl (World.news_of_block (cs := #[.int .u8 45]) (t := 5) (fr := (0, 0)) (heap_alloc_new w2 _)) (by simp [Value.oneCell']) (by unfold maxLen; omega) (by omega) (by simp; omega) ?_); intro v3 w3 hown3 hgrow3 _; refine halt_here ?_))
      unfold Halted
      have hB3 : Below w.heap.size w w3 := ((below1 w2 _).mono hsz2 |> hB2.trans).trans (rbelow_grown hgrow3 (fun q e => (hrow2.lt q e).1) (by simp; omega))
      have hrow3 : w3.ownsRow w.heap.size 5 1 v3 (R2 ++ [45]).length (Lib.byteCells (R2 ++ [45])) := rowS_bytes (x := [45]) (by simpa [Lib.byteCells] using hown3)
      have hrv3 : (R2 ++ [45]).reverse = 45 :: Lib.decDigits m0 := by rw [← HRV.out]; simp
      have hl3 : (R2 ++ [45]).length ≤ 23 := by simp; omega
      have hp3 : 1 ≤ (R2 ++ [45]).length := by simp
      have HV : Hid _ := hrv3
      clear hown3 hgrow3 hrow2 HRV hrv3 hRl2 hpos hB2 hsz2
      generalize R2 ++ [45] = R3 at *
      obtain ⟨pv, cv, e3, hcl, hcm, hpg⟩ := row_form hrow3
      obtain ⟨g, eg⟩ := hpg (by omega)
      subst eg
      subst e3
      clear hpg
      go_wp2
      go_loopw [5, 6] (fun k _ wx => ∃ i : Nat, k = .int .i64 i ∧ 2 * i ≤ R3.length + 1 ∧ wx.ownsRow w.heap.size 5 1 (.slice (some ⟨g, 0, none⟩) R3.length cv) R3.length (Lib.byteCells (mix i R3)) ∧ Below w.heap.size w wx) (fun k _ _ => R3.length - (intOf k).toNat)
      case atStart => exact ⟨0, rfl, by omega, by rw [mix_zero]; exact hrow3, hB3⟩
      case round =>
        obtain ⟨i, rfl, hi2, hrowi, hBi⟩ := hrel
        have hg0 : w.heap.size ≤ g := (hrowi.lt g rfl).1
        by_cases hlt : 2 * i + 1 < R3.length
        · have hlt' : (2 : Int) * (i : Int) < (R3.length : Int) - 1 := by omega
          have hr1 := row_at hrowi (mix_get (i := i) (k := i) (R := R3) (by omega))
          have hr2 := row_at hrowi (mix_get (i := i) (k := R3.length - 1 - i) (R := R3) (by omega))
          have hs1 := row_byte (mixAt R3 i (R3.length - 1 - i)) (mix_len i R3) hrowi (show i < R3.length by omega)
          have hs2 := row_byte (mixAt R3 i i) (by rw [List.length_set, mix_len]) hs1 (show R3.length - 1 - i < R3.length by omega)
          rw [mix_step hlt] at hs2
          obtain ⟨y, hy⟩ : ∃ y, y = R3.length - 1 - i := ⟨_, rfl⟩
          have hyi : (R3.length : Int) - 1 - (i : Int) = (y : Int) := by omega
          have hyl : (y : Int) < (R3.length : Int) := by omega
          have hil' : (i : Int) < (R3.length : Int) := by omega
          rw [← hy] at hr2 hs1 hs2
          obtain ⟨cur, hcur⟩ := row_obj hrowi (k := g) rfl
          have fz1 := frozen_of_row wr g i _ _ hcur
          obtain ⟨cur2, hcur2⟩ := row_obj hs1 (k := g) rfl
          have fz2 := frozen_of_row (wr.setCell ⟨g, i, none⟩ (.int .u8 (mixAt R3 i y).toNat)) g y _ _ hcur2
          have hine : i ≠ y := by omega
          have c2 : ((wr.setCell ⟨g, i, none⟩ (.int .u8 (mixAt R3 i y).toNat)).cell? ⟨g, y, none⟩).isSome = true := by
            rw [row_at hs1 (k := y) (x := mixAt R3 i y) (by rw [List.getElem?_set_ne hine]; exact mix_get (by omega))]; rfl
          have HS : Hid _ := And.intro hs2 (And.intro (below_set (below_set hBi hg0 _) hg0 _ : Below w.heap.size w ((wr.setCell ⟨g, i, none⟩ (.int .u8 (mixAt R3 i y).toNat)).setCell ⟨g, y, none⟩ (.int .u8 (mixAt R3 i i).toNat))) hy)
          clear hs1 hs2 hrowi hcur hcur2 hy
          go_wp2
          go_roundw
          case rel =>
            obtain ⟨hs2, hbb, -⟩ := HS.out
            exact ⟨i + 1, by simp, by omega, hs2, hbb⟩
          case measure => simp [intOf]; omega
        · have hlt' : ¬ ((2 : Int) * (i : Int) < (R3.length : Int) - 1) := by omega
          rw [mix_end (by omega : R3.length ≤ 2 * i + 1), HV.out] at hrowi
          have hll : R3.length = (45 :: Lib.decDigits m0).length := by have := congrArg List.length HV.out; simpa using this
          have hrowj := hrowi
          rw [hll] at hrowj
          have hcvt := backS_bytes hrowj
          rw [← hll] at hcvt
          clear hrowj hll
          go_wp2
          go_ret
          exact ⟨rfl, hBi⟩

theorem rDigits_in (n : Int) (h0 : -9223372036854775808 ≤ n) (h1 : n ≤ 9223372036854775807) (w : World) :
    Calls Tryz.prog 160 #[.int .i64 n] w fun e w' => e = .returned (.string ⟨(Lib.itoa n).toArray⟩) ∧ Below w.heap.size w w' := by
  have hil := Lib.itoa_length_le n h0 h1
  unfold Lib.itoa at hil ⊢
  by_cases hneg : n < 0
  · rw [if_pos hneg] at hil ⊢
    have e : n = -((n.natAbs : Nat) : Int) := by omega
    have := rDigits_neg n.natAbs (by omega) (by omega) (by simp at hil; omega) w
    rw [← e] at this
    exact this
  · rw [if_neg hneg] at hil ⊢
    have e : n = ((n.toNat : Nat) : Int) := by omega
    have := rDigits_pos n.toNat (by omega) hil w
    rw [← e] at this
    exact this

end Ld

end Go.Proofs.YtpjgdbeekmoedaaGreatDoor
