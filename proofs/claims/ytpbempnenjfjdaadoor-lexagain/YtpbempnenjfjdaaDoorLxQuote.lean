/- A text in quotes. -/
import Derived.Test.YtpbempnenjfjdaaDoorLxDigits
namespace Go.Proofs.YtpbempnenjfjdaaDoor
set_option linter.unusedVariables false
set_option linter.unusedSimpArgs false
open Go.RowKit

variable {w : World}

def escB (c : UInt8) : List UInt8 := if c = 34 ∨ c = 92 then [92, c] else if c = 10 then [92, 110] else [c]

def esc (s : List UInt8) : List UInt8 := s.flatMap escB

def quo (s : List UInt8) : List UInt8 := 34 :: (esc s ++ [34])

theorem escB_len (c : UInt8) : (escB c).length ≤ 2 := by unfold escB; split <;> (try split) <;> simp

theorem esc_len (s : List UInt8) : (esc s).length ≤ 2 * s.length := by
  induction s with
  | nil => simp [esc]
  | cons c r ih =>
    have := escB_len c
    simp only [esc, List.flatMap_cons, List.length_append, List.length_cons] at ih ⊢
    omega

theorem esc_take {s : List UInt8} {j : Nat} {c : UInt8} (h : s[j]? = some c) : esc (s.take (j + 1)) = esc (s.take j) ++ escB c := by
  rw [List.take_add_one, h]
  simp [esc]

/-- Bytes put behind a row of bytes. -/
theorem row_bytes {base : Nat} {v : Value} {l x : List UInt8} (h : w.ownsRow base 5 1 v (l.length + x.length) (Lib.byteCells l ++ Lib.byteCells x)) : w.ownsRow base 5 1 v (l ++ x).length (Lib.byteCells (l ++ x)) := by
  rw [List.length_append]
  simpa [Lib.byteCells] using h

theorem back_bytes {base : Nat} {g n c : Nat} {l : List UInt8} (h : w.ownsRow base 5 1 (.slice (some ⟨g, 0, none⟩) l.length c) l.length (Lib.byteCells l)) :
    (convert 27 9 (.slice (some ⟨g, 0, none⟩) l.length c)).run Tryd.prog w = .ok (.string (bs l)) w := by
  refine run_convert_bytes_back (P := Tryd.prog) w 27 9 5 ⟨g, 0, none⟩ c l Tryd.underlying27 Tryd.underlying5 Tryd.underlying9 ?_
  intro j hj
  exact h.cells (g := g) rfl j _ (by simp [Lib.byteCells, List.getElem?_eq_getElem hj])

set_option maxRecDepth 20000 in
set_option maxHeartbeats 1000000 in
theorem quoted_in (s : List UInt8) (hl : s.length ≤ 65536) (w : World) :
    Calls Tryd.prog 10 #[.string (bs s)] w fun e w' => e = .returned (.string (bs (quo s))) ∧ Below w.heap.size w w' := by
  obtain ⟨i0, hi, hz0, hz1, hz2⟩ := infoB_parts infoU8
  have hsz := bs_size s
  have hA := below1 w (.cells #[.int .u8 34] 5)
  go_enter Tryd.func10, Tryd.ntmps10
  go_wp2_with (first
    | (at_builtin; (refine wpList_append_own _ rfl _ _ 27 rfl w.heap.size 5 i0 (.int .u8 0) 1 1 Tryd.underlying27 hi hz0 hz1 hz2 rfl (by decide) (.slice none 0 0) 0 [] rfl (World.ownsRow_nil _ _ _ _) ⟨w.heap.size, 0, none⟩ 1 1 [.int .u8 34] rfl rfl (World.news_of_block (cs := #[.int .u8 34]) (t := 5) (fr := (0, 0)) (heap_alloc_new w _)) (by simp [Value.oneCell']) (by unfold maxLen; omega) (by omega) (by simp) ?_); intro v1 w1 hown1 hgrow1 _; have hB1 : Below w.heap.size w w1 := hA.trans (rbelow_grown hgrow1 (fun q e => by cases e) (by simp)); clear hgrow1))
  go_loopw [3, 4] (fun v k wr => ∃ j : Nat, k = .int .i64 j ∧ j ≤ s.length ∧ wr.ownsRow w.heap.size 5 1 v (34 :: esc (s.take j)).length (Lib.byteCells (34 :: esc (s.take j))) ∧ Below w.heap.size w wr) (fun _ k _ => s.length - (intOf k).toNat)
  case atStart =>
    refine ⟨0, rfl, by omega, ?_, hB1⟩
    simpa [esc, Lib.byteCells] using hown1
  case round =>
    obtain ⟨j, rfl, hj, hrow, hB⟩ := hrel
    have hsB := hB.size
    have hel := esc_len (s.take j)
    have htl : (s.take j).length ≤ s.length := by simp; omega
    by_cases hjl : j < s.length
    · have hjs : j < (bs s).size := by omega
      have hc : s[j]? = some ((bs s)[j]'hjs) := bs_get hjs
      have hjl' : (j : Int) < (s.length : Int) := by omega
      have het := esc_take hc
      have hll : (34 :: esc (s.take j)).length ≤ 131073 := by simp; omega
      generalize hL : (34 :: esc (s.take j) : List UInt8) = L at *
      have hnext : (34 :: esc (s.take (j + 1)) : List UInt8) = L ++ escB ((bs s)[j]'hjs) := by rw [het, ← hL]; simp
      have HN : Hid _ := hnext
      clear hnext het hL hel htl hc
      by_cases h34 : ((bs s)[j]'hjs).toNat = 34 ∨ ((bs s)[j]'hjs).toNat = 92
      · have hor : (((bs s)[j]'hjs).toNat : Int) = 34 ∨ (¬ ((((bs s)[j]'hjs).toNat : Int) = 34) ∧ (((bs s)[j]'hjs).toNat : Int) = 92) := by omega
        have hes : escB ((bs s)[j]'hjs) = [92, (bs s)[j]'hjs] := by unfold escB; rw [if_pos (h34.imp eq34.2 eq92.2)]
        have HE : Hid _ := hes
        clear h34 hes
        rcases hor with hq | ⟨hq, hq2⟩
        · go_wp2_with (first
            | (at_builtin; (refine wpList_append_own _ rfl _ _ 27 rfl w.heap.size 5 i0 (.int .u8 0) 1 1 Tryd.underlying27 hi hz0 hz1 hz2 rfl (by decide) _ L.length (Lib.byteCells L) rfl (hrow.alloc _) ⟨wr.heap.size, 0, none⟩ 2 2 [.int .u8 92, .int .u8 34] rfl rfl (World.news_of_block (cs := #[.int .u8 92, .int .u8 34]) (t := 5) (fr := (0, 0)) (heap_alloc_new wr _)) (by simp [Value.oneCell']) (by unfold maxLen; omega) (by omega) (by simp; omega) ?_); intro v2 w2 hown2 hgrow2 _))
          go_roundw
          case rel =>
            refine ⟨j + 1, by simp, by omega, ?_, ((below1 wr _).mono hsB |> hB.trans).trans (rbelow_grown hgrow2 (fun q e => (hrow.lt q e).1) (by simp; omega))⟩
            rw [HN.out, HE.out]
            have e34 : (bs s)[j]'hjs = 34 := eq34.2 (by omega)
            rw [e34]
            exact row_bytes (x := [92, 34]) (by simpa [Lib.byteCells] using hown2)
          case measure => simp [intOf]; omega
        · go_wp2_with (first
            | (at_builtin; (refine wpList_append_own _ rfl _ _ 27 rfl w.heap.size 5 i0 (.int .u8 0) 1 1 Tryd.underlying27 hi hz0 hz1 hz2 rfl (by decide) _ L.length (Lib.byteCells L) rfl (hrow.alloc _) ⟨wr.heap.size, 0, none⟩ 2 2 [.int .u8 92, .int .u8 92] rfl rfl (World.news_of_block (cs := #[.int .u8 92, .int .u8 92]) (t := 5) (fr := (0, 0)) (heap_alloc_new wr _)) (by simp [Value.oneCell']) (by unfold maxLen; omega) (by omega) (by simp; omega) ?_); intro v2 w2 hown2 hgrow2 _))
          go_roundw
          case rel =>
            refine ⟨j + 1, by simp, by omega, ?_, ((below1 wr _).mono hsB |> hB.trans).trans (rbelow_grown hgrow2 (fun q e => (hrow.lt q e).1) (by simp; omega))⟩
            rw [HN.out, HE.out]
            have e34 : (bs s)[j]'hjs = 92 := eq92.2 (by omega)
            rw [e34]
            exact row_bytes (x := [92, 92]) (by simpa [Lib.byteCells] using hown2)
          case measure => simp [intOf]; omega
      · have hq : ¬ ((((bs s)[j]'hjs).toNat : Int) = 34) := by omega
        have hq2 : ¬ ((((bs s)[j]'hjs).toNat : Int) = 92) := by omega
        have hne : ¬ ((bs s)[j]'hjs = 34 ∨ (bs s)[j]'hjs = 92) := fun h => h34 (h.imp eq34.1 eq92.1)
        by_cases h10 : ((bs s)[j]'hjs).toNat = 10
        · have hq3 : (((bs s)[j]'hjs).toNat : Int) = 10 := by omega
          have hes : escB ((bs s)[j]'hjs) = [92, 110] := by unfold escB; rw [if_neg hne, if_pos (eq10.2 h10)]
          have HE : Hid _ := hes
          clear h34 hes hne h10
          go_wp2_with (first
            | (at_builtin; (refine wpList_append_own _ rfl _ _ 27 rfl w.heap.size 5 i0 (.int .u8 0) 1 1 Tryd.underlying27 hi hz0 hz1 hz2 rfl (by decide) _ L.length (Lib.byteCells L) rfl (hrow.alloc _) ⟨wr.heap.size, 0, none⟩ 2 2 [.int .u8 92, .int .u8 110] rfl rfl (World.news_of_block (cs := #[.int .u8 92, .int .u8 110]) (t := 5) (fr := (0, 0)) (heap_alloc_new wr _)) (by simp [Value.oneCell']) (by unfold maxLen; omega) (by omega) (by simp; omega) ?_); intro v2 w2 hown2 hgrow2 _))
          go_roundw
          case rel =>
            refine ⟨j + 1, by simp, by omega, ?_, ((below1 wr _).mono hsB |> hB.trans).trans (rbelow_grown hgrow2 (fun q e => (hrow.lt q e).1) (by simp; omega))⟩
            rw [HN.out, HE.out]
            exact row_bytes (x := [92, 110]) (by simpa [Lib.byteCells] using hown2)
          case measure => simp [intOf]; omega
        · have hq3 : ¬ ((((bs s)[j]'hjs).toNat : Int) = 10) := by omega
          have hes : escB ((bs s)[j]'hjs) = [(bs s)[j]'hjs] := by unfold escB; rw [if_neg hne, if_neg (fun e => h10 (eq10.1 e))]
          have HE : Hid _ := hes
          clear h34 hes hne h10
          go_wp2_with (first
            | (at_builtin; (refine wpList_append_own _ rfl _ _ 27 rfl w.heap.size 5 i0 (.int .u8 0) 1 1 Tryd.underlying27 hi hz0 hz1 hz2 rfl (by decide) _ L.length (Lib.byteCells L) rfl (hrow.alloc _) ⟨wr.heap.size, 0, none⟩ 1 1 [.int .u8 ((bs s)[j]'hjs).toNat] rfl rfl (World.news_of_block (cs := #[.int .u8 ((bs s)[j]'hjs).toNat]) (t := 5) (fr := (0, 0)) (heap_alloc_new wr _)) (by simp [Value.oneCell']) (by unfold maxLen; omega) (by omega) (by simp; omega) ?_); intro v2 w2 hown2 hgrow2 _))
          go_roundw
          case rel =>
            refine ⟨j + 1, by simp, by omega, ?_, ((below1 wr _).mono hsB |> hB.trans).trans (rbelow_grown hgrow2 (fun q e => (hrow.lt q e).1) (by simp; omega))⟩
            rw [HN.out, HE.out]
            exact row_bytes (x := [(bs s)[j]'hjs]) (by simpa [Lib.byteCells] using hown2)
          case measure => simp [intOf]; omega
    · have hjl' : ¬ ((j : Int) < (s.length : Int)) := by omega
      have e : s.take j = s := List.take_of_length_le (by omega)
      rw [e] at hrow hel
      have hll : (34 :: esc s).length ≤ 131073 := by simp; omega
      have hfin : quo s = (34 :: esc s) ++ [34] := rfl
      generalize hL : (34 :: esc s : List UInt8) = L at *
      have HF : Hid _ := hfin
      clear e hel htl hL hfin
      have hLL : (L ++ [34]).length = L.length + 1 := by simp
      go_wp2_with (first
        | (at_builtin; (refine wpList_append_own _ rfl _ _ 27 rfl w.heap.size 5 i0 (.int .u8 0) 1 1 Tryd.underlying27 hi hz0 hz1 hz2 rfl (by decide) _ L.length (Lib.byteCells L) rfl (hrow.alloc _) ⟨wr.heap.size, 0, none⟩ 1 1 [.int .u8 34] rfl rfl (World.news_of_block (cs := #[.int .u8 34]) (t := 5) (fr := (0, 0)) (heap_alloc_new wr _)) (by simp [Value.oneCell']) (by unfold maxLen; omega) (by omega) (by simp; omega) ?_); intro v2 w2 hown2 hgrow2 _; have hB2 : Below w.heap.size w w2 := ((below1 wr _).mono hsB |> hB.trans).trans (rbelow_grown hgrow2 (fun q e => (hrow.lt q e).1) (by simp; omega)); have hown3 : w2.ownsRow w.heap.size 5 1 v2 (L ++ [34]).length (Lib.byteCells (L ++ [34])) := row_bytes (x := [34]) (by simpa [Lib.byteCells] using hown2); obtain ⟨p2, c2, rfl, -, -, hp2⟩ := row_form hown3; obtain ⟨g2, rfl⟩ := hp2 (by rw [hLL]; omega); have hcv := back_bytes (n := 0) hown3; rw [hLL] at hcv hown3 ⊢; clear hgrow2 hown2 hp2))
      go_ret
      rw [HF.out]
      exact ⟨rfl, hB2⟩

end Go.Proofs.YtpbempnenjfjdaaDoor
