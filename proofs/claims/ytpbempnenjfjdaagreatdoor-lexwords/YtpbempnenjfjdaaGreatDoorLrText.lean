/- The document's texts: what stands between quotes. -/
import Derived.Test.YtpbempnenjfjdaaGreatDoorLrRun
import Derived.Test.YtpbempnenjfjdaaGreatDoorLrMath
import Derived.Laws.IdiomStrings
import Derived.Laws.BytesArg
namespace Go.Proofs.YtpbempnenjfjdaaGreatDoor
set_option linter.unusedVariables false
set_option linter.unusedSimpArgs false
open Go.RowKit

variable {w : World}

theorem trow_bytes {base : Nat} {v : Value} {l x : List UInt8} (h : w.ownsRow base 5 1 v (l.length + x.length) (Lib.byteCells l ++ Lib.byteCells x)) : w.ownsRow base 5 1 v (l ++ x).length (Lib.byteCells (l ++ x)) := by
  rw [List.length_append]
  simpa [Lib.byteCells] using h

theorem tback_bytes {base : Nat} {v : Value} {l : List UInt8} (h : w.ownsRow base 5 1 v l.length (Lib.byteCells l)) :
    (convert 220 9 v).run Tryz.prog w = .ok (.string (bs l)) w := by
  rcases h.2 with ⟨hv, h0⟩ | ⟨g, cap, cur, rfl, _⟩
  · have : l = [] := List.eq_nil_of_length_eq_zero h0
    subst this
    subst hv
    exact run_convert_bytes_nil (P := Tryz.prog) (w := w) 220 5 Tryz.underlying220 Tryz.underlying5 0 0 9 Tryz.underlying9
  · refine run_convert_bytes_back (P := Tryz.prog) w 220 9 5 ⟨g, 0, none⟩ cap l Tryz.underlying220 Tryz.underlying5 Tryz.underlying9 ?_
    intro j hj
    exact h.cells (g := g) rfl j _ (by simp [Lib.byteCells, List.getElem?_eq_getElem hj])

/-- What the reading of a text answers. -/
def TRes (R : Option (List UInt8 × List UInt8)) (L : Nat) (w : World) (e : Ending) (w' : World) : Prop :=
  ∃ (s : ByteArray) (n : Int) (ok : Bool), e = .returned (.tuple #[.string s, .int .i64 n, .bool ok]) ∧ Below w.heap.size w w' ∧
    (match R with
      | none => ok = false
      | some (t, z) => s = bs t ∧ n = ((L - z.length : Nat) : Int) ∧ ok = decide (t.length ≤ 4096))

theorem textAt_10 (r : List UInt8) : textAt (10 :: r) = none := by cases r <;> simp [textAt]

theorem textAt_34 (r : List UInt8) : textAt (34 :: r) = some ([], r) := by cases r <;> simp [textAt]

theorem map_app {T : Option (List UInt8 × List UInt8)} {acc : List UInt8} {x : UInt8} : ((T.map (fun y => (x :: y.1, y.2))).map (fun y => (acc ++ y.1, y.2))) = T.map (fun y => ((acc ++ [x]) ++ y.1, y.2)) := by cases T <;> simp

set_option maxRecDepth 20000 in
set_option maxHeartbeats 1000000 in
theorem rtext_in (l : List UInt8) (hl : l.length ≤ 65536) (a0 : Nat) (ha : a0 ≤ l.length) (R : Option (List UInt8 × List UInt8)) (hR : R = textAt (l.drop a0)) (w : World) :
    Calls Tryz.prog 84 #[.string (bs l), .int .i64 a0] w fun e w' => TRes R l.length w e w' := by
  obtain ⟨i0, hi, hz0, hz1, hz2⟩ := infoB_parts infoU8
  have hsz := bs_size l
  have hgS : ∀ (j : Nat) (d : UInt8), l[j]? = some d → ∃ hj : j < (bs l).size, (bs l)[j]'hj = d := fun j d h => bs_at h
  generalize bs l = sv at *
  go_enter Tryz.func84, Tryz.ntmps84
  go_wp2
  go_loopw [1, 7] (fun k v wr => ∃ (a : Nat) (acc : List UInt8), k = .int .i64 a ∧ a ≤ l.length ∧ wr.ownsRow w.heap.size 5 1 v acc.length (Lib.byteCells acc) ∧ R = (textAt (l.drop a)).map (fun y => (acc ++ y.1, y.2)) ∧ acc.length ≤ a ∧ Below w.heap.size w wr) (fun k _ _ => l.length - (intOf k).toNat)
  case atStart => exact ⟨a0, [], rfl, ha, World.ownsRow_nil _ _ _ _, by rw [hR]; cases textAt (l.drop a0) <;> simp, by simp, Below.refl _ _⟩
  case round =>
    obtain ⟨a, acc, rfl, hal, hrow, hT, hacc, hB⟩ := hrel
    clear hR
    have hsB := hB.size
    by_cases hlt : a < l.length
    · have hlt' : (a : Int) < (l.length : Int) := by omega
      have hdr : l.drop a = l[a] :: l.drop (a + 1) := List.drop_eq_getElem_cons hlt
      obtain ⟨hja, hca⟩ := hgS a l[a] (by simp)
      rw [hdr] at hT
      clear hdr
      generalize l[a] = c at *
      by_cases h10 : c.toNat = 10
      · have hq : ((c.toNat : Nat) : Int) = 10 := by omega
        have hc := eq10.2 h10
        subst hc
        have HT : Hid _ := hT
        clear hT hgS h10
        go_wp2
        (try simp only [Exit.inBlock, Exit.then])
        refine bodyPost_ret (results_tmp3 (by rfl) _ _ _) (by rfl) ?_
        refine ⟨⟨#[]⟩, _, false, rfl, hB, ?_⟩
        rw [HT.out]
        rw [textAt_10]; rfl
      · have hq : ¬ (((c.toNat : Nat) : Int) = 10) := by omega
        have h10' : c ≠ 10 := fun e => h10 (eq10.1 e)
        by_cases h34 : c.toNat = 34
        · have hq2 : ((c.toNat : Nat) : Int) = 34 := by omega
          have hc := eq34.2 h34
          rw [hc, textAt_34] at hT
          have HT : Hid _ := hT
          have hcv := tback_bytes hrow
          obtain ⟨p, cp, rfl, -⟩ := row_form hrow
          clear hT hgS h34 hc h10 h10'
          go_wp2
          (try simp only [Exit.inBlock, Exit.then])
          refine bodyPost_ret (results_tmp3 (by rfl) _ _ _) (by rfl) ?_
          refine ⟨bs acc, ((a + 1 : Nat) : Int), decide (acc.length ≤ 4096), ?_, hB, ?_⟩
          · have e : decide ((acc.length : Int) ≤ 4096) = decide (acc.length ≤ 4096) := by
              rw [Bool.eq_iff_iff]; simp; omega
            show Ending.returned (.tuple #[.string (bs acc), .int .i64 ((a : Int) + 1), .bool (decide ((acc.length : Int) ≤ 4096))]) = _
            rw [e]
            rfl
          · rw [HT.out]
            refine ⟨by simp, ?_, by simp⟩
            simp
            omega
        · have hq2 : ¬ (((c.toNat : Nat) : Int) = 34) := by omega
          have h34' : c ≠ 34 := fun e => h34 (eq34.1 e)
          by_cases h92 : c.toNat = 92
          · have hq3 : ((c.toNat : Nat) : Int) = 92 := by omega
            have hc := eq92.2 h92
            rw [hc] at hT
            by_cases hend : a + 1 = l.length
            · have hq4 : (a : Int) + 1 = (l.length : Int) := by omega
              rw [List.drop_eq_nil_of_le (by omega)] at hT
              have HT : Hid _ := hT
              clear hT hgS h10 h10' h34 h34' h92 hc hend
              go_wp2
              (try simp only [Exit.inBlock, Exit.then])
              refine bodyPost_ret (results_tmp3 (by rfl) _ _ _) (by rfl) ?_
              refine ⟨⟨#[]⟩, _, false, rfl, hB, ?_⟩
              rw [HT.out]
              simp [textAt]
            · have hq4 : ¬ ((a : Int) + 1 = (l.length : Int)) := by omega
              have hlt2 : a + 1 < l.length := by omega
              have hdr : l.drop (a + 1) = l[a + 1] :: l.drop (a + 1 + 1) := List.drop_eq_getElem_cons hlt2
              obtain ⟨hjb, hcb⟩ := hgS (a + 1) l[a + 1] (by simp)
              rw [hdr] at hT
              clear hdr
              generalize l[a + 1] = d at *
              have hlt3 : (a : Int) + 1 < (l.length : Int) := by omega
              by_cases hd34 : d.toNat = 34
              · have hr1 : ((d.toNat : Nat) : Int) = 34 := by omega
                have hd := eq34.2 hd34
                rw [hd] at hT
                have HT : Hid _ := hT
                clear hT hgS h10 h10' h34 h34' h92 hc hend hd34 hd
                go_wp2_with (first
                  | (at_builtin; (refine wpList_append_own _ rfl _ _ 220 rfl w.heap.size 5 i0 (.int .u8 0) 1 1 Tryz.underlying220 hi hz0 hz1 hz2 rfl (by decide) _ acc.length (Lib.byteCells acc) rfl (hrow.alloc _) ⟨wr.heap.size, 0, none⟩ 1 1 [.int .u8 34] rfl rfl (World.news_of_block (cs := #[.int .u8 34]) (t := 5) (fr := (0, 0)) (heap_alloc_new wr _)) (by simp [Value.oneCell']) (by unfold maxLen; omega) (by omega) (by simp; omega) ?_); intro v2 w2 hown2 hgrow2 _))
                go_roundw
                case rel =>
                  refine ⟨a + 2, acc ++ [34], by congr 1, by omega, ?_, ?_, by simp; omega, ((below1 wr _).mono hsB |> hB.trans).trans (rbelow_grown hgrow2 (fun q e => (hrow.lt q e).1) (by simp; omega))⟩
                  · exact trow_bytes (x := [34]) (by simpa [Lib.byteCells] using hown2)
                  · rw [HT.out]; rw [← map_app]; simp [textAt]
                case measure => simp [intOf]; omega
              · have hr1 : ¬ (((d.toNat : Nat) : Int) = 34) := by omega
                have hd34' : d ≠ 34 := fun e => hd34 (eq34.1 e)
                by_cases hd92 : d.toNat = 92
                · have hr2 : ((d.toNat : Nat) : Int) = 92 := by omega
                  have hd := eq92.2 hd92
                  rw [hd] at hT
                  have HT : Hid _ := hT
                  clear hT hgS h10 h10' h34 h34' h92 hc hend hd34 hd34' hd92 hd
                  go_wp2_with (first
                    | (at_builtin; (refine wpList_append_own _ rfl _ _ 220 rfl w.heap.size 5 i0 (.int .u8 0) 1 1 Tryz.underlying220 hi hz0 hz1 hz2 rfl (by decide) _ acc.length (Lib.byteCells acc) rfl (hrow.alloc _) ⟨wr.heap.size, 0, none⟩ 1 1 [.int .u8 92] rfl rfl (World.news_of_block (cs := #[.int .u8 92]) (t := 5) (fr := (0, 0)) (heap_alloc_new wr _)) (by simp [Value.oneCell']) (by unfold maxLen; omega) (by omega) (by simp; omega) ?_); intro v2 w2 hown2 hgrow2 _))
                  go_roundw
                  case rel =>
                    refine ⟨a + 2, acc ++ [92], by congr 1, by omega, ?_, ?_, by simp; omega, ((below1 wr _).mono hsB |> hB.trans).trans (rbelow_grown hgrow2 (fun q e => (hrow.lt q e).1) (by simp; omega))⟩
                    · exact trow_bytes (x := [92]) (by simpa [Lib.byteCells] using hown2)
                    · rw [HT.out]; rw [← map_app]; simp [textAt]
                  case measure => simp [intOf]; omega
                · have hr2 : ¬ (((d.toNat : Nat) : Int) = 92) := by omega
                  have hd92' : d ≠ 92 := fun e => hd92 (eq92.1 e)
                  by_cases hd110 : d.toNat = 110
                  · have hr3 : ((d.toNat : Nat) : Int) = 110 := by omega
                    have hd := eq110.2 hd110
                    rw [hd] at hT
                    have HT : Hid _ := hT
                    clear hT hgS h10 h10' h34 h34' h92 hc hend hd34 hd34' hd92 hd92' hd110 hd
                    go_wp2_with (first
                      | (at_builtin; (refine wpList_append_own _ rfl _ _ 220 rfl w.heap.size 5 i0 (.int .u8 0) 1 1 Tryz.underlying220 hi hz0 hz1 hz2 rfl (by decide) _ acc.length (Lib.byteCells acc) rfl (hrow.alloc _) ⟨wr.heap.size, 0, none⟩ 1 1 [.int .u8 10] rfl rfl (World.news_of_block (cs := #[.int .u8 10]) (t := 5) (fr := (0, 0)) (heap_alloc_new wr _)) (by simp [Value.oneCell']) (by unfold maxLen; omega) (by omega) (by simp; omega) ?_); intro v2 w2 hown2 hgrow2 _))
                    go_roundw
                    case rel =>
                      refine ⟨a + 2, acc ++ [10], by congr 1, by omega, ?_, ?_, by simp; omega, ((below1 wr _).mono hsB |> hB.trans).trans (rbelow_grown hgrow2 (fun q e => (hrow.lt q e).1) (by simp; omega))⟩
                      · exact trow_bytes (x := [10]) (by simpa [Lib.byteCells] using hown2)
                      · rw [HT.out]; rw [← map_app]; simp [textAt]
                    case measure => simp [intOf]; omega
                  · have hr3 : ¬ (((d.toNat : Nat) : Int) = 110) := by omega
                    have hd110' : d ≠ 110 := fun e => hd110 (eq110.1 e)
                    have hno : textAt (92 :: d :: l.drop (a + 1 + 1)) = none := by simp [textAt, hd34', hd92', hd110']
                    rw [hno] at hT
                    have HT : Hid _ := hT
                    clear hT hgS h10 h10' h34 h34' h92 hc hend hd34 hd34' hd92 hd92' hd110 hd110' hno
                    go_wp2
                    (try simp only [Exit.inBlock, Exit.then])
                    refine bodyPost_ret (results_tmp3 (by rfl) _ _ _) (by rfl) ?_
                    refine ⟨⟨#[]⟩, _, false, rfl, hB, ?_⟩
                    rw [HT.out]
                    rfl
          · have hq3 : ¬ (((c.toNat : Nat) : Int) = 92) := by omega
            have h92' : c ≠ 92 := fun e => h92 (eq92.1 e)
            rw [textAt_plain h10' h34' h92', map_app] at hT
            have HT : Hid _ := hT
            clear hT hgS h10 h10' h34 h34' h92 h92'
            go_wp2_with (first
              | (at_builtin; (refine wpList_append_own _ rfl _ _ 220 rfl w.heap.size 5 i0 (.int .u8 0) 1 1 Tryz.underlying220 hi hz0 hz1 hz2 rfl (by decide) _ acc.length (Lib.byteCells acc) rfl (hrow.alloc _) ⟨wr.heap.size, 0, none⟩ 1 1 [.int .u8 c.toNat] rfl rfl (World.news_of_block (cs := #[.int .u8 c.toNat]) (t := 5) (fr := (0, 0)) (heap_alloc_new wr _)) (by simp [Value.oneCell']) (by unfold maxLen; omega) (by omega) (by simp; omega) ?_); intro v2 w2 hown2 hgrow2 _))
            go_roundw
            case rel =>
              refine ⟨a + 1, acc ++ [c], by congr 1, by omega, ?_, ?_, by simp; omega, ((below1 wr _).mono hsB |> hB.trans).trans (rbelow_grown hgrow2 (fun q e => (hrow.lt q e).1) (by simp; omega))⟩
              · exact trow_bytes (x := [c]) (by simpa [Lib.byteCells] using hown2)
              · rw [HT.out]; done
            case measure => simp [intOf]; omega
    · have hlt' : ¬ ((a : Int) < (l.length : Int)) := by omega
      rw [List.drop_eq_nil_of_le (by omega)] at hT
      have HT : Hid _ := hT
      clear hT hgS
      go_wp2
      (try simp only [Exit.inBlock, Exit.then])
      refine bodyPost_ret (results_tmp3 (by rfl) _ _ _) (by rfl) ?_
      refine ⟨⟨#[]⟩, _, false, rfl, hB, ?_⟩
      rw [HT.out]
      rfl

end Go.Proofs.YtpbempnenjfjdaaGreatDoor
