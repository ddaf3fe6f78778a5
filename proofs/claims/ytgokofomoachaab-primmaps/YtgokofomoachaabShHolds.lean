/- show's holds: may the values of an object be in it? -/
import Derived.Test.YtgokofomoachaabShDiffer
namespace Go.Proofs.Ytgokofomoachaab
set_option linter.unusedVariables false
set_option linter.unusedSimpArgs false
open Go.RowKit

variable {w : World}

theorem mayBe_in {w0 : World} {bt bM K c : Nat} {vt : Value} {t : Tr} {p : Option Addr} {S : List Om} (hs : IsSt w0 p S) (hl : S.length ≤ maxLen) (hB : Below w0.heap.size w0 w) (ht : IsTo w0.heap.size bt bM (.slice p S.length c) vt K t w) (hK : K + 1 ≤ 1099511627776) (v : Vl) (b : Bool) (hb : b = true ↔ mayP S v) :
    Calls Try.prog 65 #[.agg #[.pointer (some ⟨bt, 0, none⟩)], .agg #[.int .u8 v.k, .int .i64 v.n]] w fun e w' => e = .returned (.bool b) ∧ ∃ vt', IsTo w0.heap.size bt bM (.slice p S.length c) vt' (K + 1) (meetL S t [v]) w' ∧ TStep bt bM vt w vt' w' := by
  by_cases hk : 3 ≤ v.k
  · exact mayBe_high hs hl hB ht hK v hk b hb
  · obtain ⟨k, n⟩ := v
    dsimp only at hk
    refine (mayBe_low (bt := bt) S k n (by omega) b hb).mono ?_
    rintro e w' ⟨rfl, hB'⟩
    refine ⟨rfl, vt, ?_, TStep.of_below hB'⟩
    have e2 : meetL S t [⟨k, n⟩] = t := by unfold meetL; simp [meet1, lead_low (S := S) (n := n) (show k < 3 by omega)]
    rw [e2]
    exact (ht.below hB').more (by omega)

/-- May the values of an object be in it, and have their objects their form? -/
def holdP (S : List Om) (o : Om) : Prop := (∀ v ∈ o.l, mayP S v ∧ (v.k = 7 ↔ o.k = 6)) ∧ (o.k = 5 → keysP S o.l)

set_option maxRecDepth 20000 in
set_option maxHeartbeats 4000000 in
theorem holds_in {w0 : World} {bt bM K c : Nat} {vt : Value} {t : Tr} {p qo : Option Addr} {S : List Om} (hs : IsSt w0 p S) (hl : S.length ≤ maxLen) (hstr : ∀ o ∈ S, o.s.size ≤ 1048576) (hB : Below w0.heap.size w0 w) (ht : IsTo w0.heap.size bt bM (.slice p S.length c) vt K t w) (o : Om) (co : Nat) (hv : Vals w0 qo o.l) (hK : K + o.l.length ≤ 1099511627776) (hll : o.l.length ≤ 1048576) (hfit : ∀ v ∈ o.l, v.fits) (hform : formP o) (b : Bool) (hb : b = true ↔ holdP S o) :
    Calls Try.prog 67 #[.agg #[.pointer (some ⟨bt, 0, none⟩)], objV o qo co] w fun e w' => e = .returned (.bool b) ∧ Below w0.heap.size w w' ∧ (b = true → ∃ vt', IsTo w0.heap.size bt bM (.slice p S.length c) vt' (K + o.l.length) (meetL S t o.l) w') := by
  unfold objV
  have hbt := ht.lt
  have hbM := ht.cnt.lt
  have hvl : ∀ k, vt.ownBlock = some k → w.heap.size ≤ k → False := fun k e h => by have := (ht.todo.lt k e).2; omega
  have e0 := (Below.heap_alloc (w.alloc (.cells #[.pointer (some ⟨bt, 0, none⟩)] 102)) (.cells #[.int .u8 o.k, .string o.s, .slice qo o.l.length co, .int .i64 o.room, .int .i64 o.fn] 46) w.heap.size (by simp)).trans (heap_alloc_new w (.cells #[.pointer (some ⟨bt, 0, none⟩)] 102))
  have e1 := heap_two w (.cells #[.pointer (some ⟨bt, 0, none⟩)] 102) (.cells #[.int .u8 o.k, .string o.s, .slice qo o.l.length co, .int .i64 o.room, .int .i64 o.fn] 46)
  have hB2 := below2' w (.cells #[.pointer (some ⟨bt, 0, none⟩)] 102) (.cells #[.int .u8 o.k, .string o.s, .slice qo o.l.length co, .int .i64 o.room, .int .i64 o.fn] 46)
  have hsz : ((w.alloc (.cells #[.pointer (some ⟨bt, 0, none⟩)] 102)).alloc (.cells #[.int .u8 o.k, .string o.s, .slice qo o.l.length co, .int .i64 o.room, .int .i64 o.fn] 46)).heap.size = w.heap.size + 2 := by simp
  have ht2 := ht.below hB2
  have hBw := hB.trans (hB2.mono hB.size)
  have hw0 := hB.size
  go_enter Try.func67, Try.ntmps67
  go_wp2
  generalize hWA : (w.alloc (.cells #[.pointer (some ⟨bt, 0, none⟩)] 102)).alloc (.cells #[.int .u8 o.k, .string o.s, .slice qo o.l.length co, .int .i64 o.room, .int .i64 o.fn] 46) = WA at *
  clear hWA
  go_loopw [10] (fun k wr => ∃ (pre rest : List Vl) (vt1 : Value), k = .int .i64 pre.length ∧ Hid (o.l = pre ++ rest) ∧ Hid (IsTo w0.heap.size bt bM (.slice p S.length c) vt1 (K + pre.length) (meetL S t pre) wr) ∧ Hid (TStep bt bM vt WA vt1 wr) ∧ Hid (∀ v ∈ pre, mayP S v ∧ (v.k = 7 ↔ o.k = 6))) (fun k _ => o.l.length - (intOf k).toNat)
  case atStart => exact ⟨[], o.l, vt, rfl, rfl, ht2, TStep.refl _ _ _ _, fun v hv => by cases hv⟩
  case round =>
    obtain ⟨pre, rest, vt1, rfl, HR, HT, HS, HM⟩ := hrel
    have k0 := (HS.out.block w.heap.size (by omega) (by omega) (by omega) (by intro e; exact hvl _ e.symm (by omega))).trans e0
    have k1 := (HS.out.block (w.heap.size + 1) (by omega) (by omega) (by omega) (by intro e; exact hvl _ e.symm (by omega))).trans e1
    have hBr : Below w0.heap.size w0 wr := hBw.trans (ht2.below0 HS.out)
    have hszr : w.heap.size + 2 ≤ wr.heap.size := by have := HS.out.size; omega
    have hBwr : Below w0.heap.size w wr := (hB2.mono hw0).trans (ht2.below0 HS.out)
    obtain ⟨t0, -⟩ := cell_row1 k0
    obtain ⟨⟨o0, o1, o2, o3, o4⟩, -⟩ := cell_row5 k1
    cases rest with
    | nil =>
      have hR' : o.l = pre := by simpa using HR.out
      have hq : ¬ ((pre.length : Int) < (o.l.length : Int)) := by rw [hR']; omega
      have hIs : IsTo w0.heap.size bt bM (.slice p S.length c) vt1 (K + o.l.length) (meetL S t o.l) wr := by rw [hR']; exact HT.out
      have hall : ∀ v ∈ o.l, mayP S v ∧ (v.k = 7 ↔ o.k = 6) := by rw [hR']; exact HM.out
      clear hR'
      by_cases h5 : o.k = 5
      · obtain ⟨bk, hbk⟩ := b_of (keysP S o.l)
        have hbk' : b = bk := by
          cases bk with
          | true => exact b_true hb ⟨hall, fun _ => hbk.1 rfl⟩
          | false => exact b_false hb (fun h => by have := hbk.2 (h.2 h5); cases this)
        subst hbk'
        have HD := differ_in (cq := co) hs hl hstr hv hBr hIs.blk hll (by have := (hform.2.2.1 h5).1; omega) (fun v hv => ⟨(hall v hv).1.1, hfit v hv⟩) b hbk
        have HF : Hid _ := And.intro hIs hBwr
        rw [h5] at o0
        clear hIs hall hb hbk h5
        go_wp2_with (first
          | (go_at_call 78; refine HD.mono ?_; clear HD; rintro e w2 ⟨rfl, hB3⟩))
        go_ret
        exact ⟨rfl, HF.out.2.trans (hB3.mono hBr.size), fun _ => ⟨vt1, HF.out.1.below hB3⟩⟩
      · have g5 : ((o.k : Int) == 5) = false := by have : ¬ ((o.k : Int) = 5) := by omega
                                                   simpa using this
        have hbt' := b_true hb ⟨hall, fun h => absurd h h5⟩
        subst hbt'
        have HF : Hid _ := And.intro hIs hBwr
        clear hIs hall hb
        go_wp2
        go_ret
        exact ⟨rfl, HF.out.2, vt1, HF.out.1⟩
    | cons v rest =>
      have hR := HR.out
      have hvm : v ∈ o.l := by rw [hR]; simp
      have hlR : pre.length < o.l.length := by rw [hR]; simp
      have hlR' : (pre.length : Int) < (o.l.length : Int) := by omega
      obtain ⟨b0, off, rfl, c0, c1⟩ := (hv.below hBr) pre.length v (by rw [hR]; simp)
      have e2 : (((pre ++ [v]).length : Nat) : Int) = pre.length + 1 := by simp
      clear hR
      have hA := below1 wr (.cells #[.int .u8 v.k, .int .i64 v.n] 28)
      have hA1 := heap_alloc_new wr (.cells #[.int .u8 v.k, .int .i64 v.n] 28)
      have hkA := (Below.heap_alloc wr (.cells #[.int .u8 v.k, .int .i64 v.n] 28) _ (show w.heap.size < wr.heap.size by omega)).trans k0
      have hkB := (Below.heap_alloc wr (.cells #[.int .u8 v.k, .int .i64 v.n] 28) _ (show w.heap.size + 1 < wr.heap.size by omega)).trans k1
      obtain ⟨t0', -⟩ := cell_row1 hkA
      obtain ⟨⟨o0', o1', o2', o3', o4'⟩, -⟩ := cell_row5 hkB
      have fls : ∀ (x m : Nat), x ≠ m → ((x : Int) == (m : Int)) = false := fun x m h => by have : ¬ ((x : Int) = (m : Int)) := by omega
                                                                                            simpa using this
      by_cases h7 : v.k = 7
      · have q1 : ((v.k : Int) == 7) = true := by simp [h7]
        have H7 : Hid _ := h7
        clear h7
        by_cases h6 : o.k = 6
        · have q2 : ((o.k : Int) == 6) = true := by simp [h6]
          have H6 : Hid _ := h6
          clear fls h6
          obtain ⟨bm, hbm⟩ := b_of (mayP S v)
          have HY := mayBe_in (c := c) hs hl (hBr.trans (hA.mono hBr.size)) (HT.out.below hA) (by omega) v bm hbm
          cases bm with
          | false =>
            have hbf := b_false hb (fun h => by have := hbm.2 (h.1 v hvm).1; cases this)
            subst hbf
            clear hb hbm
            go_wp2_with (first
              | (go_at_call 65; refine HY.mono ?_; clear HY; rintro e w2 ⟨rfl, vt2, hto2, hS2⟩))
            go_ret
            exact ⟨rfl, hBwr.trans ((hA.mono hBr.size).trans ((HT.out.below hA).below0 hS2)), fun h => by cases h⟩
          | true =>
            have hmy := hbm.1 rfl
            clear hbm
            go_wp2_with (first
              | (go_at_call 65; refine HY.mono ?_; clear HY; rintro e w2 ⟨rfl, vt2, hto2, hS2⟩))
            go_roundw
            case rel =>
              refine ⟨pre ++ [v], rest, vt2, by rw [e2], hid (by have := HR.out; simpa using this), ?_, hid (HS.out.trans ((TStep.of_below hA).trans hS2)), ?_⟩
              · have e3 : meetL S t (pre ++ [v]) = meetL S (meetL S t pre) [v] := by unfold meetL; rw [List.foldl_append]
                refine hid ?_
                rw [e3, List.length_append, ← Nat.add_assoc]
                exact hto2
              · refine hid ?_
                intro u hu
                rcases List.mem_append.1 hu with hu | hu
                · exact HM.out u hu
                · simp at hu; subst hu; exact ⟨hmy, ⟨fun _ => H6.out, fun _ => H7.out⟩⟩
            case measure => simp [intOf]; omega
        · have q2 : ((o.k : Int) == 6) = false := fls _ 6 h6
          clear fls
          have hbf := b_false hb (fun h => h6 ((h.1 v hvm).2.1 H7.out))
          subst hbf
          clear hb
          go_wp2
          go_ret
          exact ⟨rfl, hBwr.trans (hA.mono hBr.size), fun h => by cases h⟩
      · have q1 : ((v.k : Int) == 7) = false := fls _ 7 h7
        by_cases h6 : o.k = 6
        · have q2 : ((o.k : Int) == 6) = true := by simp [h6]
          clear fls
          have hbf := b_false hb (fun h => h7 ((h.1 v hvm).2.2 h6))
          clear h6
          subst hbf
          clear hb
          go_wp2
          go_ret
          exact ⟨rfl, hBwr.trans (hA.mono hBr.size), fun h => by cases h⟩
        · have q2 : ((o.k : Int) == 6) = false := fls _ 6 h6
          clear fls
          obtain ⟨bm, hbm⟩ := b_of (mayP S v)
          have HY := mayBe_in (c := c) hs hl (hBr.trans (hA.mono hBr.size)) (HT.out.below hA) (by omega) v bm hbm
          cases bm with
          | false =>
            have hbf := b_false hb (fun h => by have := hbm.2 (h.1 v hvm).1; cases this)
            subst hbf
            clear hb hbm
            go_wp2_with (first
              | (go_at_call 65; refine HY.mono ?_; clear HY; rintro e w2 ⟨rfl, vt2, hto2, hS2⟩))
            go_ret
            exact ⟨rfl, hBwr.trans ((hA.mono hBr.size).trans ((HT.out.below hA).below0 hS2)), fun h => by cases h⟩
          | true =>
            have hmy := hbm.1 rfl
            clear hbm
            go_wp2_with (first
              | (go_at_call 65; refine HY.mono ?_; clear HY; rintro e w2 ⟨rfl, vt2, hto2, hS2⟩))
            go_roundw
            case rel =>
              refine ⟨pre ++ [v], rest, vt2, by rw [e2], hid (by have := HR.out; simpa using this), ?_, hid (HS.out.trans ((TStep.of_below hA).trans hS2)), ?_⟩
              · have e3 : meetL S t (pre ++ [v]) = meetL S (meetL S t pre) [v] := by unfold meetL; rw [List.foldl_append]
                refine hid ?_
                rw [e3, List.length_append, ← Nat.add_assoc]
                exact hto2
              · refine hid ?_
                intro u hu
                rcases List.mem_append.1 hu with hu | hu
                · exact HM.out u hu
                · simp at hu; subst hu; exact ⟨hmy, ⟨fun a => absurd a h7, fun a => absurd a h6⟩⟩
            case measure => simp [intOf]; omega

end Go.Proofs.Ytgokofomoachaab
