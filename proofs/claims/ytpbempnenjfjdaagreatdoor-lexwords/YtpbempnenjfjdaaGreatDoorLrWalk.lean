/- The document's words, walked. -/
import Derived.Test.YtpbempnenjfjdaaGreatDoorLrWords
namespace Go.Proofs.YtpbempnenjfjdaaGreatDoor
set_option linter.unusedVariables false
set_option linter.unusedSimpArgs false
open Go.RowKit

variable {w : World}

theorem isB_false {c : UInt8} (h1 : c.toNat ≠ 10) (h2 : c.toNat ≠ 32) (h3 : c.toNat ≠ 9) : isB c = false := by simp [isB, h1, h2, h3]

set_option maxRecDepth 20000 in
set_option maxHeartbeats 4000000 in
theorem rwords_in (l : List UInt8) (hl : l.length ≤ 65536) :
    Calls Tryz.prog 5 #[.string (bs l)] w fun e w' => ∃ rs, Lex l 0 rs ∧ Below w.heap.size w w' ∧ WsRes w.heap.size rs e w' := by
  obtain ⟨i0, hi0, hz0, hz1, hz2⟩ := infoB_parts infoW4
  have hsz := bs_size l
  have hgS : ∀ (j : Nat) (d : UInt8), l[j]? = some d → ∃ hj : j < (bs l).size, (bs l)[j]'hj = d := fun j d h => bs_at h
  have HW := fun (a : Nat) (c : UInt8) (r : List UInt8) (hd : l.drop a = c :: r) (W : World) => rword_in l hl a c r hd _ rfl W
  have hql : ¬ ((65536 : Int) < (l.length : Int)) := by omega
  generalize bs l = sv at *
  go_enter Tryz.func5, Tryz.ntmps5
  go_wp2
  go_loopw [5, 6, 7] (fun v n k wr => ∃ (acc : List Wd) (a ln : Nat), n = .int .i64 ln ∧ k = .int .i64 a ∧ a ≤ l.length ∧ wr.ownsRow w.heap.size 56 4 v acc.length (wcells acc) ∧ (∀ rs, Lex (l.drop a) ln rs → Lex l 0 (rs.pre acc)) ∧ ln ≤ a ∧ acc.length ≤ a ∧ Below w.heap.size w wr) (fun _ _ k _ => l.length - (intOf k).toNat)
  case atStart => exact ⟨[], 0, 0, rfl, rfl, by omega, World.ownsRow_nil _ _ _ _, fun rs h => by rw [Rs.pre_nil]; simpa using h, by omega, by simp, Below.refl _ _⟩
  case round =>
    obtain ⟨acc, a, ln, rfl, rfl, hal, hrow, hlex, hln, hacc, hB⟩ := hrel
    have hsB := hB.size
    by_cases hlt : a < l.length
    · have hlt' : (a : Int) < (l.length : Int) := by omega
      have hdr : l.drop a = l[a] :: l.drop (a + 1) := List.drop_eq_getElem_cons hlt
      obtain ⟨hja, hca⟩ := hgS a l[a] (by simp)
      have HW1 := HW a l[a] (l.drop (a + 1)) hdr
      rw [hdr] at hlex
      have HDR : Hid _ := hdr
      clear hdr HW
      generalize hlc : l[a] = c at *
      by_cases h10 : c.toNat = 10
      · have hq : ((c.toNat : Nat) : Int) = 10 := by omega
        have hc := eq10.2 h10
        have HL : Hid _ := hlex
        clear hlex hgS HW1 h10
        go_wp2
        go_roundw
        case rel =>
          refine ⟨acc, a + 1, ln + 1, by congr 1, by congr 1, by omega, hrow, fun rs h => ?_, by omega, by omega, hB⟩
          refine HL.out rs ?_
          rw [hc]
          exact h.nl
        case measure => simp [intOf]; omega
      · have hq : ¬ (((c.toNat : Nat) : Int) = 10) := by omega
        have hc10 : c ≠ 10 := fun e => h10 (eq10.1 e)
        by_cases hbl : c.toNat = 32 ∨ c.toNat = 9
        · have hb : isB c = true := by simp [isB]; omega
          have hor : ((c.toNat : Nat) : Int) = 32 ∨ (¬ (((c.toNat : Nat) : Int) = 32) ∧ ((c.toNat : Nat) : Int) = 9) := by omega
          have HL : Hid _ := hlex
          clear hlex hgS HW1 h10 hbl
          rcases hor with hq2 | ⟨hq2, hq3⟩
          all_goals
            go_wp2
            go_roundw
            case rel =>
              refine ⟨acc, a + 1, ln, rfl, by congr 1, by omega, hrow, fun rs h => ?_, by omega, by omega, hB⟩
              exact HL.out rs (h.blank hb hc10)
            case measure => simp [intOf]; omega
        · have hq2 : ¬ (((c.toNat : Nat) : Int) = 32) := by omega
          have hq3 : ¬ (((c.toNat : Nat) : Int) = 9) := by omega
          have hb : isB c = false := isB_false h10 (by omega) (by omega)
          by_cases hrm : c.toNat = 47 ∧ (l.drop (a + 1)).head? = some 47
          · -- a remark
            have hq4 : ((c.toNat : Nat) : Int) = 47 := by have := hrm.1; omega
            have hlt2 : a + 1 < l.length := by
              have := hrm.2
              rw [List.head?_drop] at this
              exact (List.getElem?_eq_some_iff.1 this).1
            have hlt3 : (a : Int) + 1 < (l.length : Int) := by omega
            obtain ⟨hjb, hcb⟩ := hgS (a + 1) 47 (by have := hrm.2; rwa [List.head?_drop] at this)
            have hdr2 : l.drop a = 47 :: 47 :: l.drop (a + 2) := by
              rw [HDR.out, eq47.2 hrm.1, List.drop_eq_getElem_cons hlt2]
              have := hrm.2
              rw [List.head?_drop, List.getElem?_eq_getElem hlt2] at this
              rw [Option.some.inj this]
            rw [← HDR.out] at hlex
            have HL : Hid _ := And.intro hlex hdr2
            clear hlex HW1 h10 hbl hdr2 hrm hc10
            have hn47 : (((47 : UInt8).toNat : Nat) : Int) = 47 := rfl
            go_wp2
            go_loopw [7] (fun k wq => ∃ b : Nat, k = .int .i64 b ∧ a ≤ b ∧ b ≤ l.length ∧ (l.drop a).dropWhile noNl = (l.drop b).dropWhile noNl ∧ wq = wr) (fun k _ => l.length - (intOf k).toNat)
            case atStart => exact ⟨a, rfl, by omega, by omega, rfl, rfl⟩
            case round =>
              obtain ⟨b, rfl, hab, hbl, hdw, rfl⟩ := hrel
              have HD : Hid _ := hdw
              clear hdw
              by_cases hbe : b < l.length
              · have hbe' : (b : Int) < (l.length : Int) := by omega
                have hdb : l.drop b = l[b] :: l.drop (b + 1) := List.drop_eq_getElem_cons hbe
                obtain ⟨hjd, hcd⟩ := hgS b l[b] (by simp)
                have HDB : Hid _ := hdb
                clear hdb hgS
                generalize hd0 : l[b] = d at *
                have HD0 : Hid _ := hd0
                clear hd0
                by_cases hd10 : d.toNat = 10
                · have hr : ((d.toNat : Nat) : Int) = 10 := by omega
                  have hba : b ≠ a := fun e => by
                    subst e
                    have h1 := HD0.out
                    rw [hlc] at h1
                    rw [← h1] at hd10
                    omega
                  go_wp2
                  go_roundw
                  case rel =>
                    refine ⟨acc, b, ln, rfl, rfl, hbl, hrow, fun rs h => ?_, by omega, by omega, hB⟩
                    refine HL.out.1 rs ?_
                    rw [HL.out.2]
                    refine Lex.remark ?_
                    rw [← HL.out.2, HD.out, HDB.out, List.dropWhile, show noNl d = false by simp [noNl, hd10]]
                    rw [← HDB.out]
                    exact h
                  case measure => simp [intOf]; omega
                · have hr : ¬ (((d.toNat : Nat) : Int) = 10) := by omega
                  go_wp2
                  go_roundw
                  case rel =>
                    refine ⟨b + 1, by congr 1, by omega, by omega, ?_, by first | rfl | trivial⟩
                    rw [HD.out, HDB.out, List.dropWhile, show noNl d = true by simp [noNl, hd10]]
                  case measure => simp [intOf]; omega
              · have hbe' : ¬ ((b : Int) < (l.length : Int)) := by omega
                clear hgS
                go_wp2
                go_roundw
                case rel =>
                  refine ⟨acc, b, ln, rfl, rfl, hbl, hrow, fun rs h => ?_, by omega, by omega, hB⟩
                  refine HL.out.1 rs ?_
                  rw [HL.out.2]
                  refine Lex.remark ?_
                  rw [← HL.out.2, HD.out]
                  rw [List.drop_eq_nil_of_le (by omega)] at h ⊢
                  exact h
                case measure => simp [intOf]; omega
          · have hsk := skip_word (c := c) (r := l.drop (a + 1)) hb (fun h => hrm ⟨eq47.1 h.1, h.2⟩)
            have hLA : ∀ rs, LexAt (c :: l.drop (a + 1)) ln rs → Lex l 0 (rs.pre acc) := fun rs h => hlex rs (LexAt.lex (by rw [hsk]; exact h))
            have HL : Hid _ := hLA
            clear hlex hLA hsk hb hbl
            have hor : ¬ (((c.toNat : Nat) : Int) = 47) ∨ (((c.toNat : Nat) : Int) = 47 ∧ ¬ ((a : Int) + 1 < (l.length : Int))) ∨ (((c.toNat : Nat) : Int) = 47 ∧ ((a : Int) + 1 < (l.length : Int)) ∧ ∃ (d : UInt8) (hj : a + 1 < sv.size), sv[a + 1]'hj = d ∧ ¬ (((d.toNat : Nat) : Int) = 47)) := by
              by_cases h47 : c.toNat = 47
              · by_cases he : a + 1 < l.length
                · obtain ⟨hjb, hcb⟩ := hgS (a + 1) l[a + 1] (by simp)
                  refine .inr (.inr ⟨by omega, by omega, l[a + 1], hjb, hcb, fun h => hrm ⟨h47, ?_⟩⟩)
                  have e47 : l[a + 1] = 47 := eq47.2 (by omega)
                  rw [List.head?_drop, List.getElem?_eq_getElem he, e47]
                · exact .inr (.inl ⟨by omega, by omega⟩)
              · exact .inl (by omega)
            clear hgS hrm h10 hc10
            rcases hor with hq4 | ⟨hq4, hq5⟩ | ⟨hq4, hq5, d, hjd, hcd, hq6⟩
            all_goals
              go_wp2_with (first
                | (go_at_call 11; (with_reducible refine (HW1 _).mono ?_); clear HW1; rintro e w2 ⟨k, s, n, m, en, ok, rfl, hB2, hm⟩; have HM : Hid _ := hm; clear hm; refine halt_here ?_))
            all_goals first
              | (exfalso; rename_i hh; simp [hq, hq2, hq3] at hh; done)
              | skip
            all_goals
              unfold Halted
              have hst2 : Below w.heap.size w w2 := hB.trans (hB2.mono hsB)
              have hBs2 := hst2.size
              have hrow2 := row_below hrow hB2
              cases hw : wordAt (c :: l.drop (a + 1)) with
              | none =>
                have hm := HM.out
                rw [hw] at hm
                simp only at hm
                subst hm
                have HWn : Hid _ := hw
                clear hw HM
                have hz3 := heap_alloc_new w2 (.cells #[.int .u8 0, .string ⟨#[]⟩, .int .i64 0, .int .i64 0] 56)
                obtain ⟨⟨c0, c1, c2, c3⟩, f0, f1, f2, f3⟩ := cell_row4 hz3
                go_wp2
                (try simp only [Exit.inBlock, Exit.then])
                refine bodyPost_ret (results_tmp3 (by rfl) _ _ _) (by rfl) ?_
                refine ⟨.bad ln, ?_, hst2.alloc hBs2 _, rfl⟩
                have := HL.out (.bad ln) (.inr (.inl ⟨by simp, HWn.out, rfl⟩))
                simpa [Rs.pre] using this
              | some y =>
                obtain ⟨wd, z⟩ := y
                have hm := HM.out
                rw [hw] at hm
                simp only at hm
                obtain ⟨rfl, rfl, rfl, rfl, rfl, rfl⟩ := hm
                have hzl := wordAt_len hw
                have hzs := wordAt_suf hw
                rw [← HDR.out] at hzs
                have hzd := drop_suf hzs
                have hzl2 : z.length + (a + 1) ≤ l.length := by
                  simp only [List.length_cons, List.length_drop] at hzl
                  omega
                have HWs : Hid _ := And.intro hw hzd
                clear hw HM hzl hzs hzd
                have hw3 := heap_two w2 (.cells #[.int .u8 wd.k, .string (bs wd.s), .int .i64 wd.n, .int .i64 ln] 56) (.cells #[.int .u8 wd.k, .string (bs wd.s), .int .i64 wd.n, .int .i64 ln] 56)
                have hrow3 := (hrow2.alloc (.cells #[.int .u8 wd.k, .string (bs wd.s), .int .i64 wd.n, .int .i64 ln] 56)).alloc (.cells #[.int .u8 wd.k, .string (bs wd.s), .int .i64 wd.n, .int .i64 ln] 56)
                have hB3 : Below w.heap.size w ((w2.alloc (.cells #[.int .u8 wd.k, .string (bs wd.s), .int .i64 wd.n, .int .i64 ln] 56)).alloc (.cells #[.int .u8 wd.k, .string (bs wd.s), .int .i64 wd.n, .int .i64 ln] 56)) := (hst2.alloc hBs2 _).alloc (by simp; omega) _
                have hal2 : acc.length ≤ 65536 := by omega
                generalize hen : l.length - z.length = en at *
                have henl : en + z.length = l.length := by omega
                clear hrow hrow2
                go_wp2_with (first
                  | (at_builtin; (refine wpList_append_own _ rfl _ _ 22 rfl w.heap.size 56 i0 (.agg #[.int .u8 0, .string ⟨#[]⟩, .int .i64 0, .int .i64 0]) 4 40 Tryz.underlying22 hi0 hz0 hz1 hz2 rfl (by decide) _ acc.length (wcells acc) rfl hrow3 ⟨w2.heap.size + 1, 0, none⟩ 1 1 [.int .u8 wd.k, .string (bs wd.s), .int .i64 wd.n, .int .i64 ln] rfl rfl (World.news_of_block (cs := #[.int .u8 wd.k, .string (bs wd.s), .int .i64 wd.n, .int .i64 ln]) (t := 56) (fr := (0, 0)) hw3) (by simp [Value.oneCell']) (by unfold maxLen; omega) (by omega) (by simp; omega) ?_); intro v4 w4 hown4 hgrow4 _; have hB4 : Below w.heap.size w w4 := hB3.trans (rbelow_grown hgrow4 (fun q e => (hrow3.lt q e).1) (by simp; omega)); clear hB3 hgrow4 hrow3 hw3))
                go_roundw
                case rel =>
                  obtain ⟨hw, hzd⟩ := HWs.out
                  have hlen : (acc ++ [{ wd with line := ln }]).length = acc.length + 1 := by simp
                  refine ⟨acc ++ [{ wd with line := ln }], en, ln, rfl, rfl, by omega, ?_, fun rs h => ?_, by omega, by rw [hlen]; omega, hB4⟩
                  · rw [hlen, wcells_app]
                    simpa [wcells, wcell] using hown4
                  · rw [hzd] at h
                    have := HL.out (rs.cons { wd with line := ln }) (.inr (.inr ⟨wd, z, rs, hw, h, rfl⟩))
                    rw [Rs.pre_cons] at this
                    exact this
                case measure => simp [intOf]; omega
    · have hlt' : ¬ ((a : Int) < (l.length : Int)) := by omega
      obtain ⟨p, cp, rfl, -⟩ := row_form hrow
      have HL : Hid _ := hlex
      clear hlex hgS HW
      go_wp2
      refine bodyPost_ret (results_tmp3 (by rfl) _ _ _) (by rfl) ?_
      refine ⟨.ok acc, ?_, hB, _, rfl, hrow⟩
      have := HL.out (.ok []) (by rw [List.drop_eq_nil_of_le (by omega)]; exact .done (n := 0) rfl)
      simpa [Rs.pre] using this

end Go.Proofs.YtpbempnenjfjdaaGreatDoor
