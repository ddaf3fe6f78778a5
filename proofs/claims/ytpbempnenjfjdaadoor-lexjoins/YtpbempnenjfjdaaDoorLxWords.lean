/- The words of a text: the program's answer. -/
import Derived.Test.YtpbempnenjfjdaaDoorLxWord
import Derived.Deep.AppendLies
namespace Go.Proofs.YtpbempnenjfjdaaDoor
set_option linter.unusedVariables false
set_option linter.unusedSimpArgs false
open Go.RowKit

variable {w : World}

theorem textAt_len {r s z : List UInt8} (h : textAt r = some (s, z)) : z.length < r.length := by
  induction r using textAt.induct generalizing s z with
  | case1 => simp [textAt] at h
  | case2 => simp [textAt] at h; simp [h.2]
  | case3 c hc => simp [textAt, hc] at h
  | case4 d r => simp [textAt] at h
  | case5 d r h1 => simp [textAt] at h; rw [← h.2]; simp
  | case6 d r hd h1 h2 ih =>
    simp only [textAt] at h
    simp only [if_neg h1, if_neg h2, if_pos hd, if_true, Option.map_eq_some_iff] at h
    obtain ⟨⟨a, b⟩, hx, he⟩ := h
    cases he
    have := ih hx
    simp; omega
  | case7 r h0 h1 h2 ih =>
    simp only [textAt] at h
    simp only [if_neg h1, if_neg h2, if_neg h0, if_true, Option.map_eq_some_iff] at h
    obtain ⟨⟨a, b⟩, hx, he⟩ := h
    cases he
    have := ih hx
    simp; omega
  | case8 d r h3 h4 h1 h2 =>
    simp only [textAt] at h
    simp only [if_neg h1, if_neg h2, if_neg h3, if_neg h4, if_true] at h
    cases h
  | case9 c d r h1 h2 h3 ih =>
    rw [textAt_plain h1 h2 h3, Option.map_eq_some_iff] at h
    obtain ⟨⟨a, b⟩, hx, he⟩ := h
    cases he
    have := ih hx
    simp at this ⊢; omega

theorem dw_lt {p : UInt8 → Bool} {c : UInt8} {r : List UInt8} (h : p c = true) : ((c :: r).dropWhile p).length < (c :: r).length := by
  have := dw_len p r
  simp only [List.dropWhile, h, List.length_cons]
  omega

theorem sigs_pos : ∀ p ∈ sigs, 1 ≤ p.length := by decide

theorem wordAt_len {x z : List UInt8} {wd : Wd} (h : wordAt x = some (wd, z)) : z.length < x.length := by
  cases x with
  | nil => simp [wordAt] at h
  | cons c r =>
    cases hL : isL c with
    | true =>
      rw [wordAt_name hL] at h
      split at h
      · cases h; exact dw_lt (by simp [isN, hL])
      · cases h
    | false =>
      cases hD : isD c with
      | true =>
        rw [wordAt_num hL hD, Option.map_eq_some_iff] at h
        obtain ⟨v, _, he⟩ := h
        cases he
        exact dw_lt (by simp [isN, hD])
      | false =>
        by_cases h34 : c = 34
        · subst h34
          rw [wordAt_text] at h
          unfold textR at h
          split at h
          · rename_i s y hx
            split at h
            · cases h
              have := textAt_len hx
              simp; omega
            · cases h
          · cases h
        · rw [wordAt_sign hL hD h34, Option.map_eq_some_iff] at h
          obtain ⟨⟨p, y⟩, hp, he⟩ := h
          unfold signAt at hp
          rw [Option.map_eq_some_iff] at hp
          obtain ⟨q, hq, he2⟩ := hp
          cases he2
          cases he
          have h1 := sigs_pos p (List.mem_of_find?_eq_some hq)
          rw [List.length_drop]
          simp; omega

/-- From where what is idle was passed. -/
def LexAt (x : List UInt8) (ln : Nat) (rs : Rs) : Prop :=
  (x = [] ∧ rs = .ok []) ∨ (x ≠ [] ∧ wordAt x = none ∧ rs = .bad ln) ∨ ∃ wd z r, wordAt x = some (wd, z) ∧ Lex z ln r ∧ rs = r.cons { wd with line := ln }

theorem LexAt.lex {l : List UInt8} {ln : Nat} {rs : Rs} (h : LexAt (skip false l).1 (ln + (skip false l).2) rs) : Lex l ln rs := by
  rcases h with ⟨h1, rfl⟩ | ⟨h1, h2, rfl⟩ | ⟨wd, z, r, h1, h2, rfl⟩
  · exact .done (n := (skip false l).2) (by rw [← h1])
  · exact .bad rfl h1 h2
  · exact .more rfl h1 h2

/-- A row of words. -/
def wcell (x : Wd) : List Value := [.int .u8 x.k, .string (bs x.s), .int .i64 x.n, .int .i64 x.line]

def wcells (l : List Wd) : List Value := l.flatMap wcell

theorem wcells_app (a b : List Wd) : wcells (a ++ b) = wcells a ++ wcells b := by simp [wcells]

theorem infoW4 : (Tryd.prog.info? 30).map (fun i => (i.zero, i.size, i.bytes)) = some (some (.agg #[.int .u8 0, .string ⟨#[]⟩, .int .i64 0, .int .i64 0]), 4, 40) := by kernel_rfl

/-- What is answered. -/
def WsRes (n₀ : Nat) (rs : Rs) (e : Ending) (w' : World) : Prop :=
  match rs with
  | .error n => e = .returned (.tuple #[.slice none 0 0, .int .i64 n, .int .i64 4])
  | .ok ws => ∃ v, e = .returned (.tuple #[v, .int .i64 0, .int .i64 0]) ∧ w'.ownsRow n₀ 30 4 v ws.length (wcells ws)

/-- A reader stays, and a row of words, where one block of the call's own turned. -/
theorem row_rst {b n₀ : Nat} {w w' : World} {v : Value} {n : Nat} {xs : List Value} {e s : Nat} (h : w.ownsRow n₀ e s v n xs) (hr : Rst b w w') (hb : v.ownBlock ≠ some b) : w'.ownsRow n₀ e s v n xs :=
  row_kept h (fun k ek => hr.block k (h.lt k ek).2 (fun e2 => hb (by rw [ek, e2])))

set_option maxRecDepth 20000 in
set_option maxHeartbeats 1000000 in
theorem words_in (l : List UInt8) (hl : l.length ≤ 65536) (he : Errs w) (hsg : Sgn w) (h7 : 7 ≤ w.heap.size) :
    Calls Tryd.prog 6 #[.string (bs l)] w fun e w' => ∃ rs, Lex l 0 rs ∧ Below w.heap.size w w' ∧ WsRes w.heap.size rs e w' := by
  obtain ⟨i0, hi0, hz0, hz1, hz2⟩ := infoB_parts infoW4
  have hsz := bs_size l
  have hrd0 : IsRd (w.alloc (.cells #[.string (bs l), .int .i64 0] 39)) w.heap.size l 0 := heap_alloc_new w _
  have hA := below1 w (.cells #[.string (bs l), .int .i64 0] 39)
  have H1 := passIdle_in hrd0 (by omega)
  have hsk := skip_le false l
  go_enter Tryd.func6, Tryd.ntmps6
  go_wp2_with (first
    | (go_at_call 12; (with_reducible refine H1.mono ?_); clear H1; rintro e w1 ⟨rfl, hrd1, hst1⟩))
  go_loopw [5] (fun v wr => ∃ (acc : List Wd) (x : List UInt8) (ln : Nat), wr.ownsRow (w.heap.size + 1) 30 4 v acc.length (wcells acc) ∧ IsRd wr w.heap.size x ln ∧ (∀ rs, LexAt x ln rs → Lex l 0 (rs.pre acc)) ∧ ln + x.length ≤ 65536 ∧ acc.length + x.length ≤ 65536 ∧ Below w.heap.size w wr) (fun _ wr => rdLen w.heap.size wr)
  case atStart =>
    refine ⟨[], (skip false l).1, 0 + (skip false l).2, World.ownsRow_nil _ _ _ _, hrd1, fun rs h => ?_, by omega, by simp; omega, hA.trans (hst1.below (Nat.le_refl _) (by simp))⟩
    rw [Rs.pre_nil]
    exact h.lex
  case round =>
    obtain ⟨acc, x, ln, hrow, hrd, hlex, hln, hacc, hB⟩ := hrel
    have hml := rdLen_of hrd
    have hlt := hrd.lt
    have HL : Hid _ := hlex
    clear hlex
    obtain ⟨⟨c0, c1⟩, f0, f1⟩ := cell_row2 hrd
    have hBs := hB.size
    cases x with
    | nil =>
      have hie : (bs []).toList.isEmpty = true := by rw [bs_toList]; rfl
      obtain ⟨p, cp, rfl, -⟩ := row_form hrow
      go_wp2
      refine bodyPost_ret (results_tmp3 (by rfl) _ _ _) (by rfl) ?_
      refine ⟨.ok acc, ?_, hB, _, rfl, row_mono2 hrow (by omega)⟩
      have := HL.out (.ok []) (.inl ⟨rfl, rfl⟩)
      simpa [Rs.pre] using this
    | cons c r =>
      have hie : (bs (c :: r)).toList.isEmpty = false := by rw [bs_toList]; rfl
      have he1 := he.below hB h7
      have hsg1 := hsg.below hB h7
      have H2 := word_in hrd (by simp at hln ⊢; omega) he1 hsg1 h7 _ rfl
      go_wp2_with (first
        | (go_at_call 13; (with_reducible refine H2.mono ?_); clear H2; rintro e w2 ⟨k, s, n, m, ok, l', rfl, hs2, hr2, hm⟩; have HM : Hid _ := hm; clear hm; refine halt_here ?_))
      unfold Halted
      have hst2 : Below w.heap.size w w2 := hB.trans (hs2.below (Nat.le_refl _) hBs)
      have hvb : ∀ {vv : Value}, wr.ownsRow (w.heap.size + 1) 30 4 vv acc.length (wcells acc) → vv.ownBlock ≠ some w.heap.size := fun h e => by have := (h.lt _ e).1; omega
      have hrow2 := row_rst hrow hs2 (hvb hrow)
      obtain ⟨⟨d0, d1⟩, g0, g1⟩ := cell_row2 hr2
      have hBs2 := hst2.size
      have hb2 := hr2.lt
      cases hw : wordAt (c :: r) with
      | none =>
        have hm := HM.out
        rw [hw] at hm
        simp only at hm
        subst hm
        have HW : Hid _ := hw
        clear hw HM
        have hr3 := hr2.below (below1 w2 (.cells #[.int .u8 k, .string s, .int .i64 n, .int .i64 m] 30))
        obtain ⟨⟨u0, u1⟩, -⟩ := cell_row2 hr3
        go_wp2
        go_region
        all_goals
          go_wp2
          refine bodyPost_ret (results_tmp3 (by rfl) _ _ _) (by rfl) ?_
          refine ⟨.bad ln, ?_, below_drew (hst2.alloc hBs2 _), rfl⟩
          have := HL.out (.bad ln) (.inr (.inl ⟨by simp, HW.out, rfl⟩))
          simpa [Rs.pre] using this
      | some y =>
        obtain ⟨wd, z⟩ := y
        have hm := HM.out
        rw [hw] at hm
        simp only at hm
        obtain ⟨rfl, rfl, rfl, rfl, rfl, rfl⟩ := hm
        have hzl := wordAt_len hw
        have HW : Hid _ := And.intro hw hzl
        clear hw HM hzl
        have hw3 := heap_two w2 (.cells #[.int .u8 wd.k, .string (bs wd.s), .int .i64 wd.n, .int .i64 ln] 30) (.cells #[.int .u8 wd.k, .string (bs wd.s), .int .i64 wd.n, .int .i64 ln] 30)
        have hr3 := hr2.below (below2' w2 (.cells #[.int .u8 wd.k, .string (bs wd.s), .int .i64 wd.n, .int .i64 ln] 30) (.cells #[.int .u8 wd.k, .string (bs wd.s), .int .i64 wd.n, .int .i64 ln] 30))
        have hrow3 := (hrow2.alloc (.cells #[.int .u8 wd.k, .string (bs wd.s), .int .i64 wd.n, .int .i64 ln] 30)).alloc (.cells #[.int .u8 wd.k, .string (bs wd.s), .int .i64 wd.n, .int .i64 ln] 30)
        have hB3 : Below w.heap.size w ((w2.alloc (.cells #[.int .u8 wd.k, .string (bs wd.s), .int .i64 wd.n, .int .i64 ln] 30)).alloc (.cells #[.int .u8 wd.k, .string (bs wd.s), .int .i64 wd.n, .int .i64 ln] 30)) := (hst2.alloc hBs2 _).alloc (by simp; omega) _
        have hal : acc.length ≤ 65536 := by omega
        have hzz : ln + l'.length ≤ 65536 := by have h2 := HW.out.2; omega
        have hnb := hvb hrow
        have HP : ∀ (W : World), IsRd W w.heap.size l' ln → Calls Tryd.prog 12 #[.pointer (some ⟨w.heap.size, 0, none⟩)] W fun e w' => e = .returned (.tuple #[]) ∧ IsRd w' w.heap.size (skip false l').1 (ln + (skip false l').2) ∧ Rst w.heap.size W w' := fun W h => passIdle_in h (by omega)
        clear hrow hrow2 hs2 hvb
        go_wp2_with (first
          | (at_builtin; (refine wpList_append_own _ rfl _ _ 22 rfl (w.heap.size + 1) 30 i0 (.agg #[.int .u8 0, .string ⟨#[]⟩, .int .i64 0, .int .i64 0]) 4 40 Tryd.underlying22 hi0 hz0 hz1 hz2 rfl (by decide) _ acc.length (wcells acc) rfl hrow3 ⟨w2.heap.size + 1, 0, none⟩ 1 1 [.int .u8 wd.k, .string (bs wd.s), .int .i64 wd.n, .int .i64 ln] rfl rfl (World.news_of_block (cs := #[.int .u8 wd.k, .string (bs wd.s), .int .i64 wd.n, .int .i64 ln]) (t := 30) (fr := (0, 0)) hw3) (by simp [Value.oneCell']) (by unfold maxLen; omega) (by omega) (by simp; omega) ?_); intro v4 w4 hown4 hgrow4 _; have hr4 : IsRd w4 w.heap.size l' ln := (hgrow4.block w.heap.size (by simp; omega) (Ne.symm hnb)).trans hr3; have hB4 : Below w.heap.size w w4 := hB3.trans (rbelow_grown hgrow4 (fun q e => by have := (hrow3.lt q e).1; omega) (by simp; omega)); clear hr3 hB3 hgrow4 hrow3 hw3)
          | (go_at_call 12; (with_reducible refine (HP _ hr4).mono ?_); clear HP; rintro e w5 ⟨rfl, hr5, hs5⟩))
        go_roundw
        case rel =>
          obtain ⟨hw, hzl⟩ := HW.out
          have hsk2 := skip_le false l'
          have hlen : (acc ++ [{ wd with line := ln }]).length = acc.length + 1 := by simp
          have hBs4 := hB4.size
          refine ⟨acc ++ [{ wd with line := ln }], (skip false l').1, ln + (skip false l').2, ?_, hr5, fun rs h => ?_, by omega, ?_, hB4.trans (hs5.below (Nat.le_refl _) hBs4)⟩
          · rw [hlen, wcells_app]
            refine row_rst (b := w.heap.size) (by simpa [wcells, wcell] using hown4) hs5 (fun e => ?_)
            have := (hown4.lt _ e).1
            omega
          · have := HL.out (rs.cons { wd with line := ln }) (.inr (.inr ⟨wd, l', rs, hw, h.lex, rfl⟩))
            rw [Rs.pre_cons] at this
            exact this
          · rw [hlen]
            omega
        case measure =>
          have h2 := HW.out.2
          have hsk2 := skip_le false l'
          rw [rdLen_of hr5, hml]
          omega

set_option maxHeartbeats 400000 in
theorem words_long (l : List UInt8) (hl : 65536 < l.length) (hm : l.length ≤ 140737488355328) : Calls Tryd.prog 6 #[.string (bs l)] w fun e w' => e = .returned (.tuple #[.slice none 0 0, .int .i64 0, .int .i64 3]) ∧ w' = w := by
  have hsz := bs_size l
  have hq : (65536 : Int) < (l.length : Int) := by omega
  go_enter Tryd.func6, Tryd.ntmps6
  go_wp2
  refine bodyPost_ret (results_tmp3 (by rfl) _ _ _) (by rfl) ?_
  exact ⟨rfl, rfl⟩

end Go.Proofs.YtpbempnenjfjdaaDoor
