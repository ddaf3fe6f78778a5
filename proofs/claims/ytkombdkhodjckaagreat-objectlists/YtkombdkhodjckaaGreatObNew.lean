/- A new text. -/
import Derived.Test.YtkombdkhodjckaaGreatObText
import Derived.Test.YtkombdkhodjckaaGreatStay
import Derived.Deep.RegionHeld3
namespace Go.Proofs.YtkombdkhodjckaaGreat
set_option linter.unusedVariables false
set_option linter.unusedSimpArgs false
open Go.RowKit

variable {n₀ bh b lim used : Nat} {vw vb : Value} {w : World} {M : List Ob}

theorem below_drew {n : Nat} {w w1 : World} (h : Below n w w1) : Below n w w1.drew := ⟨h.os, h.tape, h.output, h.size, h.block⟩

theorem infoVal2 : (Tryz.prog.info? 29).map (·.size) = some 2 := by kernel_rfl

theorem set2_row {W : World} {g : Nat} {a b x y : Value} {t : TypeId} (h : W.heap[g]? = some (.cells #[a, b] t (0, 0))) : ((W.setCell ⟨g, 0, none⟩ x).setCell ⟨g, 1, none⟩ y).heap[g]? = some (.cells #[x, y] t (0, 0)) := by
  have h1 := heap_setCell_same W g 0 _ t x h
  have h2 := heap_setCell_same _ g 1 _ t y h1
  simpa using h2

theorem below_set {n : Nat} {w W : World} (h : Below n w W) {g i : Nat} (hg : n ≤ g) (v : Value) : Below n w (W.setCell ⟨g, i, none⟩ v) :=
  ⟨h.os, h.tape, h.output, by simpa [World.setCell] using h.size, fun k hk => (heap_setCell_other W ⟨g, i, none⟩ k v (by intro e; simp only at e; omega)).trans (h.block k hk)⟩

/-- The two blocks at a call's start: the memory's box, the result's cell. -/
theorem heap_two (w : World) (o1 o2 : Obj) : ((w.alloc o1).alloc o2).heap[w.heap.size + 1]? = some o2 := heap_alloc2_new w o1 o2

set_option maxRecDepth 20000 in
set_option maxHeartbeats 2000000 in
theorem newText_full (h : Hp n₀ bh b vw vb w lim used M) (s : ByteArray) (hs : s.size ≤ 4096) (hf : lim < used + (1 + (s.size + 7) / 8) + 1) :
    Calls Tryz.prog 43 #[mem bh, .string s] w fun e w' => e = .returned (.tuple #[.agg #[.int .u8 0, .int .i64 0], .int .i64 7]) ∧ Below w.heap.size w w' := by
  have H1 := fun w => textSize_in s.size (by omega) w
  have H2 := fun w' (hB : Below w.heap.size w w') => allocM_full (h.below hB) 3 ((1 + (s.size + 7) / 8 : Nat) : Int) (by omega) (by omega) (by omega) (by omega)
  unfold mem
  go_enter Tryz.func43, Tryz.ntmps43
  go_wp2
  go_region_held3 (fun W => W.cell? ⟨w.heap.size, 0, none⟩ = some (.pointer (some ⟨bh, 0, none⟩))) (first | go_keep)
    ((first
      | (go_at_call 86; refine (H1 _).mono ?_; rintro e1 w1 ⟨rfl, hw1⟩; obtain rfl := hw1.symm)
      | (go_at_call 53; refine (H2 _ (below_drew (below2' _ _ _))).mono ?_; rintro e2 w2 ⟨rfl, q, hw2⟩; subst hw2)))
  all_goals
    go_wp2
    refine bodyPost_ret (results_row_tmp (by rfl) _ _ (w.heap.size + 1) 29 #[.int .u8 0, .int .i64 0] (0, 0) _ (by rfl) (set2_row (heap_two w _ _)) Tryz.underlying29 (by rfl) infoVal2) (by rfl) ?_
    exact ⟨rfl, below_set (below_set (below_drewN' (below2' _ _ _) _) (by omega) _) (by omega) _⟩

/-- The words of a text, so many of its chunks written. -/
def textJ (l : List Nat) (j : Nat) : List Nat := l.length :: ((chunks l).take j ++ List.replicate ((l.length + 7) / 8 - j) 0)

theorem textJ_len (l : List Nat) (j : Nat) (hj : j ≤ (l.length + 7) / 8) : (textJ l j).length = 1 + (l.length + 7) / 8 := by
  simp [textJ, chunks_len]; omega

theorem textJ_set (l : List Nat) (j : Nat) (hj : 8 * j < l.length) : (textJ l j).set (1 + j) (pk ((l.drop (8 * j)).take 8)) = textJ l (j + 1) := by
  have hc := chunks_get l j hj
  have hl := chunks_len l
  unfold textJ
  rw [show 1 + j = j + 1 by omega, List.set_cons_succ]
  congr 1
  rw [List.set_append_right _ _ (by simp; omega)]
  have e1 : ((chunks l).take j).length = j := by simp [hl]; omega
  rw [e1, Nat.sub_self, show (l.length + 7) / 8 - j = ((l.length + 7) / 8 - (j + 1)) + 1 by omega, List.replicate_succ, List.set_cons_zero]
  rw [show (chunks l).take (j + 1) = (chunks l).take j ++ [pk ((l.drop (8 * j)).take 8)] by rw [List.take_add_one (l := chunks l), hc]; rfl]
  simp

theorem textJ_end (l : List Nat) (j : Nat) (hj : l.length ≤ 8 * j) (h8 : j ≤ (l.length + 7) / 8) : textJ l j = textW l := by
  have hl := chunks_len l
  have : j = (l.length + 7) / 8 := by omega
  subst this
  simp [textJ, textW, List.take_of_length_le, hl]

theorem textJ_start (l : List Nat) : (List.replicate (1 + (l.length + 7) / 8) 0).set 0 l.length = textJ l 0 := by
  rw [Nat.add_comm 1, List.replicate_succ]
  simp [textJ]

theorem bts_extract (s : ByteArray) (i : Nat) (hi : i ≤ s.size) : bts (s.extract i s.size) = (bts s).drop i := by
  obtain ⟨⟨l⟩⟩ := s
  rw [ByteArray.extract_mk]
  unfold bts
  rw [← List.map_drop]
  congr 1
  show ((l.drop i).take (l.length - i)) = l.drop i
  exact List.take_of_length_le (by simp)

set_option maxRecDepth 20000 in
set_option maxHeartbeats 600000 in
theorem newText_ok (h : Hp n₀ bh b vw vb w lim used M) (s : ByteArray) (hs : s.size ≤ 4096) (hf : used + (1 + (s.size + 7) / 8) + 1 ≤ lim) :
    Calls Tryz.prog 43 #[mem bh, .string s] w fun e w' => e = .returned (.tuple #[.agg #[.int .u8 3, .int .i64 used], .int .i64 0]) ∧ ∃ vw' vb', Hp n₀ bh b vw' vb' w' lim (used + (1 + (s.size + 7) / 8) + 1) (M ++ [⟨used, 3, textW (bts s)⟩]) ∧ Step b vw vb w vw' vb' w' := by
  have H1 := fun w => textSize_in s.size (by omega) w
  have H2 := fun w' (hB : Below w.heap.size w w') => allocM (h.below hB) 3 (1 + (s.size + 7) / 8) (by omega) (by omega) (by omega)
  have hle := h.le
  have hvw : ∀ k, vw.ownBlock = some k → k < w.heap.size := fun k e => (h.blocks k (.inr (.inr (.inl e)))).2.1
  have nxt : ∀ w2 vw2 vb2, Step b vw vb (((w.alloc (.cells #[.pointer (some ⟨bh, 0, none⟩)] 54)).alloc (.cells #[.int .u8 0, .int .i64 0] 29)).drew) vw2 vb2 w2 →
      w2.heap[w.heap.size]? = some (.cells #[.pointer (some ⟨bh, 0, none⟩)] 54 (0, 0)) ∧ w2.heap[w.heap.size + 1]? = some (.cells #[.int .u8 0, .int .i64 0] 29 (0, 0)) ∧ Step b vw vb w vw2 vb2 w2 := fun w2 vw2 vb2 hS => by
    have hW := h.below (below_drew (below2' w (.cells #[.pointer (some ⟨bh, 0, none⟩)] 54) (.cells #[.int .u8 0, .int .i64 0] 29)))
    have h1 : (((w.alloc (.cells #[.pointer (some ⟨bh, 0, none⟩)] 54)).alloc (.cells #[.int .u8 0, .int .i64 0] 29)).drew).heap[w.heap.size]? = some (.cells #[.pointer (some ⟨bh, 0, none⟩)] 54 (0, 0)) :=
      (Below.heap_alloc _ _ w.heap.size (by simp)).trans (heap_alloc_new w _)
    have h2 : (((w.alloc (.cells #[.pointer (some ⟨bh, 0, none⟩)] 54)).alloc (.cells #[.int .u8 0, .int .i64 0] 29)).drew).heap[w.heap.size + 1]? = some (.cells #[.int .u8 0, .int .i64 0] 29 (0, 0)) := heap_two w _ _
    exact ⟨(hW.stays hS h1 (fun cur t e => by cases e; decide)).trans h1, (hW.stays hS h2 (fun cur t e => by cases e; decide)).trans h2, Step.belowL (below_drew (below2' _ _ _)) hS hvw⟩
  have NX : Hid _ := nxt
  clear nxt hvw
  unfold mem
  go_enter Tryz.func43, Tryz.ntmps43
  go_wp2
  go_region_held3 (fun W => W.cell? ⟨w.heap.size, 0, none⟩ = some (.pointer (some ⟨bh, 0, none⟩))) (first | exact hcz | go_keep)
    ((first
      | (go_at_call 86; refine (H1 _).mono ?_; rintro e1 w1 ⟨rfl, hw1⟩; obtain rfl := hw1.symm)
      | (go_at_call 53; refine (H2 _ (below_drew (below2' _ _ _))).mono ?_; clear H2; rintro e2 w2 ⟨rfl, vw2, vb2, hp2, hS2⟩; obtain ⟨g1, g2, g3⟩ := NX.out _ _ _ hS2; have hcz : w2.cell? ⟨w.heap.size, 0, none⟩ = some (.pointer (some ⟨bh, 0, none⟩)) := by rw [cell_of_row w2 w.heap.size 0 _ _ _ g1]; rfl)))
  all_goals
    have H3 := writeM (l := M) (r := []) hp2 0 s.size (by simp; omega) (by omega)
    go_wp2_with (first
      | (go_at_call 54; refine H3.mono ?_; clear H3; rintro e w3 ⟨rfl, hp3, hS3⟩))
    have hl := bts_len s
    have e0 : (List.replicate (1 + (s.size + 7) / 8) 0).set 0 s.size = textJ (bts s) 0 := by have := textJ_start (bts s); rwa [hl] at this
    have hp3' : Hp n₀ bh b vw2 vb2 w3 lim (used + (1 + (s.size + 7) / 8) + 1) (M ++ [⟨used, 3, textJ (bts s) 0⟩]) := by rw [← e0]; exact hp3
    have k1 := (hp2.stays hS3 g1 (fun cur t e => by cases e; decide)).trans g1
    have k2 := (hp2.stays hS3 g2 (fun cur t e => by cases e; decide)).trans g2
    have k3 := g3.trans hS3
    have HL : Hid _ := hl
    clear hl e0 hp3 hp2 hS2 hS3 g1 g2 g3 hcz NX
    go_loopw [8] (fun k wr => ∃ (i j : Nat) (vw' vb' : Value), k = .int .i64 i ∧ Hid (i = 8 * j) ∧ j ≤ (s.size + 7) / 8 ∧ Hp n₀ bh b vw' vb' wr lim (used + (1 + (s.size + 7) / 8) + 1) (M ++ [⟨used, 3, textJ (bts s) j⟩]) ∧ Step b vw vb w vw' vb' wr ∧
      wr.heap[w.heap.size]? = some (.cells #[.pointer (some ⟨bh, 0, none⟩)] 54 (0, 0)) ∧ wr.heap[w.heap.size + 1]? = some (.cells #[.int .u8 0, .int .i64 0] 29 (0, 0))) (fun k _ => s.size + 8 - (intOf k).toNat)
    case atStart => exact ⟨0, 0, vw2, vb2, rfl, rfl, by omega, hp3', k3, k1, k2⟩
    case round =>
      obtain ⟨i, j, vw', vb', rfl, hij, hjC, hpr, hS, m1, m2⟩ := hrel
      by_cases hi : i < s.size
      · have hi' : (i : Int) < (s.size : Int) := by omega
        have hi2 : (i : Int) ≤ (s.size : Int) := by omega
        have H5 := fun w => pack_in (s.extract i s.size) w
        have H6 : Calls Tryz.prog 54 #[.pointer (some ⟨bh, 0, none⟩), .int .i64 used, .int .i64 (IntKind.i64.wrap (1 + IntKind.i64.wrap ((i : Int) / 8))), .int .u64 (pk ((bts (s.extract i s.size)).take 8) : Nat)] wr.drew fun e w' => e = .returned (.int .i64 0) ∧
            Hp n₀ bh b vw' vb' w' lim (used + (1 + (s.size + 7) / 8) + 1) (M ++ [⟨used, 3, textJ (bts s) (j + 1)⟩]) ∧ Step b vw' vb' wr vw' vb' w' ∧
            w'.heap[w.heap.size]? = some (.cells #[.pointer (some ⟨bh, 0, none⟩)] 54 (0, 0)) ∧ w'.heap[w.heap.size + 1]? = some (.cells #[.int .u8 0, .int .i64 0] 29 (0, 0)) := by
          have e1 : IntKind.i64.wrap (1 + IntKind.i64.wrap ((i : Int) / 8)) = ((1 + j : Nat) : Int) := by
            have := hij.out
            rw [IntKind.wrap_i64, IntKind.wrap_i64]
            omega
          have e2 : pk ((bts (s.extract i s.size)).take 8) = pk (((bts s).drop (8 * j)).take 8) := by rw [bts_extract s i (by omega), hij.out]
          have hpd : Hp n₀ bh b vw' vb' wr.drew lim (used + (1 + (s.size + 7) / 8) + 1) (M ++ ⟨used, 3, textJ (bts s) j⟩ :: []) := hpr.drewN 1
          have hlt : 8 * j < (bts s).length := by rw [HL.out, ← hij.out]; exact hi
          have h64 : pk (((bts s).drop (8 * j)).take 8) < 18446744073709551616 := by
            have h1 := pk_lt (((bts s).drop (8 * j)).take 8) (fun x hx => bts_lt s x (List.mem_of_mem_drop (List.mem_of_mem_take hx)))
            have h2 : 256 ^ (((bts s).drop (8 * j)).take 8).length ≤ 256 ^ 8 := Nat.pow_le_pow_right (by omega) (by simp; omega)
            omega
          rw [e1, e2]
          refine (writeM hpd (1 + j) _ (by have := hij.out; rw [textJ_len _ _ (by rw [HL.out]; exact hjC), HL.out]; omega) h64).mono ?_
          rintro e w' ⟨he, hp', hS'⟩
          rw [textJ_set _ _ hlt] at hp'
          refine ⟨he, hp', ⟨hS'.os, hS'.tape, hS'.output, hS'.size, hS'.block, hS'.fw, hS'.fb⟩, ?_, ?_⟩
          · exact (hpd.stays hS' m1 (fun cur t e => by cases e; decide)).trans m1
          · exact (hpd.stays hS' m2 (fun cur t e => by cases e; decide)).trans m2
        have hcr : wr.cell? ⟨w.heap.size, 0, none⟩ = some (.pointer (some ⟨bh, 0, none⟩)) := by rw [cell_of_row wr w.heap.size 0 _ _ _ m1]; rfl
        go_wp2
        go_region_held3 (fun W => W.cell? ⟨w.heap.size, 0, none⟩ = some (.pointer (some ⟨bh, 0, none⟩))) (first | exact hcr | exact hcz | go_keep)
          ((first
            | (go_at_call 87; refine (H5 _).mono ?_; rintro e1 w1 ⟨rfl, hw1⟩; obtain rfl := hw1.symm)
            | (go_at_call 54; refine H6.mono ?_; clear H6; rintro e2 w4 ⟨rfl, hp4, hS4, n1, n2⟩; have hcz : w4.cell? ⟨w.heap.size, 0, none⟩ = some (.pointer (some ⟨bh, 0, none⟩)) := by rw [cell_of_row w4 w.heap.size 0 _ _ _ n1]; rfl)))
        all_goals
          go_wp2
          go_roundw
          case rel => exact ⟨i + 8, j + 1, vw', vb', by simp, by have := hij.out; show i + 8 = 8 * (j + 1); omega, by have := hij.out; omega, hp4, hS.trans hS4, n1, n2⟩
          case measure => simp [intOf]; omega
      · have hi' : ¬ (i : Int) < (s.size : Int) := by omega
        have e1 : textJ (bts s) j = textW (bts s) := textJ_end _ _ (by rw [HL.out, ← hij.out]; omega) (by rw [HL.out]; exact hjC)
        rw [e1] at hpr
        have q0 : wr.cell? ⟨w.heap.size + 1, 0, none⟩ = some (.int .u8 0) := by rw [cell_of_row wr (w.heap.size + 1) 0 _ _ _ m2]; rfl
        have q1 : wr.cell? ⟨w.heap.size + 1, 1, none⟩ = some (.int .i64 0) := by rw [cell_of_row wr (w.heap.size + 1) 1 _ _ _ m2]; rfl
        have f0 := frozen_of_row wr (w.heap.size + 1) 0 _ _ m2
        have f1 := frozen_of_row wr (w.heap.size + 1) 1 _ _ m2
        have HE : Hid _ := e1
        clear e1
        go_wp2
        refine bodyPost_ret (results_row_tmp (by rfl) _ _ (w.heap.size + 1) 29 #[.int .u8 3, .int .i64 used] (0, 0) _ (by rfl) (set2_row m2) Tryz.underlying29 (by rfl) infoVal2) (by rfl) ?_
        refine ⟨rfl, vw', vb', ?_, ?_⟩
        · exact hpr.kept (fun k hk => by
            have hne : k ≠ w.heap.size + 1 := fun e => hpr.other m2 (fun cur t e => by cases e; decide) (by rw [← e]; exact hk)
            rw [heap_setCell_other _ ⟨w.heap.size + 1, 1, none⟩ k _ hne, heap_setCell_other _ ⟨w.heap.size + 1, 0, none⟩ k _ hne])
        · refine ⟨hS.os, hS.tape, hS.output, by simpa [World.setCell] using hS.size, fun k hk h1 h2 h3 => ?_, hS.fw, hS.fb⟩
          rw [heap_setCell_other _ ⟨w.heap.size + 1, 1, none⟩ k _ (by simp only; omega), heap_setCell_other _ ⟨w.heap.size + 1, 0, none⟩ k _ (by simp only; omega)]
          exact hS.block k hk h1 h2 h3

end Go.Proofs.YtkombdkhodjckaaGreat
