/- ObjectTexts: the walk. -/
import Derived.Test.YtkombdkhodjckaaObAlive
namespace Go.Proofs.Ytkombdkhodjckaa
set_option linter.unusedVariables false
set_option linter.unusedSimpArgs false
open Go.RowKit Go.Maps

variable {n₀ bh b lim used : Nat} {vw vb : Value} {w : World} {M : List Ob}

set_option maxHeartbeats 400000 in
theorem great_in (n : Nat) (w : World) (h1 : 1 ≤ n) (h2 : n ≤ 1048576) : Calls Try.prog 5 #[.int .i64 n] w fun e w' => ∃ bh b vw vb, e = .returned (.pointer (some ⟨bh, 0, none⟩)) ∧ Hp w.heap.size bh b vw vb w' n 0 [] ∧ Below w.heap.size w w' := by
  have a0 := newM n w h1 h2
  go_enter Try.func5, Try.ntmps5
  go_wp2_with ((go_at_call 20; refine a0.mono ?_; clear a0; rintro e w0 ⟨bh, b, vw0, vb0, rfl, hp0, hB0⟩))
  go_ret
  exact ⟨bh, b, vw0, vb0, rfl, hp0, hB0⟩

theorem bts_bytes (s : ByteArray) : bytesW (textW (bts s)) s.size = bts s := by
  have := bytesW_text (bts_lt s)
  rw [bts_len] at this
  exact this

theorem bts_ext1 (s : ByteArray) {k : Nat} (hk : k < s.size) : bts (s.extract k (k + 1)) = [byteW (textW (bts s)) k] := by
  have h1 : byteW (textW (bts s)) k = (bts s).getD k 0 := textW_byte (bts_lt s) (by rw [bts_len]; exact hk)
  have hl : k < (bts s).length := by rw [bts_len]; exact hk
  rw [h1, List.getD_eq_getElem?_getD, List.getElem?_eq_getElem hl, Option.getD_some]
  have h2 : bts (s.extract k (k + 1)) = ((bts s).drop k).take 1 := by
    unfold bts
    rw [ByteArray.data_extract, Array.toList_extract, List.extract_eq_take_drop, List.map_take, List.map_drop]
    simp
  rw [h2, List.drop_eq_getElem_cons hl]
  rfl

theorem bts_inj {a c : ByteArray} (h : bts a = bts c) : a = c := by rw [← strOf_bts a, h, strOf_bts]

/-- What a text in the heap says. -/
theorem text_of {l r : List Ob} {at_ : Nat} {s : ByteArray} (h : Hp n₀ bh b vw vb w lim used (l ++ ⟨at_, 3, textW (bts s)⟩ :: r)) (hl1 : 1 ≤ lim) (hs : s.size ≤ 4096) :
    Calls Try.prog 9 #[.pointer (some ⟨bh, 0, none⟩), .agg #[.int .u8 3, .int .i64 at_]] w fun e w' => e = .returned (.tuple #[.string s, .int .i64 0]) ∧ Below w.heap.size w w' := by
  have := Text_in h hl1 (TextOb.of s hs at_)
  simp only [bts_bytes, strOf_bts] at this
  exact this

theorem same_of {l r l' r' : List Ob} {a a' : Nat} {s s' : ByteArray} (h : Hp n₀ bh b vw vb w lim used (l ++ ⟨a, 3, textW (bts s)⟩ :: r)) (hl1 : 1 ≤ lim) (hs : s.size ≤ 4096) (hM : l ++ ⟨a, 3, textW (bts s)⟩ :: r = l' ++ ⟨a', 3, textW (bts s')⟩ :: r') (hs' : s'.size ≤ 4096) (q : Bool) (hq : q = decide (s' = s)) :
    Calls Try.prog 11 #[.pointer (some ⟨bh, 0, none⟩), .agg #[.int .u8 3, .int .i64 a], .agg #[.int .u8 3, .int .i64 a']] w fun e w' => e = .returned (.bool q) ∧ Below w.heap.size w w' := by
  have := Same_texts h hl1 (TextOb.of s hs a) hM (TextOb.of s' hs' a')
  simp only [bts_bytes] at this
  have e : decide (bts s' = bts s) = q := by
    rw [hq]
    exact decide_eq_decide.2 ⟨bts_inj, fun h => by rw [h]⟩
  rw [e] at this
  exact this

set_option maxRecDepth 20000 in
set_option maxHeartbeats 1000000 in
theorem objectTexts_long (s : ByteArray) (hs : 4096 < s.size) (hm : s.size ≤ 140737488355328) (w : World) : Calls Try.prog 3 #[.string s] w fun e w' => e = .returned (.bool true) ∧ Below w.heap.size w w' := by
  have a0 := great_in 2000 w (by omega) (by omega)
  have AL := alive_in
  have hs' : (4096 : Int) < (s.size : Int) := by omega
  go_enter Try.func3, Try.ntmps3
  go_wp2_with (first
    | (go_at_call 5; refine a0.mono ?_; clear a0; rintro e w0 ⟨bh, b, vw0, vb0, rfl, hp0, hB0⟩; have a1 := NewText_limit hp0 (by omega) s hs)
    | (go_at_call 6; refine a1.mono ?_; clear a1; rintro e w1 ⟨rfl, hB1⟩; have hC1 := (hB1.alloc hB1.size (.cells #[.int .u8 0, .int .i64 0] 26)); have a2 := AL (w1.alloc (.cells #[.int .u8 0, .int .i64 0] 26)))
    | (go_at_call 7; refine a2.mono ?_; clear a2; rintro e w2 ⟨rfl, hB2⟩; have hC2 := hC1.trans (hB2.mono hC1.size); have a3 := AL w2)
    | (go_at_call 7; refine a3.mono ?_; clear a3; rintro e w3 ⟨rfl, hB3⟩; have hC3 := hC2.trans (hB3.mono hC2.size); have a4 := usedM (hp0.below hC3))
    | (go_at_call 8; refine a4.mono ?_; clear a4; rintro e w4 ⟨rfl, rfl⟩))
  go_ret
  exact ⟨rfl, hB0.trans (hC3.mono hB0.size)⟩

set_option maxRecDepth 20000 in
set_option maxHeartbeats 8000000 in
theorem objectTexts_short (s : ByteArray) (hs : s.size ≤ 4096) (w : World) : Calls Try.prog 3 #[.string s] w fun e w' => e = .returned (.bool true) ∧ Below w.heap.size w w' := by
  have a0 := great_in 2000 w (by omega) (by omega)
  have AL := alive_in
  have N1 := fun (n : Int) (w : World) => number_in n w
  have hs' : ¬ (4096 : Int) < (s.size : Int) := by omega
  obtain ⟨C, hC⟩ : ∃ C, C = (s.size + 7) / 8 := ⟨_, rfl⟩
  have hC5 : C ≤ 512 := by omega
  have hCd : ((s.size : Int) + 7).tdiv 8 = (C : Int) := by rw [Int.tdiv_eq_ediv_of_nonneg (by omega)]; omega
  have HC : Hid (C = (s.size + 7) / 8) := hC
  obtain ⟨A, hA⟩ : ∃ A, A = C + 2 := ⟨_, rfl⟩
  have HA : Hid (A = C + 2) := hA
  have hA5 : A ≤ 514 := by omega
  clear hC hA
  go_enter Try.func3, Try.ntmps3
  go_wp2_with (first
    | (go_at_call 5; refine a0.mono ?_; clear a0; rintro e w0 ⟨bh, b, vw0, vb0, rfl, hp0, hB0⟩; have a1 := NewText_ok hp0 (by omega) s hs (by omega))
    | (go_at_call 6; (with_reducible refine a1.mono ?_); clear a1; rintro e w1 ⟨rfl, vw1, vb1, hp1', hS1⟩
       have hp1 : Hp w.heap.size bh b vw1 vb1 (w1.alloc (.cells #[.int .u8 3, .int .i64 0] 26)) 2000 A [⟨0, 3, textW (bts s)⟩] := by
         have h := hp1'.below (below1 w1 (.cells #[.int .u8 3, .int .i64 0] 26))
         rw [show 0 + (1 + (s.size + 7) / 8) + 1 = A by rw [HA.out, HC.out]; omega] at h
         exact h
       have b41 : Bx (w1.alloc (.cells #[.int .u8 3, .int .i64 0] 26)) w1.heap.size 3 0 := heap_alloc_new w1 _
       have hB1 : Below w.heap.size w (w1.alloc (.cells #[.int .u8 3, .int .i64 0] 26)) := by
         have h := hB0.trans (hp0.stepBelow hS1)
         exact h.alloc h.size _
       have a2 := AL (w1.alloc (.cells #[.int .u8 3, .int .i64 0] 26))
       clear hp1' hS1 hp0 hB0)
    | (go_at_call 7; (with_reducible refine a2.mono ?_); clear a2 AL; rintro e w2 ⟨rfl, hB2'⟩; have hp2 := hp1.below hB2'; have b42 := b41.below hB2'; have hB2 := hB1.trans (hB2'.mono hB1.size); have ⟨t0, t1⟩ := cell_row2 b42; have a3 := text_of (l := []) (r := []) hp2 (by omega) hs; simp only [show ((0 : Nat) : Int) = 0 from rfl] at a3; clear hp1 b41 hB1 hB2')
    | (go_at_call 9; (with_reducible refine a3.mono ?_); clear a3; rintro e w3 ⟨rfl, hB3'⟩; have hp3 := hp2.below hB3'; have b43 := b42.below hB3'; have hB3 := hB2.trans (hB3'.mono hB2.size); have ⟨t2, t3⟩ := cell_row2 b43; have a4 := Len_text (l := []) (o := ⟨0, 3, textW (bts s)⟩) (r := []) hp3 (by omega) (TextOb.of s hs 0); simp only [show ((0 : Nat) : Int) = 0 from rfl] at a4; clear hp2 b42 hB2 hB3')
    | (go_at_call 10; (with_reducible refine a4.mono ?_); clear a4; rintro e w4 ⟨rfl, hB4'⟩; have hp4 := hp3.below hB4'; have b44 := b43.below hB4'; have hB4 := hB3.trans (hB4'.mono hB3.size); have a5 := NewText_ok hp4 (by omega) s hs (by omega); clear hp3 b43 hB3 hB4')
    | (go_at_call 6; (with_reducible refine a5.mono ?_); clear a5; rintro e w5 ⟨rfl, vw5, vb5, hp5', hS5⟩
       have hp5 : Hp w.heap.size bh b vw5 vb5 (w5.alloc (.cells #[.int .u8 3, .int .i64 (A : Int)] 26)) 2000 (2 * (2 + C)) [⟨0, 3, textW (bts s)⟩, ⟨A, 3, textW (bts s)⟩] := by
         have h := hp5'.below (below1 w5 (.cells #[.int .u8 3, .int .i64 (A : Int)] 26))
         rw [show A + (1 + (s.size + 7) / 8) + 1 = 2 * (2 + C) by rw [HA.out, HC.out]; omega] at h
         exact h
       have b45 := (b44.step hp4 hS5).below (below1 w5 (.cells #[.int .u8 3, .int .i64 (A : Int)] 26))
       have b105 : Bx (w5.alloc (.cells #[.int .u8 3, .int .i64 (A : Int)] 26)) w5.heap.size 3 (A : Int) := heap_alloc_new w5 _
       have hB5 : Below w.heap.size w (w5.alloc (.cells #[.int .u8 3, .int .i64 (A : Int)] 26)) := by
         have h := hB4.trans (hp4.stepBelow hS5)
         exact h.alloc h.size _
       have ⟨t4, t5⟩ := cell_row2 b45
       have ⟨t6, t7⟩ := cell_row2 b105
       have a6 := usedM hp5
       have a7 := same_of (l := []) (r := [⟨A, 3, textW (bts s)⟩]) (l' := [⟨0, 3, textW (bts s)⟩]) (r' := []) hp5 (by omega) hs rfl hs true (by simp)
       simp only [show ((0 : Nat) : Int) = 0 from rfl] at a7
       clear hp5' hS5 hp4 b44 hB4)
    | (go_at_call 8; (with_reducible refine a6.mono ?_); clear a6; rintro e w' ⟨rfl, rfl⟩)
    | (go_at_call 11; (refine a7.mono ?_); clear a7; rintro e w6 ⟨rfl, hB6'⟩; have hp6 := hp5.below hB6'; have b46 := b45.below hB6'; have hB6 := hB5.trans (hB6'.mono hB5.size); clear hp5 b45 hB5 hB6' b105))
  obtain ⟨g4, hg4⟩ : ∃ g, w1.heap.size = g := ⟨_, rfl⟩
  rw [hg4] at b46 ⊢
  clear hg4 hCd
  go_loopw [12] (fun kv wr => ∃ (k : Nat) (vw vb : Value) (U : Nat) (X : List Ob), kv = .int .i64 k ∧ k ≤ s.size ∧ k ≤ 20 ∧ U = 2 * (2 + C) + 3 * k ∧ Hp w.heap.size bh b vw vb wr 2000 U (⟨0, 3, textW (bts s)⟩ :: ⟨A, 3, textW (bts s)⟩ :: X) ∧ Bx wr g4 3 0 ∧ Below w.heap.size w wr) (fun kv _ => 20 - (intOf kv).toNat)
  case atStart => exact ⟨0, vw5, vb5, _, [], rfl, by omega, by omega, rfl, hp6, b46, hB6⟩
  case round =>
    clear hp6 b46 hB6
    obtain ⟨k, vw7, vb7, U, X, rfl, hks, hk20, hU, hp7, b47, hB7⟩ := hrel
    have HU : Hid (U = 2 * (2 + C) + 3 * k) := hU
    have hU6 : U ≤ 1200 := by omega
    clear hU
    by_cases hlt : k < s.size ∧ k < 20
    · have h1 : (k : Int) < (s.size : Int) := by omega
      have h2 : (k : Int) < 20 := by omega
      have ex1 := bts_ext1 s hlt.1
      have HG := fun W (hB : Below wr.heap.size wr W) => Get_text (l := []) (o := ⟨0, 3, textW (bts s)⟩) (r := ⟨A, 3, textW (bts s)⟩ :: X) (hp7.below hB) (by omega) (TextOb.of s hs 0) k hlt.1 (by omega)
      simp only [← ex1, show ((0 : Nat) : Int) = 0 from rfl, List.nil_append, List.cons_append] at HG
      clear ex1
      have hes : (s.extract k (k + 1)).size = 1 := by simp [ByteArray.size_extract]; omega
      have F : ∀ W, Bx W g4 3 0 → W.cell? ⟨g4, 0, none⟩ = some (.int .u8 3) ∧ W.cell? ⟨g4, 1, none⟩ = some (.int .i64 0) := fun W h => cell_row2 h
      have hDa : Below wr.heap.size wr wr.drew := below_drew (Below.refl _ _)
      have hDb : Below wr.heap.size wr (wr.alloc (.cells #[.int .u8 0, .int .i64 0] 26)).drew := below_drew (below1 wr _)
      have HES : Hid ((s.extract k (k + 1)).size = 1) := hes
      have hkb : k ≤ 20 ∧ k < s.size := ⟨hk20, hlt.1⟩
      clear hes hlt
      go_wp2_with (first | fail)
      go_region_held3 (fun W => W.cell? ⟨g4, 0, none⟩ = some (.int .u8 3) ∧ W.cell? ⟨g4, 1, none⟩ = some (.int .i64 0)) (first | exact F _ b47 | exact F _ (b47.below hDa) | exact F _ (b47.below hDb) | exact F _ q3 | exact F _ (q3.below (below1 _ _)) | exact F _ q4 | exact F _ (q4.below (below1 _ _)) | exact F _ (q4.other hne4 _ _) | go_keep) ((first
        | (go_at_call 13; (with_reducible refine (N1 k (wr.alloc (.cells #[.int .u8 0, .int .i64 0] 26)).drew).mono ?_); rintro e w3 ⟨rfl, hB3⟩; have hC3 : Below wr.heap.size wr w3 := hDb.trans (hB3.mono hDb.size); have q3 := b47.below hC3; have mz3 : Bx w3 wr.heap.size 0 0 := (hB3.block _ (by simp [World.drew])).trans (heap_alloc_new wr _))
        | (go_at_call 13; (with_reducible refine (N1 k wr.drew).mono ?_); rintro e w3 ⟨rfl, hB3⟩; have hC3 : Below wr.heap.size wr w3 := hDa.trans hB3; have q3 := b47.below hC3)
        | (go_at_call 12; (with_reducible refine (HG w3 hC3).mono ?_); rintro e w4 ⟨rfl, vw8, vb8, hp8, hS8⟩; have hpx := hp7.below hC3; have mz4 : Bx w4 wr.heap.size 0 0 := mz3.step hpx hS8; have q4 := q3.step hpx hS8; have hB8 := (hB7.trans (hC3.mono hB7.size)).trans (hpx.stepBelow hS8); have hne4 : g4 ≠ wr.heap.size := (by have := b47.lt; omega); obtain ⟨⟨z0, z1⟩, y0, y1⟩ := mz4.cells)
        | (go_at_call 12; (with_reducible refine (HG w3 hC3).mono ?_); rintro e w4 ⟨rfl, vw8, vb8, hp8, hS8⟩; have hpx := hp7.below hC3; have q4 := q3.step hpx hS8; have hB8 := (hB7.trans (hC3.mono hB7.size)).trans (hpx.stepBelow hS8))
        | (go_at_call 12; (with_reducible refine (HG (w3.alloc (.cells #[.int .u8 0, .int .i64 0] 26)) (hC3.alloc hC3.size (.cells #[.int .u8 0, .int .i64 0] 26))).mono ?_); rintro e w4 ⟨rfl, vw8, vb8, hp8, hS8⟩; have hpx := hp7.below (hC3.alloc hC3.size (.cells #[.int .u8 0, .int .i64 0] 26)); have mz4 : Bx w4 w3.heap.size 0 0 := (show Bx (w3.alloc (.cells #[.int .u8 0, .int .i64 0] 26)) w3.heap.size 0 0 from heap_alloc_new w3 _).step hpx hS8; have q4 := (q3.below (below1 w3 (.cells #[.int .u8 0, .int .i64 0] 26))).step hpx hS8; have hB8 := (hB7.trans ((hC3.alloc hC3.size (.cells #[.int .u8 0, .int .i64 0] 26)).mono hB7.size)).trans (hpx.stepBelow hS8); have hne4 : g4 ≠ w3.heap.size := (by have := b47.lt; have := hC3.size; omega); obtain ⟨⟨z0, z1⟩, y0, y1⟩ := mz4.cells)))
      all_goals
        have hst := hB7.size
        have hsu := hC3.size
        first
          | (obtain ⟨W9, hW9⟩ : ∃ W9, w4.alloc (.cells #[.int .u8 3, .int .i64 (U : Int)] 26) = W9 := ⟨_, rfl⟩
             rw [hW9]
             have hb9 : Bx W9 w4.heap.size 3 U := hW9 ▸ heap_alloc_new w4 _
             have hp9 : Hp w.heap.size bh b vw8 vb8 W9 2000 (U + 3) _ := hW9 ▸ hp8.below (below1 w4 _)
             have q9 : Bx W9 g4 3 0 := hW9 ▸ q4.below (below1 w4 _)
             have hB9 : Below w.heap.size w W9 := hW9 ▸ hB8.alloc hB8.size _
             obtain ⟨g9, hg9⟩ : ∃ g, w4.heap.size = g := ⟨_, rfl⟩
             rw [hg9] at hb9 ⊢
             clear hW9 hg9)
          | (obtain ⟨W9, hW9⟩ : ∃ W9, (w4.setCell ⟨wr.heap.size, 0, none⟩ (.int .u8 3)).setCell ⟨wr.heap.size, 1, none⟩ (.int .i64 (U : Int)) = W9 := ⟨_, rfl⟩
             rw [hW9]
             have hb9 : Bx W9 wr.heap.size 3 U := hW9 ▸ mz4.set 3 U
             have hp9 : Hp w.heap.size bh b vw8 vb8 W9 2000 (U + 3) _ := hW9 ▸ hp8.setBx mz4 _ _
             have q9 : Bx W9 g4 3 0 := hW9 ▸ q4.other hne4 _ _
             have hB9 : Below w.heap.size w W9 := hW9 ▸ below_set (below_set hB8 (by omega) _) (by omega) _
             obtain ⟨g9, hg9⟩ : ∃ g, wr.heap.size = g := ⟨_, rfl⟩
             rw [hg9] at hb9 ⊢
             clear hW9 hg9)
          | (obtain ⟨W9, hW9⟩ : ∃ W9, (w4.setCell ⟨w3.heap.size, 0, none⟩ (.int .u8 3)).setCell ⟨w3.heap.size, 1, none⟩ (.int .i64 (U : Int)) = W9 := ⟨_, rfl⟩
             rw [hW9]
             have hb9 : Bx W9 w3.heap.size 3 U := hW9 ▸ mz4.set 3 U
             have hp9 : Hp w.heap.size bh b vw8 vb8 W9 2000 (U + 3) _ := hW9 ▸ hp8.setBx mz4 _ _
             have q9 : Bx W9 g4 3 0 := hW9 ▸ q4.other hne4 _ _
             have hB9 : Below w.heap.size w W9 := hW9 ▸ below_set (below_set hB8 (by omega) _) (by omega) _
             obtain ⟨g9, hg9⟩ : ∃ g, w3.heap.size = g := ⟨_, rfl⟩
             rw [hg9] at hb9 ⊢
             clear hW9 hg9)
        have ⟨x0, x1⟩ := cell_row2 hb9
        have HT := text_of (l := ⟨0, 3, textW (bts s)⟩ :: ⟨A, 3, textW (bts s)⟩ :: X) (r := []) (at_ := U) (s := s.extract k (k + 1)) hp9 (by omega) (by rw [HES.out]; omega)
        clear hp8 hS8 hpx q3 q4 hB8 HG F hDa hDb hC3 hB3 hp7 b47 hB7
        go_wp2_with ((go_at_call 9; (with_reducible refine HT.mono ?_); clear HT; rintro e w6 ⟨rfl, hB6⟩))
        go_roundw
        case rel => exact ⟨k + 1, vw8, vb8, U + 3, X ++ [⟨U, 3, textW (bts (s.extract k (k + 1)))⟩], by simp, by omega, by omega, by rw [HU.out]; omega, by simpa using hp9.below hB6, q9.below hB6, hB9.trans (hB6.mono hB9.size)⟩
        case measure => simp [intOf]; omega
    · have hsz : (s ++ (⟨#[33]⟩ : ByteArray)).size = s.size + 1 := by rw [ByteArray.size_append]; rfl
      by_cases hk2 : k < s.size
      · have h1 : (k : Int) < (s.size : Int) := by omega
        have h2 : ¬ (k : Int) < 20 := by omega
        by_cases h46 : s.size = 4096
        · have a8 := NewText_limit hp7 (by omega) (s ++ ⟨#[33]⟩) (by omega)
          have h46' : (s.size : Int) = 4096 := by omega
          have H46 : Hid (s.size = 4096) := h46
          clear h46
          go_wp2_with (first
            | (go_at_call 6; (refine a8.mono ?_); clear a8; rintro e w8 ⟨rfl, hB8⟩))
          go_ret
          exact ⟨rfl, hB7.trans ((hB8.alloc hB8.size _).mono hB7.size)⟩
        · have a8 := NewText_ok hp7 (by omega) (s ++ ⟨#[33]⟩) (by omega) (by omega)
          have hne : ¬ (s ++ (⟨#[33]⟩ : ByteArray)) = s := fun e => by rw [e] at hsz; omega
          go_wp2_with (first
            | (go_at_call 6; (refine a8.mono ?_); clear a8; rintro e w8 ⟨rfl, vw8, vb8, hp8', hS8⟩; refine halt_here ?_))
          unfold Halted
          have hp8 := hp8'.below (below1 w8 (.cells #[.int .u8 3, .int .i64 (U : Int)] 26))
          have b48 := (b47.step hp7 hS8).below (below1 w8 (.cells #[.int .u8 3, .int .i64 (U : Int)] 26))
          have b178 : Bx (w8.alloc (.cells #[.int .u8 3, .int .i64 (U : Int)] 26)) w8.heap.size 3 (U : Int) := heap_alloc_new w8 _
          have hB8 := hB7.trans (hp7.stepBelow hS8)
          have hB9 := hB8.alloc hB8.size (.cells #[.int .u8 3, .int .i64 (U : Int)] 26)
          have ⟨x0, x1⟩ := cell_row2 b48
          have ⟨x2, x3⟩ := cell_row2 b178
          have a9 := same_of (a' := U) (s' := s ++ ⟨#[33]⟩) (l := []) (r := (⟨A, 3, textW (bts s)⟩ :: X) ++ [⟨U, 3, textW (bts (s ++ ⟨#[33]⟩))⟩]) (l' := ⟨0, 3, textW (bts s)⟩ :: ⟨A, 3, textW (bts s)⟩ :: X) (r' := []) hp8 (by omega) hs (by simp) (by omega) false (by simp [hne])
          simp only [show ((0 : Nat) : Int) = 0 from rfl] at a9
          clear hp8' hS8 b48 b178 hp8 hp7 b47
          go_wp2_with (first
            | (go_at_call 11; (refine a9.mono ?_); clear a9; rintro e w9 ⟨rfl, hB9'⟩))
          go_ret
          exact ⟨rfl, hB9.trans (hB9'.mono hB9.size)⟩
      · have h1 : ¬ (k : Int) < (s.size : Int) := by omega
        have h46 : ¬ s.size = 4096 := by omega
        have a8 := NewText_ok hp7 (by omega) (s ++ ⟨#[33]⟩) (by omega) (by omega)
        have hne : ¬ (s ++ (⟨#[33]⟩ : ByteArray)) = s := fun e => by rw [e] at hsz; omega
        go_wp2_with (first
          | (go_at_call 6; (refine a8.mono ?_); clear a8; rintro e w8 ⟨rfl, vw8, vb8, hp8', hS8⟩; refine halt_here ?_))
        unfold Halted
        have hp8 := hp8'.below (below1 w8 (.cells #[.int .u8 3, .int .i64 (U : Int)] 26))
        have b48 := (b47.step hp7 hS8).below (below1 w8 (.cells #[.int .u8 3, .int .i64 (U : Int)] 26))
        have b178 : Bx (w8.alloc (.cells #[.int .u8 3, .int .i64 (U : Int)] 26)) w8.heap.size 3 (U : Int) := heap_alloc_new w8 _
        have hB8 := hB7.trans (hp7.stepBelow hS8)
        have hB9 := hB8.alloc hB8.size (.cells #[.int .u8 3, .int .i64 (U : Int)] 26)
        have ⟨x0, x1⟩ := cell_row2 b48
        have ⟨x2, x3⟩ := cell_row2 b178
        have a9 := same_of (a' := U) (s' := s ++ ⟨#[33]⟩) (l := []) (r := (⟨A, 3, textW (bts s)⟩ :: X) ++ [⟨U, 3, textW (bts (s ++ ⟨#[33]⟩))⟩]) (l' := ⟨0, 3, textW (bts s)⟩ :: ⟨A, 3, textW (bts s)⟩ :: X) (r' := []) hp8 (by omega) hs (by simp) (by omega) false (by simp [hne])
        simp only [show ((0 : Nat) : Int) = 0 from rfl] at a9
        clear hp8' hS8 b48 b178 hp8 hp7 b47
        go_wp2_with (first
          | (go_at_call 11; (refine a9.mono ?_); clear a9; rintro e w9 ⟨rfl, hB9'⟩))
        go_ret
        exact ⟨rfl, hB9.trans (hB9'.mono hB9.size)⟩

end Go.Proofs.Ytkombdkhodjckaa
