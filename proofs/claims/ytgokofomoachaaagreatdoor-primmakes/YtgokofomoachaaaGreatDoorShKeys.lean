/- The document's Same. -/
import Derived.Test.YtgokofomoachaaaGreatDoorShMayBe
namespace Go.Proofs.YtgokofomoachaaaGreatDoor
set_option linter.unusedVariables false
set_option linter.unusedSimpArgs false
open Go.RowKit

variable {w : World}

theorem below_drew2 {n : Nat} {w w1 : World} (h : Below n w w1) : Below n w w1.drew := below_drew h

set_option maxRecDepth 20000 in
set_option maxHeartbeats 1000000 in
theorem rSame_in {p : Option Addr} {S : List Om} (c : Nat) (hs : IsSt w p S) (hl : S.length ≤ 1048576) (x y : Vl) (b : Bool) (hb : b = true ↔ sameP S x y) :
    Calls Tryz.prog 266 #[.slice p S.length c, .agg #[.int .u8 x.k, .int .i64 x.n], .agg #[.int .u8 y.k, .int .i64 y.n]] w fun e w' => e = .returned (.bool b) ∧ Below w.heap.size w w' := by
  obtain ⟨k, n⟩ := x
  obtain ⟨k', n'⟩ := y
  dsimp only
  by_cases hk : k = k'
  · subst hk
    by_cases h0 : k = 0
    · subst h0
      have := b_true hb ⟨rfl, .inl rfl⟩
      subst this
      clear hb
      go_enter Tryz.func266, Tryz.ntmps266
      go_wp2
      go_ret
      exact ⟨rfl, below2' _ _ _⟩
    · have b0 : ¬ ((k : Int) = 0) := by omega
      have g0 : ((k : Int) == 0) = false := by simpa using b0
      by_cases hn : n = n'
      · subst hn
        have := b_true hb ⟨rfl, .inr (.inl rfl)⟩
        subst this
        clear hb
        go_enter Tryz.func266, Tryz.ntmps266
        go_wp2
        go_ret
        exact ⟨rfl, below2' _ _ _⟩
      · have gn : (n == n') = false := by simpa using hn
        have H1 := fun (W : World) (h : Below w.heap.size w W) => rLeads_in c (hs.below h) hl ⟨k, n⟩
        have H2 := fun (W : World) (h : Below w.heap.size w W) => rLeads_in c (hs.below h) hl ⟨k, n'⟩
        have hb0 := (Below.heap_alloc (w.alloc (.cells #[.int .u8 k, .int .i64 n] 27)) (.cells #[.int .u8 k, .int .i64 n'] 27) w.heap.size (by simp)).trans (heap_alloc_new w (.cells #[.int .u8 k, .int .i64 n] 27))
        have hb1 := heap_two w (.cells #[.int .u8 k, .int .i64 n] 27) (.cells #[.int .u8 k, .int .i64 n'] 27)
        have hB0 := below2' w (.cells #[.int .u8 k, .int .i64 n] 27) (.cells #[.int .u8 k, .int .i64 n'] 27)
        obtain ⟨c0, c1⟩ := cell_row2 hb0
        obtain ⟨c2, c3⟩ := cell_row2 hb1
        generalize hi1 : leadI S ⟨k, n⟩ = i1 at *
        generalize hi2 : leadI S ⟨k, n'⟩ = i2 at *
        dsimp only at H1 H2
        have HI : Hid _ := And.intro hi1 (And.intro hi2 hb)
        clear hi1 hi2 hb
        go_enter Tryz.func266, Tryz.ntmps266
        go_wp2
        have hsz : ((w.alloc (.cells #[.int .u8 k, .int .i64 n] 27)).alloc (.cells #[.int .u8 k, .int .i64 n'] 27)).heap.size = w.heap.size + 2 := by simp
        generalize hWA : (w.alloc (.cells #[.int .u8 k, .int .i64 n] 27)).alloc (.cells #[.int .u8 k, .int .i64 n'] 27) = WA at *
        clear hWA
        have hszw : w.heap.size ≤ WA.heap.size := by omega
        have hBD : Below WA.heap.size WA WA.drew := below_drew (Below.refl _ _)
        go_region_held3 (fun W => W.cell? ⟨w.heap.size, 0, none⟩ = some (.int .u8 k) ∧ W.cell? ⟨w.heap.size, 1, none⟩ = some (.int .i64 n) ∧ W.cell? ⟨w.heap.size + 1, 0, none⟩ = some (.int .u8 k) ∧ W.cell? ⟨w.heap.size + 1, 1, none⟩ = some (.int .i64 n')) (first | with_reducible exact ⟨c0, c1, c2, c3⟩ | with_reducible exact ⟨d0, d1, d2, d3⟩ | with_reducible exact ⟨f0, f1, f2, f3⟩ | go_keep)
          ((first
            | (go_at_call 245; (with_reducible refine (H1 _ (below_drew hB0)).mono ?_); rintro e w1 ⟨hB1, rfl⟩; obtain ⟨d0, d1⟩ := cell_row2 ((hB1.block w.heap.size (by show w.heap.size < WA.heap.size; omega)).trans hb0); obtain ⟨d2, d3⟩ := cell_row2 ((hB1.block (w.heap.size + 1) (by show w.heap.size + 1 < WA.heap.size; omega)).trans hb1); have hB1' : Below w.heap.size w w1 := (below_drew hB0).trans (hB1.mono hszw))
            | (go_at_call 245; (with_reducible refine (H2 _ (below_drew hB0)).mono ?_); rintro e w1 ⟨hB1, rfl⟩; obtain ⟨d0, d1⟩ := cell_row2 ((hB1.block w.heap.size (by show w.heap.size < WA.heap.size; omega)).trans hb0); obtain ⟨d2, d3⟩ := cell_row2 ((hB1.block (w.heap.size + 1) (by show w.heap.size + 1 < WA.heap.size; omega)).trans hb1); have hB1' : Below w.heap.size w w1 := (below_drew hB0).trans (hB1.mono hszw))
            | (go_at_call 245; (with_reducible refine (H2 _ hB1').mono ?_); rintro e w2 ⟨hB2, rfl⟩; have hB12 : Below WA.heap.size WA w2 := hBD.trans (hB1.trans (hB2.mono hB1.size)); obtain ⟨f0, f1⟩ := cell_row2 ((hB12.block w.heap.size (by omega)).trans hb0); obtain ⟨f2, f3⟩ := cell_row2 ((hB12.block (w.heap.size + 1) (by omega)).trans hb1))
            | (go_at_call 245; (with_reducible refine (H1 _ hB1').mono ?_); rintro e w2 ⟨hB2, rfl⟩; have hB12 : Below WA.heap.size WA w2 := hBD.trans (hB1.trans (hB2.mono hB1.size)); obtain ⟨f0, f1⟩ := cell_row2 ((hB12.block w.heap.size (by omega)).trans hb0); obtain ⟨f2, f3⟩ := cell_row2 ((hB12.block (w.heap.size + 1) (by omega)).trans hb1))))
        all_goals
          clear H1 H2
          have hB2' : Below w.heap.size w w2 := hB1'.trans (hB2.mono hB1'.size)
          by_cases h3 : k = 3
          · subst h3
            clear b0 g0 h0 c0 c1 c2 c3 d0 d1 d2 d3 hb0 hb1
            cases e1 : leadO S ⟨3, n⟩ with
            | none =>
              obtain ⟨hi1, hi2, hb⟩ := HI.out
              have hb' := b_false hb (fun h => by
                rcases h.2 with h | h | ⟨-, o, o', h, -⟩
                · dsimp only at h; omega
                · exact hn h
                · rw [e1] at h; cases h)
              have hi : i1 = -1 := by rw [← hi1]; unfold leadI; rw [e1]
              clear hi1 hi2 hb HI e1
              subst hi hb'
              go_wp2
              go_quiet (fail)
              go_wp2
              go_ret
              exact ⟨rfl, below_drewN' hB2' _⟩
            | some o =>
              obtain ⟨-, -, -, j1, hj1, hj1S, hS1⟩ := leadO_some e1
              cases e2 : leadO S ⟨3, n'⟩ with
              | none =>
                obtain ⟨hi1, hi2, hb⟩ := HI.out
                have hb' := b_false hb (fun h => by
                  rcases h.2 with h | h | ⟨-, o, o', -, h, -⟩
                  · dsimp only at h; omega
                  · exact hn h
                  · rw [e2] at h; cases h)
                have hi : i2 = -1 := by rw [← hi2]; unfold leadI; rw [e2]
                have hi' : i1 = (j1 : Int) := by rw [← hi1]; unfold leadI; rw [e1]; dsimp only at hj1 ⊢; omega
                have h0' : (0 : Int) ≤ (j1 : Int) := by omega
                clear hi1 hi2 hb HI e1 e2 hj1
                subst hi hb' hi'
                go_wp2
                go_quiet (fail)
                go_wp2
                go_ret
                exact ⟨rfl, below_drewN' hB2' _⟩
              | some o' =>
                obtain ⟨-, -, -, j2, hj2, hj2S, hS2⟩ := leadO_some e2
                obtain ⟨b0, off, rfl, -, s1, -⟩ := hs.look hB2' hS1
                obtain ⟨b0', off', ep, -, s2, -⟩ := hs.look hB2' hS2
                simp at ep
                obtain ⟨rfl, rfl⟩ := ep
                obtain ⟨hi1, hi2, hb⟩ := HI.out
                have hi : i2 = (j2 : Int) := by rw [← hi2]; unfold leadI; rw [e2]; dsimp only at hj2 ⊢; omega
                have hi' : i1 = (j1 : Int) := by rw [← hi1]; unfold leadI; rw [e1]; dsimp only at hj1 ⊢; omega
                have h0' : (0 : Int) ≤ (j1 : Int) := by omega
                have h0'' : (0 : Int) ≤ (j2 : Int) := by omega
                have hl1 : (j1 : Int) < (S.length : Int) := by omega
                have hl2 : (j2 : Int) < (S.length : Int) := by omega
                by_cases hss : o.s = o'.s
                · have hb' := b_true hb ⟨rfl, .inr (.inr ⟨rfl, o, o', e1, e2, hss⟩)⟩
                  rw [hss] at s1
                  clear hi1 hi2 hb HI e1 e2 hj1 hj2 hS1 hS2 hss
                  subst hi hb' hi'
                  go_wp2
                  go_quiet (fail)
                  go_wp2
                  go_ret
                  exact ⟨rfl, below_drewN' hB2' _⟩
                · have hb' := b_false hb (fun h => by
                    rcases h.2 with h | h | ⟨-, q, q', h1, h2, h3⟩
                    · dsimp only at h; omega
                    · exact hn h
                    · rw [e1] at h1; rw [e2] at h2; cases h1; cases h2; exact hss h3)
                  clear hi1 hi2 hb HI e1 e2 hj1 hj2 hS1 hS2
                  subst hi hb' hi'
                  have gs : ¬ (o.s.toList = o'.s.toList) := fun h => hss (by rw [ByteArray.toList_eq, ByteArray.toList_eq] at h; cases ho : o.s; cases ho' : o'.s; rw [ho, ho'] at h; congr 1; simpa using h)
                  go_wp2
                  go_quiet (fail)
                  go_wp2
                  go_ret
                  refine ⟨?_, below_drewN' hB2' _⟩
                  first | rfl | (simp_all; done)
          · have g3 : ((k : Int) == 3) = false := by have : ¬ ((k : Int) = 3) := by omega
                                                     simpa using this
            obtain ⟨hi1, hi2, hb⟩ := HI.out
            have hb' := b_false hb (fun h => by
              rcases h.2 with h | h | ⟨h, -⟩
              · exact h0 h
              · exact hn h
              · exact h3 h)
            clear hi1 hi2 hb HI
            subst hb'
            go_wp2
            go_quiet (fail)
            go_wp2
            go_ret
            exact ⟨rfl, below_drewN' hB2' _⟩
  · have hk' : ¬ ((k : Int) = (k' : Int)) := by omega
    have g : ((k : Int) == (k' : Int)) = false := by simpa using hk'
    have := b_false hb (fun h => hk h.1)
    subst this
    clear hb
    go_enter Tryz.func266, Tryz.ntmps266
    go_wp2
    go_ret
    exact ⟨rfl, below2' _ _ _⟩

end Go.Proofs.YtgokofomoachaaaGreatDoor

namespace Go.Proofs.YtgokofomoachaaaGreatDoor
set_option linter.unusedVariables false
set_option linter.unusedSimpArgs false
open Go.RowKit

variable {w : World}

set_option maxRecDepth 20000 in
set_option maxHeartbeats 2000000 in
theorem rKeys_in {p q : Option Addr} {S : List Om} {l : List Vl} (c cq : Nat) (hs : IsSt w p S) (hl : S.length ≤ 1048576) (hv : Vals w q l) (hll : l.length ≤ 1048576) (b : Bool) (hb : b = true ↔ keysP S l) :
    Calls Tryz.prog 254 #[.slice p S.length c, .slice q l.length cq] w fun e w' => e = .returned (.bool b) ∧ Below w.heap.size w w' := by
  go_enter Tryz.func254, Tryz.ntmps254
  go_wp2
  go_loopw [5] (fun k wr => ∃ i I : Nat, k = .int .i64 (I : Int) ∧ Hid (I = 2 * i) ∧ I ≤ l.length + 1 ∧ (∀ i' j a b, i' < i → l[2 * i']? = some a → l[2 * j]? = some b → j < i' → ¬ sameP S a b) ∧ Below w.heap.size w wr) (fun k _ => l.length + 1 - (intOf k).toNat)
  case atStart => exact ⟨0, 0, rfl, rfl, by omega, (fun i' j a b h => by omega), Below.refl _ _⟩
  case round =>
    rename World => wo
    obtain ⟨i, I, rfl, HI, hi, hh, hBo⟩ := hrel
    have HH : Hid _ := hh
    clear hh
    by_cases hin : I < l.length
    · have hin' : (I : Int) < (l.length : Int) := by omega
      obtain ⟨x, hx⟩ : ∃ v, l[I]? = some v := ⟨l[I], by simp⟩
      have HX : Hid _ := hx
      clear hx
      go_wp2
      go_loopw [6] (fun k wr => ∃ j J : Nat, k = .int .i64 (J : Int) ∧ Hid (J = 2 * j) ∧ Hid (j ≤ i) ∧ J ≤ I ∧ (∀ j' b, j' < j → l[2 * j']? = some b → ¬ sameP S x b) ∧ Below w.heap.size w wr) (fun k _ => l.length + 1 - (intOf k).toNat)
      case atStart => exact ⟨0, 0, rfl, rfl, hid (by omega), by omega, (fun j' b h => by omega), hBo⟩
      case round =>
        obtain ⟨j, J, rfl, HJJ, HJI, hj, hhj, hB⟩ := hrel
        have HJ : Hid _ := hhj
        clear hhj
        by_cases hjn : J < I
        · have hjn' : (J : Int) < (I : Int) := by omega
          have hjl : (J : Int) < (l.length : Int) := by omega
          obtain ⟨y, hy⟩ : ∃ v, l[J]? = some v := ⟨l[J]'(by omega), by simp⟩
          obtain ⟨b0, off, rfl, c0, c1⟩ := (hv.below hB) I x HX.out
          obtain ⟨b0', off', ep, c2, c3⟩ := (hv.below hB) J y hy
          simp at ep
          obtain ⟨rfl, rfl⟩ := ep
          have HY : Hid _ := hy
          clear hy
          obtain ⟨b1, hb1⟩ := b_of (sameP S x y)
          have H := fun (W : World) (h : Below w.heap.size w W) => rSame_in c (hs.below h) hl x y b1 hb1
          cases b1 with
          | true =>
            have hbf := b_false hb (fun h => h i j x y (by rw [← HI.out]; exact HX.out) (by rw [← HJJ.out]; exact HY.out) (by have := HI.out; have := HJJ.out; omega) (hb1.1 rfl))
            subst hbf
            clear hb hb1
            go_wp2
            go_region_with
              ((go_at_call 266; refine (H _ (below_drew hB)).mono ?_; rintro e w1 ⟨rfl, hB1⟩))
            all_goals
              go_wp2
              go_ret
              exact ⟨rfl, (below_drew hB).trans (hB1.mono hB.size)⟩
          | false =>
            have hns : ¬ sameP S x y := fun h => by have := hb1.2 h; cases this
            clear hb1
            go_wp2
            go_region_with
              ((go_at_call 266; refine (H _ (below_drew hB)).mono ?_; rintro e w1 ⟨rfl, hB1⟩))
            all_goals
              go_wp2
              go_roundw
              case rel =>
                have hI := HI.out
                have hJ := HJJ.out
                refine ⟨j + 1, J + 2, by simp, hid (by omega), hid (by omega), by omega, ?_, (below_drew hB).trans (hB1.mono hB.size)⟩
                intro j' y' hj' hy'
                by_cases e : j' < j
                · exact HJ.out j' y' e hy'
                · have : j' = j := by omega
                  subst this
                  rw [← hJ, HY.out] at hy'; cases hy'
                  exact hns
              case measure => simp [intOf]; omega
        · have hjn' : ¬ ((J : Int) < (I : Int)) := by omega
          go_wp2
          go_roundw
          case rel =>
            have hI := HI.out
            have hJ := HJJ.out
            have hJI := HJI.out
            refine ⟨i + 1, I + 2, by simp, hid (by omega), by omega, ?_, hB⟩
            intro i' j' a' b' hi' ha hb' hlt
            by_cases e : i' < i
            · exact HH.out i' j' a' b' e ha hb' hlt
            · have : i' = i := by omega
              subst this
              rw [← hI, HX.out] at ha; cases ha
              exact HJ.out j' b' (by omega) hb'
          case measure => simp [intOf]; omega
    · have hin' : ¬ ((I : Int) < (l.length : Int)) := by omega
      have hbt := b_true hb (fun i' j' a' b' ha hb' hlt => HH.out i' j' a' b' (by have := (List.getElem?_eq_some_iff.1 ha).1; have := HI.out; omega) ha hb' hlt)
      subst hbt
      clear hb
      go_wp2
      go_ret
      exact ⟨rfl, hBo⟩

end Go.Proofs.YtgokofomoachaaaGreatDoor
