/- ObjectIsMap: the walk. -/
import Derived.Test.YtkombdkhodjckaaIsMapEnd
import Derived.Laws.EntriesVeiled
import Derived.Deep.RegionLaw
import Derived.Deep.AppendLies
namespace Go.Proofs.Ytkombdkhodjckaa
set_option linter.unusedVariables false
set_option linter.unusedSimpArgs false
open Go.RowKit Go.Maps

variable {w : World}

/-- Pairs in memory. -/
def PairsT (w : World) (p : Option Addr) (xs : List (Int × Int)) : Prop := ∀ (j : Nat) (q : Int × Int), xs[j]? = some q → (Rng q.1 ∧ Rng q.2) ∧ ∃ g off, p = some ⟨g, off, none⟩ ∧ g < w.heap.size ∧ w.cell? ⟨g, off + j * 2, none⟩ = some (.int .i64 q.1) ∧ w.cell? ⟨g, off + j * 2 + 1, none⟩ = some (.int .i64 q.2)

set_option maxRecDepth 20000 in
set_option maxHeartbeats 4000000 in
theorem objectIsMap_short {xs ys : List (Int × Int)} {pa pb : Option Addr} (ca cb : Nat) (ha : PairsT w pa xs) (hb : PairsT w pb ys) (h60 : xs.length ≤ 60) (h100 : ys.length ≤ 100) (tb : Bool) :
    Calls Try.prog 4 #[.slice pa xs.length ca, .slice pb ys.length cb, .bool tb] w fun e w' => e = .returned (.bool true) ∧ Below w.heap.size w w' := by
  have h60' : ¬ (60 : Int) < (xs.length : Int) := by omega
  have h100' : ¬ (100 : Int) < (ys.length : Int) := by omega
  have AL := alive_in (w.alloc (.cells #[.bool tb] 4))
  have hB0 := below1 w (.cells #[.bool tb] 4)
  have a5 := heap_alloc_new w (.cells #[.bool tb] 4)
  go_enter Try.func4, Try.ntmps4
  go_wp2_with (first
    | (go_at_call 7; (with_reducible refine AL.mono ?_); clear AL; rintro e w1 ⟨rfl, hB1⟩; have hBx := hB0.trans (hB1.mono hB0.size); have s1 := hB1.size; have b51 := (hB1.block _ (Array.getElem?_eq_some_iff.1 a5).1).trans a5; have a1 := great_in 40000 w1 (by omega) (by omega))
    | (go_at_call 5; refine a1.mono ?_; clear a1; rintro e w2 ⟨bh, b, vw2, vb2, rfl, hp2, hB2⟩
       have h9 := heap_two w2 (.cells #[.pointer (some ⟨bh, 0, none⟩)] 22) (.cells #[.nilFunc] 42)
       have c9 := cell_row1 h9
       have f9 := frozen_of_row _ (w2.heap.size + 1) 0 _ _ h9))
  have hBW := below4' w2 (.cells #[.pointer (some ⟨bh, 0, none⟩)] 22) (.cells #[.func (.func 15) #[] #[.pointer (some ⟨w.heap.size, 0, none⟩)]] 42) (.cells #[.slice none 0 0] 44) (.cells #[.slice none 0 0] 44)
  have hW : Ws w1.heap.size bh b w.heap.size w2.heap.size (w2.heap.size + 1) (w2.heap.size + 1 + 1) (w2.heap.size + 1 + 1 + 1) tb ((((w2.alloc (.cells #[.pointer (some ⟨bh, 0, none⟩)] 22)).alloc (.cells #[.func (.func 15) #[] #[.pointer (some ⟨w.heap.size, 0, none⟩)]] 42)).alloc (.cells #[.slice none 0 0] 44)).alloc (.cells #[.slice none 0 0] 44)) 0 [] [] := by
    have s2 := hB2.size
    have hlt : w.heap.size < w1.heap.size := by simp at s1; omega
    obtain ⟨x7, x9, x11, x12, -⟩ := later4o (Below.refl _ ((((w2.alloc (.cells #[.pointer (some ⟨bh, 0, none⟩)] 22)).alloc (.cells #[.func (.func 15) #[] #[.pointer (some ⟨w.heap.size, 0, none⟩)]] 42)).alloc (.cells #[.slice none 0 0] 44)).alloc (.cells #[.slice none 0 0] 44)))
    refine ⟨⟨_, _, hp2.below hBW⟩, (hBW.block _ (by omega)).trans ((hB2.block _ hlt).trans b51), hlt, x7, x9, .slice none 0 0, .slice none 0 0, x11, x12, ⟨rfl, .inl ⟨rfl, rfl⟩⟩, ⟨rfl, .inl ⟨rfl, rfl⟩⟩, (fun k e => by cases e), by omega, by omega, by omega⟩
  have hBn : Below w.heap.size w ((((w2.alloc (.cells #[.pointer (some ⟨bh, 0, none⟩)] 22)).alloc (.cells #[.func (.func 15) #[] #[.pointer (some ⟨w.heap.size, 0, none⟩)]] 42)).alloc (.cells #[.slice none 0 0] 44)).alloc (.cells #[.slice none 0 0] 44)) := hBx.trans ((hB2.mono hBx.size).trans (hBW.mono (Nat.le_trans hBx.size hB2.size)))
  have hn0 : w.heap.size < w1.heap.size := by simp at s1; omega
  clear hBW hp2 hB2 h9 c9 f9 b51 s1 hBx hB1 a5 hB0
  generalize ((((w2.alloc (.cells #[.pointer (some ⟨bh, 0, none⟩)] 22)).alloc (.cells #[.func (.func 15) #[] #[.pointer (some ⟨w.heap.size, 0, none⟩)]] 42)).alloc (.cells #[.slice none 0 0] 44)).alloc (.cells #[.slice none 0 0] 44)) = W0 at hW hBn ⊢
  generalize w2.heap.size + 1 + 1 + 1 = B12 at hW ⊢
  generalize w2.heap.size + 1 + 1 = B11 at hW ⊢
  generalize w2.heap.size + 1 = B9 at hW ⊢
  generalize w2.heap.size = B7 at hW ⊢
  generalize w1.heap.size = n₀ at hW hn0 ⊢
  obtain ⟨B5, hB5⟩ : ∃ B, w.heap.size = B := ⟨_, rfl⟩
  rw [hB5] at hW ⊢
  have HW0 : Hid (Below w.heap.size w W0) := hBn
  clear hBn w1 w2
  go_loopw [10, 14] (fun av iv wr => ∃ (t : Value) (i : Nat) (ps : List (Vl × Vl)) (used : Nat) (M : List Ob) (nv : List (Int × Int)), t = av ∧ iv = .int .i64 i ∧ i ≤ xs.length ∧ wr.ownsRow n₀ 26 2 t (2 * i) (vcells (flat ps)) ∧ Ws n₀ bh b B5 B7 B9 B11 B12 tb wr used M nv ∧ Rel M tb ps ((xs.take i).map (fun q => (nameI tb q.1, q.2))) ∧ nv = foldNV ((xs.take i).map (fun q => (nameI tb q.1, q.2))) ∧ Nms tb nv ∧ nv.length ≤ i ∧ used ≤ 3 * i ∧ Below n₀ W0 wr) (fun _ iv _ => xs.length - (intOf iv).toNat)
  case atStart => exact ⟨_, 0, [], 0, [], [], rfl, rfl, by omega, ⟨rfl, .inl ⟨rfl, rfl⟩⟩, hW, trivial, rfl, Nms.nil, by simp, by omega, Below.refl _ _⟩
  case round =>
    obtain ⟨t, i, ps, used, M, nv, rfl, rfl, hi, hrow, hWs, hrel, hnv, hnm, hnl, hu, hB⟩ := hrel
    have c7 := cell_row1 hWs.b7
    have hn0' := hWs.n₀le
    by_cases hil : i < xs.length
    · have hil' : (i : Int) < (xs.length : Int) := by omega
      obtain ⟨q, hq⟩ : ∃ q, xs[i]? = some q := ⟨xs[i], by simp⟩
      obtain ⟨⟨hr1, hr2⟩, g, off, rfl, hg, ca0, ca1⟩ := ha i q hq
      have hBw : Below w.heap.size w wr := HW0.out.trans (hB.mono (by omega))
      have CA : ∀ W, Below n₀ wr W → W.cell? ⟨g, off + i * 2, none⟩ = some (.int .i64 q.1) ∧ W.cell? ⟨g, off + i * 2 + 1, none⟩ = some (.int .i64 q.2) := fun W hBW => by
        have e : W.heap[g]? = w.heap[g]? := (hBW.block g (by omega)).trans (hBw.block g hg)
        exact ⟨(World.cell?_of_block (a := ⟨g, off + i * 2, none⟩) e).trans ca0, (World.cell?_of_block (a := ⟨g, off + i * 2 + 1, none⟩) e).trans ca1⟩
      obtain ⟨d0, d1⟩ := CA wr.drew (below_drew (Below.refl _ _))
      have HK := fun W (hBW : Below wr.heap.size wr W) => hWs.keyF q.1 hr1 (by omega) W hBW
      have HC : Hid (∀ W, Below n₀ wr W → W.cell? ⟨g, off + i * 2, none⟩ = some (.int .i64 q.1) ∧ W.cell? ⟨g, off + i * 2 + 1, none⟩ = some (.int .i64 q.2)) := CA
      have HR : Hid (wr.ownsRow n₀ 26 2 t (2 * i) (vcells (flat ps))) := hrow
      clear CA hrow ca0 ca1
      obtain ⟨i0, hi0, hz0, hz1, hz2⟩ := info_parts infoV
      go_wp2_with (first | fail)
      go_region_law (first
        | (refine step_append_lies _ (by rfl) _ _ _ (by rfl) n₀ 26 i0 _ 2 16 Try.underlying43 hi0 hz0 hz1 hz2 rfl (by omega) t (2 * i) (vcells (flat ps)) (by rfl) (by obtain ⟨_, _, _, _, _, _, hk⟩ := hF; first | exact (hk.row HR.out).alloc _ | exact ((hk.row HR.out).alloc _).drew) ⟨w4.heap.size, 0, none⟩ 2 2 [.int .u8 v.k, .int .i64 v.n, .int .u8 2, .int .i64 q.2] (by rfl) rfl (World.news_of_block (cs := #[.int .u8 v.k, .int .i64 v.n, .int .u8 2, .int .i64 q.2]) (t := 26) (fr := (0, 0)) (heap_alloc_new w4 _)) (by simp [Value.oneCell']) (by omega) (by unfold maxLen; omega) (by omega) (by obtain ⟨_, _, hw, _⟩ := hF; have := hw.n₀le; simp; omega) (w4.heap.size + 1) (by simp) ?_
           intro g6 c6 w6 ho6 hg6 hat6 hlt6
           obtain ⟨used6, M6, hW6, hk6, hu6, hM6, hB6⟩ : ∃ used6 M6, Ws n₀ bh b B5 B7 B9 B11 B12 tb w6 used6 M6 nv ∧ KeyIs M6 tb v (nameI tb q.1) ∧ used6 ≤ used + 3 ∧ (∀ x ∈ M, x ∈ M6) ∧ Below n₀ wr w6 := (by
             obtain ⟨u', M', h1, h2, h3, h4, h5⟩ := hF
             have h6 := h1.grown (h5.row HR.out) (below1 w4 (.cells #[.int .u8 v.k, .int .i64 v.n, .int .u8 2, .int .i64 q.2] 26)) (by first | exact hg6 | exact ⟨hg6.os, hg6.tape, hg6.output, hg6.size, hg6.block⟩)
             exact ⟨u', M', h6.1, h2, h3, h4, h5.below.trans h6.2⟩))
        | (refine step_append_lies _ (by rfl) _ _ _ (by rfl) n₀ 26 i0 _ 2 16 Try.underlying43 hi0 hz0 hz1 hz2 rfl (by omega) t (2 * i) (vcells (flat ps)) (by rfl) (by obtain ⟨_, _, _, _, _, _, hk⟩ := hF; first | exact (hk.row HR.out).alloc _ | exact ((hk.row HR.out).alloc _).drew) ⟨w3.heap.size, 0, none⟩ 2 2 [.int .u8 v.k, .int .i64 v.n, .int .u8 2, .int .i64 q.2] (by rfl) rfl (World.news_of_block (cs := #[.int .u8 v.k, .int .i64 v.n, .int .u8 2, .int .i64 q.2]) (t := 26) (fr := (0, 0)) (heap_alloc_new w3 _)) (by simp [Value.oneCell']) (by omega) (by unfold maxLen; omega) (by omega) (by obtain ⟨_, _, hw, _⟩ := hF; have := hw.n₀le; simp; omega) (w3.heap.size + 1) (by simp) ?_
           intro g6 c6 w6 ho6 hg6 hat6 hlt6
           obtain ⟨used6, M6, hW6, hk6, hu6, hM6, hB6⟩ : ∃ used6 M6, Ws n₀ bh b B5 B7 B9 B11 B12 tb w6 used6 M6 nv ∧ KeyIs M6 tb v (nameI tb q.1) ∧ used6 ≤ used + 3 ∧ (∀ x ∈ M, x ∈ M6) ∧ Below n₀ wr w6 := (by
             obtain ⟨u', M', h1, h2, h3, h4, h5⟩ := hF
             have h6 := h1.grown (h5.row HR.out) (below1 w3 (.cells #[.int .u8 v.k, .int .i64 v.n, .int .u8 2, .int .i64 q.2] 26)) (by first | exact hg6 | exact ⟨hg6.os, hg6.tape, hg6.output, hg6.size, hg6.block⟩)
             exact ⟨u', M', h6.1, h2, h3, h4, h5.below.trans h6.2⟩))
        | (go_simp; go_at_call 14
           (first | (with_reducible refine (HK _ (below_drew (Below.refl _ _))).mono ?_) | (with_reducible refine (HK _ hBm).mono ?_))
           rintro e w3 ⟨v, rfl, hF⟩
           have hB3 : Below n₀ wr w3 := (by obtain ⟨_, _, _, _, _, _, hk⟩ := hF; exact hk.below)
           obtain ⟨d2, d3⟩ := HC.out w3 hB3
           (try dsimp only [Oper.upon]))
        | (go_simp; go_at_call 13
           refine (number_in _ _).mono ?_
           rintro e w4 ⟨rfl, hB4⟩
           (first
             | (have hF := hF.below hB4)
             | (have hBm : Below wr.heap.size wr w4 := (below_drew (Below.refl wr.heap.size wr)).trans hB4
                obtain ⟨d4, d5⟩ := HC.out w4 (hBm.mono hn0')))
           (try dsimp only [Oper.upon])))
      all_goals
        clear hat6 hlt6 hg6 d0 d1 d2 d3 hB3
        obtain ⟨d6, d7⟩ := HC.out w6.drew (below_drew hB6)
        have HP := fun W (hBW : Below w6.heap.size w6 W) => (hW6.below hBW).put q.1 q.2 hr1 (by omega)
        have HO : Hid (w6.ownsRow n₀ 26 2 (.slice (some ⟨g6, 0, none⟩) (2 * i + 2) c6) (2 * i + 2) (vcells (flat ps) ++ [.int .u8 v.k, .int .i64 v.n, .int .u8 2, .int .i64 q.2])) := ho6
        have HL : Hid (Rel M tb ps ((xs.take i).map (fun q => (nameI tb q.1, q.2)))) := hrel
        have HV : Hid (nv = foldNV ((xs.take i).map (fun q => (nameI tb q.1, q.2)))) := hnv
        clear ho6 hrel hnv
        go_wp2_with (first | fail)
        go_region_law (first
          | (go_simp; go_at_call 16
             (with_reducible refine (HP _ (below_drew (Below.refl _ _))).mono ?_)
             rintro e w7 ⟨rfl, hW7, hK7⟩
             (try dsimp only [Oper.upon])))
        go_wp2
      all_goals
        refine ⟨?_, by simp [intOf]; omega⟩
        have hK8 : Kp n₀ w6 w7 := (Kp.of (below_drew (Below.refl _ _)) hW6.n₀le).trans hK7
        have e1 : (xs.take (i + 1)).map (fun q => (nameI tb q.1, q.2)) = (xs.take i).map (fun q => (nameI tb q.1, q.2)) ++ [(nameI tb q.1, q.2)] := by
          rw [List.take_add_one, hq, List.map_append]; rfl
        have r7 := hK8.row HO.out
        have e2 : vcells (flat (ps ++ [(v, ⟨2, q.2⟩)])) = vcells (flat ps) ++ [.int .u8 v.k, .int .i64 v.n, .int .u8 2, .int .i64 q.2] := by
          rw [flat_append, vcells_append]; rfl
        have hpl := putNV_len (nameI tb q.1) q.2 nv
        refine ⟨_, i + 1, ps ++ [(v, ⟨2, q.2⟩)], used6, M6, _, rfl, by simp, by omega, ?_, hW7, ?_, ?_, hnm.put hr2, by omega, by omega, hB.trans (hB6.trans hK8.below)⟩
        · rw [e2]; exact r7
        · rw [e1]; exact (HL.out.kept (fun x hx _ => hM6 x hx)).app hk6 hr2
        · rw [e1, foldNV_snoc, ← HV.out]
    · have hil' : ¬ (i : Int) < (xs.length : Int) := by omega
      obtain ⟨p, c, rfl, hv⟩ := vals_of_row hrow
      have hRl : ((xs.take i).map (fun q => (nameI tb q.1, q.2))).length = i := by rw [List.length_map, List.length_take]; omega
      have H2 := hWs.mnew hrel c hv (by omega) (by omega)
      rw [hRl, ← hnv] at H2
      clear hrow hv hrel hRl hnv hW
      go_wp2_with (first
        | (go_at_call 17; (with_reducible refine H2.mono ?_); clear H2; rintro e w8 ⟨rfl, used8, M8, inn8, hW8, hM8, hu8, hK8⟩))
      have b15 : Bx (w8.alloc (.cells #[.int .u8 5, .int .i64 used] 26)) w8.heap.size 5 used := heap_alloc_new w8 _
      have hW9 := hW8.below (below1 w8 (.cells #[.int .u8 5, .int .i64 used] 26))
      have hB9 : Below n₀ W0 (w8.alloc (.cells #[.int .u8 5, .int .i64 used] 26)) := hB.trans (hK8.below.trans ((below1 w8 _).mono hW8.n₀le))
      clear hW8 hK8 hWs hB hn0'
      generalize (w8.alloc (.cells #[.int .u8 5, .int .i64 used] 26)) = W9 at b15 hW9 hB9 ⊢
      generalize w8.heap.size = B15 at b15 ⊢
      obtain ⟨at_, hat⟩ : ∃ a, used = a := ⟨_, rfl⟩
      rw [hat] at b15 hM8
      clear hat
      clear c7 w8
      go_loopw [16, 17] (fun ev iv wr => ∃ (j used M' : _) (nv : List (Int × Int)) (room inn : Nat), ev = .int .i64 0 ∧ iv = .int .i64 (j : Nat) ∧ j ≤ ys.length ∧ Ws n₀ bh b B5 B7 B9 B11 B12 tb wr used M' nv ∧ Mp M' tb at_ nv room inn ∧ Nms tb nv ∧ nv.length ≤ 60 + j ∧ room ≤ 700 ∧ used ≤ 1000 + 3 * j + 5 * room ∧ Bx wr B15 5 at_ ∧ Below n₀ W0 wr) (fun _ iv _ => ys.length - (intOf iv).toNat)
      case atStart => exact ⟨0, used8, M8, nv, 2 * i, inn8, rfl, rfl, by omega, hW9, hM8, hnm, by omega, by omega, by omega, b15, hB9⟩
      case round =>
        obtain ⟨j, used, M', nv, room, inn, rfl, rfl, hj, hWs, hMp, hnm, hnl, hroom, hu, b15, hB⟩ := hrel
        have hn0' := hWs.n₀le
        by_cases hjl : j < ys.length
        -- LOOP2 A
        · have hjl' : (j : Int) < (ys.length : Int) := by omega
          obtain ⟨q, hq⟩ : ∃ q, ys[j]? = some q := ⟨ys[j], by simp⟩
          obtain ⟨⟨hr1, hr2⟩, g, off, rfl, hg, ca0, ca1⟩ := hb j q hq
          have hBw : Below w.heap.size w wr := HW0.out.trans (hB.mono (by omega))
          have CA : ∀ W, Below n₀ wr W → W.cell? ⟨g, off + j * 2, none⟩ = some (.int .i64 q.1) ∧ W.cell? ⟨g, off + j * 2 + 1, none⟩ = some (.int .i64 q.2) := fun W hBW => by
            have e : W.heap[g]? = w.heap[g]? := (hBW.block g (by omega)).trans (hBw.block g hg)
            exact ⟨(World.cell?_of_block (a := ⟨g, off + j * 2, none⟩) e).trans ca0, (World.cell?_of_block (a := ⟨g, off + j * 2 + 1, none⟩) e).trans ca1⟩
          obtain ⟨d0, d1⟩ := CA wr.drew (below_drew (Below.refl _ _))
          have e7 : wr.drew.cell? ⟨B7, 0, none⟩ = some (.pointer (some ⟨bh, 0, none⟩)) := cell_row1 hWs.b7
          have e15 : wr.drew.cell? ⟨B15, 0, none⟩ = some (.int .u8 5) := b15.cells.1.1
          have e16 : wr.drew.cell? ⟨B15, 1, none⟩ = some (.int .i64 at_) := b15.cells.1.2
          have HK := fun W (hBW : Below wr.heap.size wr W) => hWs.keyF q.1 hr1 (by omega) W hBW
          have HC : Hid (∀ W, Below n₀ wr W → W.cell? ⟨g, off + j * 2, none⟩ = some (.int .i64 q.1) ∧ W.cell? ⟨g, off + j * 2 + 1, none⟩ = some (.int .i64 q.2)) := CA
          have HM := fun (v : Vl) (wf : World) (hF : KeyFin n₀ bh b B5 B7 B9 B11 B12 tb used M' nv v (nameI tb q.1) wr wf) => hF.mput hMp hr2 (by omega) hroom (by omega)
          clear CA ca0 ca1
          have S0 : wr.drew.cell? ⟨B7, 0, none⟩ = some (.pointer (some ⟨bh, 0, none⟩)) ∧ wr.drew.cell? ⟨B15, 0, none⟩ = some (.int .u8 5) ∧ wr.drew.cell? ⟨B15, 1, none⟩ = some (.int .i64 at_) ∧ wr.drew.cell? ⟨g, off + j * 2, none⟩ = some (.int .i64 q.1) ∧ wr.drew.cell? ⟨g, off + j * 2 + 1, none⟩ = some (.int .i64 q.2) := ⟨e7, e15, e16, d0, d1⟩
          clear e7 e15 e16 d0 d1
          go_wp2_with (first | fail)
          go_region_held3 (fun W => W.cell? ⟨B7, 0, none⟩ = some (.pointer (some ⟨bh, 0, none⟩)) ∧ W.cell? ⟨B15, 0, none⟩ = some (.int .u8 5) ∧ W.cell? ⟨B15, 1, none⟩ = some (.int .i64 at_) ∧ W.cell? ⟨g, off + j * 2, none⟩ = some (.int .i64 q.1) ∧ W.cell? ⟨g, off + j * 2 + 1, none⟩ = some (.int .i64 q.2)) (first | with_reducible exact S6 | with_reducible exact S4 | with_reducible exact S3 | with_reducible exact S0 | go_keep)
            ((first
            | (go_at_call 18
               (with_reducible refine (HM _ _ hF).mono ?_)
               rintro e w6 ⟨rfl, used6, M6, room6, inn6, hW6, hM6, hro6, hu6, hK6⟩
               have S6 : w6.cell? ⟨B7, 0, none⟩ = some (.pointer (some ⟨bh, 0, none⟩)) ∧ w6.cell? ⟨B15, 0, none⟩ = some (.int .u8 5) ∧ w6.cell? ⟨B15, 1, none⟩ = some (.int .i64 at_) ∧ w6.cell? ⟨g, off + j * 2, none⟩ = some (.int .i64 q.1) ∧ w6.cell? ⟨g, off + j * 2 + 1, none⟩ = some (.int .i64 q.2) := ⟨cell_row1 hW6.b7, (hK6.bx b15).cells.1.1, (hK6.bx b15).cells.1.2, HC.out w6 hK6.below⟩)
            | (go_at_call 14
               (first | (with_reducible refine (HK _ (below_drew (Below.refl _ _))).mono ?_) | (with_reducible refine (HK _ hBm).mono ?_))
               rintro e w3 ⟨v, rfl, hF⟩
               have S3 : w3.cell? ⟨B7, 0, none⟩ = some (.pointer (some ⟨bh, 0, none⟩)) ∧ w3.cell? ⟨B15, 0, none⟩ = some (.int .u8 5) ∧ w3.cell? ⟨B15, 1, none⟩ = some (.int .i64 at_) ∧ w3.cell? ⟨g, off + j * 2, none⟩ = some (.int .i64 q.1) ∧ w3.cell? ⟨g, off + j * 2 + 1, none⟩ = some (.int .i64 q.2) := ⟨(hF.cells b15).2.1, (hF.cells b15).2.2.1, (hF.cells b15).2.2.2, HC.out w3 (hF.cells b15).1⟩)
            | (go_at_call 13
               refine (number_in _ _).mono ?_
               rintro e w4 ⟨rfl, hB4⟩
               (first
                 | (have hF := hF.below hB4
                    have S4 : w4.cell? ⟨B7, 0, none⟩ = some (.pointer (some ⟨bh, 0, none⟩)) ∧ w4.cell? ⟨B15, 0, none⟩ = some (.int .u8 5) ∧ w4.cell? ⟨B15, 1, none⟩ = some (.int .i64 at_) ∧ w4.cell? ⟨g, off + j * 2, none⟩ = some (.int .i64 q.1) ∧ w4.cell? ⟨g, off + j * 2 + 1, none⟩ = some (.int .i64 q.2) := ⟨(hF.cells b15).2.1, (hF.cells b15).2.2.1, (hF.cells b15).2.2.2, HC.out w4 (hF.cells b15).1⟩)
                 | (have hBm : Below wr.heap.size wr w4 := (below_drew (Below.refl wr.heap.size wr)).trans hB4
                    have S4 : w4.cell? ⟨B7, 0, none⟩ = some (.pointer (some ⟨bh, 0, none⟩)) ∧ w4.cell? ⟨B15, 0, none⟩ = some (.int .u8 5) ∧ w4.cell? ⟨B15, 1, none⟩ = some (.int .i64 at_) ∧ w4.cell? ⟨g, off + j * 2, none⟩ = some (.int .i64 q.1) ∧ w4.cell? ⟨g, off + j * 2 + 1, none⟩ = some (.int .i64 q.2) := ⟨cell_row1 (hWs.below hBm).b7, (b15.below hBm).cells.1.1, (b15.below hBm).cells.1.2, HC.out w4 (hBm.mono hn0')⟩)))))
          all_goals
            obtain ⟨d6, d7⟩ := HC.out w6.drew (below_drew hK6.below)
            have HP := fun W (hBW : Below w6.heap.size w6 W) => (hW6.below hBW).put q.1 q.2 hr1 (by omega)
            clear S6
            go_wp2_with (first | fail)
            go_region_law (first
              | (go_simp; go_at_call 16
                 (with_reducible refine (HP _ (below_drew (Below.refl _ _))).mono ?_)
                 rintro e w7 ⟨rfl, hW7, hK7⟩
                 (try dsimp only [Oper.upon])))
            go_wp2
          all_goals
            refine ⟨?_, by simp [intOf]; omega⟩
            have hK8 : Kp n₀ w6 w7 := (Kp.of (below_drew (Below.refl _ _)) hW6.n₀le).trans hK7
            have hpl := putNV_len (nameI tb q.1) q.2 nv
            exact ⟨j + 1, used6, M6, _, room6, inn6, rfl, by simp, by omega, hW7, hM6, hnm.put hr2, by omega, hro6, by omega, hK8.bx (hK6.bx b15), hB.trans (hK6.below.trans hK8.below)⟩
        -- LOOP2 B
        · have hjl' : ¬ (j : Int) < (ys.length : Int) := by omega
          have e7 := cell_row1 hWs.b7
          have e15 := b15.cells.1.1
          have e16 := b15.cells.1.2
          have hn1 : nv.length ≤ 160 := by omega
          have HI := hWs.mitems hMp (by omega)
          have hu2 : used ≤ 5000 := by omega
          clear hroom hnl hu
          go_wp2_with (first
            | (go_at_call 19; (with_reducible refine HI.mono ?_); clear HI; rintro e w10 ⟨pi, ci, ps, rfl, hre, hrow, hB10⟩
               have hWs10 := hWs.below hB10
               have f7 := cell_row1 hWs10.b7
               have f15 := (b15.below hB10).cells.1.1
               have f16 := (b15.below hB10).cells.1.2
               have HL := hWs10.mlen hMp (by omega))
            | (go_at_call 10; (with_reducible refine HL.mono ?_); clear HL; rintro e w11 ⟨rfl, hB11⟩; refine halt_here ?_))
          unfold Halted
          have hWs11 := hWs10.below hB11
          obtain ⟨sn, sv, hN⟩ := hWs11.nv
          obtain ⟨pn, cn, rfl, -, -, hpn⟩ := row_form1 hN.rn
          obtain ⟨pv, cv, rfl, -, -, hpv⟩ := row_form1 hN.rv
          have c11 := cell_row1 hN.b11
          have hL0 : Lww n₀ bh b B5 B7 B9 B11 B12 B15 at_ tb nv pn cn pv cv pi ci ps used w11 := ⟨used, M', room, inn, Nat.le_refl _, hWs11, hN, hMp, (b15.below hB10).below hB11, hre, (hWs10.kp hB11).row (row_mono2 hrow hn0')⟩
          have hBz : Below n₀ W0 w11 := hB.trans ((hB10.mono hn0').trans (hB11.mono hWs10.n₀le))
          have hrl := hre.len
          have hrg : ∀ (i : Nat) (q : Int × Int), nv[i]? = some q → ∃ p : Vl × Vl, ps[i]? = some p ∧ p.2 = ⟨2, q.2⟩ := fun i q h => by obtain ⟨p, h1, _, h2, _⟩ := hre.get h; exact ⟨p, h1, h2⟩
          have hpi : 0 < nv.length → ∃ g, pi = some ⟨g, 0, none⟩ := fun h => by
            obtain ⟨g, e⟩ := row_some2 hrow (by omega)
            exact ⟨g, e⟩
          clear hWs hMp b15 hB e7 e15 e16 hre hrow hB10 hWs10 f7 f15 f16 hB11 hWs11 hN hn0' hrl
          have hn2 : (nv.length : Int) ≤ 160 := by omega
          have HRG : Hid (∀ (i : Nat) (q : Int × Int), nv[i]? = some q → ∃ p : Vl × Vl, ps[i]? = some p ∧ p.2 = ⟨2, q.2⟩) := hrg
          have HPN : Hid (0 < nv.length → ∃ g, pn = some ⟨g, 0, none⟩) := hpn
          have HPV : Hid (0 < nv.length → ∃ g, pv = some ⟨g, 0, none⟩) := hpv
          have HPI : Hid (0 < nv.length → ∃ g, pi = some ⟨g, 0, none⟩) := hpi
          clear hrg hpn hpv hpi
          go_wp2_with (first | fail)
          go_loopw [22] (fun iv wr => ∃ (i : Nat), iv = .int .i64 i ∧ i ≤ nv.length ∧ Lww n₀ bh b B5 B7 B9 B11 B12 B15 at_ tb nv pn cn pv cv pi ci ps (used + 6 * i) wr ∧ Below n₀ W0 wr) (fun iv _ => nv.length - (intOf iv).toNat)
          case atStart => exact ⟨0, rfl, by omega, hL0, hBz⟩
          case round =>
            clear hL0 hBz c11
            obtain ⟨i, rfl, hi, hLw, hB⟩ := hrel
            by_cases hil : i < nv.length
            · -- LOOP3 A
              have hil' : (i : Int) < (nv.length : Int) := by omega
              obtain ⟨q, hq⟩ : ∃ q, nv[i]? = some q := ⟨nv[i], by simp [hil]⟩
              obtain ⟨p, hp, hp2⟩ := HRG.out i q hq
              obtain ⟨gn, rfl⟩ := HPN.out (by omega)
              obtain ⟨gv, rfl⟩ := HPV.out (by omega)
              obtain ⟨gi, rfl⟩ := HPI.out (by omega)
              have hn0' := hLw.n₀le
              have hsp : nv = nv.take i ++ (q.1, q.2) :: nv.drop (i + 1) := nv_split hq
              have hno := hnm.1 _ _ _ hsp
              obtain ⟨hid, hr1, hr2⟩ := hnm.2 q (List.mem_of_getElem? hq)
              have HK : ∀ W, Below wr.heap.size wr W → Calls Try.prog 14 #[.int .i64 q.1, .pointer (some ⟨B5, 0, none⟩), .pointer (some ⟨B7, 0, none⟩)] W fun e w' => ∃ v : Vl, e = .returned (.agg #[.int .u8 v.k, .int .i64 v.n]) ∧ Lkk n₀ bh b B5 B7 B9 B11 B12 B15 at_ tb nv (some ⟨gn, 0, none⟩) cn (some ⟨gv, 0, none⟩) cv (some ⟨gi, 0, none⟩) ci ps (used + 6 * i + 3) v q.1 w' ∧ Kp n₀ W w' := fun W hBW => by
                have := hLw.key q.1 hr1 (by omega) W hBW
                rw [hid] at this
                exact this
              have HG := fun (v : Vl) (W : World) (hK : Lkk n₀ bh b B5 B7 B9 B11 B12 B15 at_ tb nv (some ⟨gn, 0, none⟩) cn (some ⟨gv, 0, none⟩) cv (some ⟨gi, 0, none⟩) ci ps (used + 6 * i + 3) v q.1 W) => hK.get hsp hno (by omega)
              have F : ∀ W, Lww n₀ bh b B5 B7 B9 B11 B12 B15 at_ tb nv (some ⟨gn, 0, none⟩) cn (some ⟨gv, 0, none⟩) cv (some ⟨gi, 0, none⟩) ci ps (used + 6 * i + 3) W → W.cell? ⟨B7, 0, none⟩ = some (.pointer (some ⟨bh, 0, none⟩)) ∧ W.cell? ⟨B15, 0, none⟩ = some (.int .u8 5) ∧ W.cell? ⟨B15, 1, none⟩ = some (.int .i64 at_) ∧ W.cell? ⟨B11, 0, none⟩ = some (.slice (some ⟨gn, 0, none⟩) nv.length cn) ∧ W.cell? ⟨gn, i, none⟩ = some (.int .i64 q.1) := fun W h => by
                have := h.cells hq hp hp2
                exact ⟨this.1.1, this.1.2.1, this.1.2.2, this.2.1.1, this.2.1.2⟩
              have F2 : ∀ W (U : Nat), Lww n₀ bh b B5 B7 B9 B11 B12 B15 at_ tb nv (some ⟨gn, 0, none⟩) cn (some ⟨gv, 0, none⟩) cv (some ⟨gi, 0, none⟩) ci ps U W → W.cell? ⟨B7, 0, none⟩ = some (.pointer (some ⟨bh, 0, none⟩)) ∧ (W.cell? ⟨B11, 0, none⟩ = some (.slice (some ⟨gn, 0, none⟩) nv.length cn) ∧ W.cell? ⟨gn, i, none⟩ = some (.int .i64 q.1)) ∧ (W.cell? ⟨B12, 0, none⟩ = some (.slice (some ⟨gv, 0, none⟩) nv.length cv) ∧ W.cell? ⟨gv, i, none⟩ = some (.int .i64 q.2)) ∧ (W.cell? ⟨gi, 2 * i * 2, none⟩ = some (.int .u8 p.1.k) ∧ W.cell? ⟨gi, 2 * i * 2 + 1, none⟩ = some (.int .i64 p.1.n) ∧ W.cell? ⟨gi, (2 * i + 1) * 2, none⟩ = some (.int .u8 2) ∧ W.cell? ⟨gi, (2 * i + 1) * 2 + 1, none⟩ = some (.int .i64 q.2)) := fun W U h => by
                have := h.cells hq hp hp2
                exact ⟨this.1.1, this.2.1, this.2.2.1, this.2.2.2⟩
              have HSM := fun (v : Vl) (U : Nat) (W : World) (hK : Lkk n₀ bh b B5 B7 B9 B11 B12 B15 at_ tb nv (some ⟨gn, 0, none⟩) cn (some ⟨gv, 0, none⟩) cv (some ⟨gi, 0, none⟩) ci ps U v q.1 W) => hK.same (x := v) hq hp rfl
              have L0 : Lww n₀ bh b B5 B7 B9 B11 B12 B15 at_ tb nv (some ⟨gn, 0, none⟩) cn (some ⟨gv, 0, none⟩) cv (some ⟨gi, 0, none⟩) ci ps (used + 6 * i + 3) wr := hLw.mono (by omega)
              have hDa : Below wr.heap.size wr wr.drew := below_drew (Below.refl _ _)
              have hDb : Below wr.heap.size wr (wr.alloc (.cells #[.int .u8 0, .int .i64 0] 26)).drew := below_drew (below1 wr _)
              have La := L0.below hDa
              have Lb := L0.below hDb
              have mzb : Bx (wr.alloc (.cells #[.int .u8 0, .int .i64 0] 26)).drew wr.heap.size 0 0 := heap_alloc_new wr _
              have hfr := fun g (hg : wr.heap.size ≤ g) => L0.fresh hg
              have HID : Hid (nameI tb q.1 = q.1) := hid
              have HSP : Hid (nv = nv.take i ++ (q.1, q.2) :: nv.drop (i + 1)) := hsp
              have HQ : Hid (nv[i]? = some q) := hq
              have HPP : Hid (ps[i]? = some p) := hp
              clear hid hsp hq hp hp2 hno hLw
              go_wp2_with (first | fail)
              go_region_held3 (fun W => W.cell? ⟨B7, 0, none⟩ = some (.pointer (some ⟨bh, 0, none⟩)) ∧ W.cell? ⟨B15, 0, none⟩ = some (.int .u8 5) ∧ W.cell? ⟨B15, 1, none⟩ = some (.int .i64 at_) ∧ W.cell? ⟨B11, 0, none⟩ = some (.slice (some ⟨gn, 0, none⟩) nv.length cn) ∧ W.cell? ⟨gn, i, none⟩ = some (.int .i64 q.1)) (first | with_reducible exact F _ La | with_reducible exact F _ Lb | with_reducible exact F _ L3 | with_reducible exact F _ L3b | with_reducible exact F _ L4 | with_reducible exact F _ L4b | with_reducible exact F _ L4s | go_keep) ((first
                | (go_at_call 14; (with_reducible refine (HK (wr.alloc (.cells #[.int .u8 0, .int .i64 0] 26)).drew hDb).mono ?_); rintro e w3 ⟨v, rfl, hF, hk3⟩; have L3 := hF.lw; have mz3 := hk3.bx mzb; have hk3 := (Kp.of hDb hn0').trans hk3)
                | (go_at_call 14; (with_reducible refine (HK wr.drew hDa).mono ?_); rintro e w3 ⟨v, rfl, hF, hk3⟩; have L3 := hF.lw; have hk3 := (Kp.of hDa hn0').trans hk3; have L3b := L3.below (below1 w3 (.cells #[.int .u8 0, .int .i64 0] 26)))
                | (go_at_call 12; (with_reducible refine (HG v w3 hF).mono ?_); rintro e w4 ⟨rfl, hB4⟩; have L4 := L3.below hB4; have mz4 := mz3.below hB4; have hk4 := hk3.trans (Kp.of hB4 L3.n₀le); obtain ⟨⟨z0, z1⟩, y0, y1⟩ := mz4.cells; have hge : wr.heap.size ≤ wr.heap.size := Nat.le_refl _; have L4s := L4.setBx mz4 (hfr _ hge).1 (hfr _ hge).2 (.int .u8 2) (.int .i64 q.2))
                | (go_at_call 12; (with_reducible refine (HG v w3 hF).mono ?_); rintro e w4 ⟨rfl, hB4⟩; have L4 := L3.below hB4; have hk4 := hk3.trans (Kp.of hB4 L3.n₀le); have L4b := L4.below (below1 w4 (.cells #[.int .u8 2, .int .i64 q.2] 26)))
                | (go_at_call 12; (with_reducible refine (HG v (w3.alloc (.cells #[.int .u8 0, .int .i64 0] 26)) (hF.below (below1 w3 (.cells #[.int .u8 0, .int .i64 0] 26)))).mono ?_); rintro e w4 ⟨rfl, hB4⟩; have L4 := L3b.below hB4; have mz4 := (show Bx (w3.alloc (.cells #[.int .u8 0, .int .i64 0] 26)) w3.heap.size 0 0 from heap_alloc_new w3 _).below hB4; have hk4 := (hk3.trans (Kp.of (below1 w3 (.cells #[.int .u8 0, .int .i64 0] 26)) L3.n₀le)).trans (Kp.of hB4 L3b.n₀le); obtain ⟨⟨z0, z1⟩, y0, y1⟩ := mz4.cells; have hge : wr.heap.size ≤ w3.heap.size := hk3.below.size; have L4s := L4.setBx mz4 (hfr _ hge).1 (hfr _ hge).2 (.int .u8 2) (.int .i64 q.2))))
              all_goals
                first
                  | (obtain ⟨W9, hW9⟩ : ∃ W9, w4.alloc (.cells #[.int .u8 2, .int .i64 q.2] 26) = W9 := ⟨_, rfl⟩
                     rw [hW9]
                     have hb9 : Bx W9 w4.heap.size 2 q.2 := hW9 ▸ heap_alloc_new w4 _
                     have L9 : Lww n₀ bh b B5 B7 B9 B11 B12 B15 at_ tb nv (some ⟨gn, 0, none⟩) cn (some ⟨gv, 0, none⟩) cv (some ⟨gi, 0, none⟩) ci ps (used + 6 * i + 3) W9 := hW9 ▸ L4.below (below1 w4 _)
                     have hk9 : Kp n₀ wr W9 := hW9 ▸ hk4.trans (Kp.of (below1 w4 _) L4.n₀le)
                     obtain ⟨g9, hg9⟩ : ∃ g, w4.heap.size = g := ⟨_, rfl⟩
                     rw [hg9] at hb9 ⊢
                     clear hW9 hg9)
                  | (obtain ⟨W9, hW9⟩ : ∃ W9, (w4.setCell ⟨wr.heap.size, 0, none⟩ (.int .u8 2)).setCell ⟨wr.heap.size, 1, none⟩ (.int .i64 q.2) = W9 := ⟨_, rfl⟩
                     rw [hW9]
                     have hb9 : Bx W9 wr.heap.size 2 q.2 := hW9 ▸ mz4.set 2 q.2
                     have L9 : Lww n₀ bh b B5 B7 B9 B11 B12 B15 at_ tb nv (some ⟨gn, 0, none⟩) cn (some ⟨gv, 0, none⟩) cv (some ⟨gi, 0, none⟩) ci ps (used + 6 * i + 3) W9 := hW9 ▸ L4s
                     have hk9 : Kp n₀ wr W9 := hW9 ▸ hk4.set hge hn0' _ _
                     obtain ⟨g9, hg9⟩ : ∃ g, wr.heap.size = g := ⟨_, rfl⟩
                     rw [hg9] at hb9 ⊢
                     clear hW9 hg9)
                  | (obtain ⟨W9, hW9⟩ : ∃ W9, (w4.setCell ⟨w3.heap.size, 0, none⟩ (.int .u8 2)).setCell ⟨w3.heap.size, 1, none⟩ (.int .i64 q.2) = W9 := ⟨_, rfl⟩
                     rw [hW9]
                     have hb9 : Bx W9 w3.heap.size 2 q.2 := hW9 ▸ mz4.set 2 q.2
                     have L9 : Lww n₀ bh b B5 B7 B9 B11 B12 B15 at_ tb nv (some ⟨gn, 0, none⟩) cn (some ⟨gv, 0, none⟩) cv (some ⟨gi, 0, none⟩) ci ps (used + 6 * i + 3) W9 := hW9 ▸ L4s
                     have hk9 : Kp n₀ wr W9 := hW9 ▸ hk4.set hge hn0' _ _
                     obtain ⟨g9, hg9⟩ : ∃ g, w3.heap.size = g := ⟨_, rfl⟩
                     rw [hg9] at hb9 ⊢
                     clear hW9 hg9)
                have H2K : ∀ W, Below W9.heap.size W9 W → Calls Try.prog 14 #[.int .i64 q.1, .pointer (some ⟨B5, 0, none⟩), .pointer (some ⟨B7, 0, none⟩)] W fun e w' => ∃ v : Vl, e = .returned (.agg #[.int .u8 v.k, .int .i64 v.n]) ∧ Lkk n₀ bh b B5 B7 B9 B11 B12 B15 at_ tb nv (some ⟨gn, 0, none⟩) cn (some ⟨gv, 0, none⟩) cv (some ⟨gi, 0, none⟩) ci ps (used + 6 * i + 3 + 3) v q.1 w' ∧ Kp n₀ W w' := fun W hBW => by
                  have := L9.key q.1 hr1 (by omega) W hBW
                  rw [HID.out] at this
                  exact this
                have F3 : ∀ W (U : Nat), Lww n₀ bh b B5 B7 B9 B11 B12 B15 at_ tb nv (some ⟨gn, 0, none⟩) cn (some ⟨gv, 0, none⟩) cv (some ⟨gi, 0, none⟩) ci ps U W → Bx W g9 2 q.2 → W.cell? ⟨B7, 0, none⟩ = some (.pointer (some ⟨bh, 0, none⟩)) ∧ (W.cell? ⟨B11, 0, none⟩ = some (.slice (some ⟨gn, 0, none⟩) nv.length cn) ∧ W.cell? ⟨gn, i, none⟩ = some (.int .i64 q.1)) ∧ (W.cell? ⟨B12, 0, none⟩ = some (.slice (some ⟨gv, 0, none⟩) nv.length cv) ∧ W.cell? ⟨gv, i, none⟩ = some (.int .i64 q.2)) ∧ (W.cell? ⟨gi, (2 * (i : Int)).toNat * 2, none⟩ = some (.int .u8 p.1.k) ∧ W.cell? ⟨gi, (2 * (i : Int)).toNat * 2 + 1, none⟩ = some (.int .i64 p.1.n) ∧ W.cell? ⟨gi, (2 * (i : Int) + 1).toNat * 2, none⟩ = some (.int .u8 2) ∧ W.cell? ⟨gi, (2 * (i : Int) + 1).toNat * 2 + 1, none⟩ = some (.int .i64 q.2)) ∧ (W.cell? ⟨g9, 0, none⟩ = some (.int .u8 2) ∧ W.cell? ⟨g9, 1, none⟩ = some (.int .i64 q.2)) := fun W U h hb => by
                  obtain ⟨a1, a2, a3, a4⟩ := F2 W U h
                  rw [show (2 * (i : Int)).toNat = 2 * i by omega, show (2 * (i : Int) + 1).toNat = 2 * i + 1 by omega]
                  exact ⟨a1, a2, a3, a4, hb.cells.1⟩
                have hB9 : Below n₀ W0 W9 := hB.trans hk9.below
                have hDc : Below W9.heap.size W9 W9.drew := below_drew (Below.refl _ _)
                have L9d := L9.below hDc
                have hb9d := hb9.below hDc
                have hw1 : IntKind.i64.wrap (2 * (i : Int)) = 2 * (i : Int) := by rw [IntKind.wrap_i64]; omega
                have hw2 : IntKind.i64.wrap (2 * (i : Int) + 1) = 2 * (i : Int) + 1 := by rw [IntKind.wrap_i64]; omega
                have hx3 : (0 : Int) ≤ 2 * (i : Int) := by omega
                have hx4 : (0 : Int) ≤ 2 * (i : Int) + 1 := by omega
                have hx1 : 2 * (i : Int) < 2 * (nv.length : Int) := by omega
                have hx2 : 2 * (i : Int) + 1 < 2 * (nv.length : Int) := by omega
                clear HK HG F F2 L0 hDa hDb La Lb mzb hfr hF hk3 L3 hk4 L4 hB4 hB
                (try clear mz3); (try clear mz4 z0 z1 y0 y1); (try clear L4s); (try clear L3b); (try clear L4b); (try clear hge)
                go_wp2_with (first | fail)
                go_region_held3 (fun W => W.cell? ⟨B7, 0, none⟩ = some (.pointer (some ⟨bh, 0, none⟩)) ∧ (W.cell? ⟨B11, 0, none⟩ = some (.slice (some ⟨gn, 0, none⟩) nv.length cn) ∧ W.cell? ⟨gn, i, none⟩ = some (.int .i64 q.1)) ∧ (W.cell? ⟨B12, 0, none⟩ = some (.slice (some ⟨gv, 0, none⟩) nv.length cv) ∧ W.cell? ⟨gv, i, none⟩ = some (.int .i64 q.2)) ∧ (W.cell? ⟨gi, (2 * (i : Int)).toNat * 2, none⟩ = some (.int .u8 p.1.k) ∧ W.cell? ⟨gi, (2 * (i : Int)).toNat * 2 + 1, none⟩ = some (.int .i64 p.1.n) ∧ W.cell? ⟨gi, (2 * (i : Int) + 1).toNat * 2, none⟩ = some (.int .u8 2) ∧ W.cell? ⟨gi, (2 * (i : Int) + 1).toNat * 2 + 1, none⟩ = some (.int .i64 q.2)) ∧ (W.cell? ⟨g9, 0, none⟩ = some (.int .u8 2) ∧ W.cell? ⟨g9, 1, none⟩ = some (.int .i64 q.2))) (first | with_reducible exact F3 _ _ L9d hb9d | with_reducible exact F3 _ _ L5 b5 | with_reducible exact F3 _ _ L6 b6 | with_reducible exact F3 _ _ L7 b7 | go_keep) ((first
                  | (go_at_call 13; refine (number_in _ _).mono ?_; rintro e w5 ⟨rfl, hB5⟩; have hBm : Below W9.heap.size W9 w5 := hDc.trans hB5; have L5 := L9.below hBm; have b5 := hb9.below hBm)
                  | (go_at_call 14; (with_reducible refine (H2K _ hBm).mono ?_); rintro e w6 ⟨v2, rfl, hF6, hk6⟩; have L6 := hF6.lw; have b6 := hk6.bx b5)
                  | (go_at_call 11; (with_reducible refine (HSM v2 _ w6 hF6).mono ?_); rintro e w7 ⟨rfl, hB7⟩; have L7 := L6.below hB7; have b7 := b6.below hB7)))
                go_wp2
              all_goals
                refine ⟨?_, by simp [intOf]; omega⟩
                exact ⟨i + 1, by simp, by omega, L7.mono (by omega), hB9.trans ((hBm.mono L9.n₀le).trans (hk6.below.trans (hB7.mono L6.n₀le)))⟩
            · have hil' : ¬ (i : Int) < (nv.length : Int) := by omega
              -- LOOP3 B
              have hn0' := hLw.n₀le
              have HG := hLw.get_no (by omega)
              obtain ⟨e7, e15, e16⟩ := hLw.base3
              go_wp2_with (first
                | (go_at_call 12; (with_reducible refine HG.mono ?_); clear HG; rintro e w12 ⟨rfl, hB12⟩; have ⟨x0, x1⟩ := cell_row2 (heap_alloc_new w12 (.cells #[.int .u8 0, .int .i64 0] 26))))
              go_ret
              exact ⟨rfl, HW0.out.trans ((hB.trans ((hB12.alloc hB12.size _).mono hn0')).mono (by omega))⟩

end Go.Proofs.Ytkombdkhodjckaa
