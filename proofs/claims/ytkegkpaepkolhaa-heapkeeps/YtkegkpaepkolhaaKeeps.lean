/- HeapKeeps: the walk. -/
import Derived.Test.YtkegkpaepkolhaaKeepsMath
namespace Go.Proofs.Ytkegkpaepkolhaa
open Go.RowKit

set_option maxRecDepth 20000 in
set_option maxHeartbeats 4000000 in
theorem keeps_long (p : Option Addr) (len cap : Nat) (gp : Option Addr) (gl gc : Nat) (sd : Nat) (w : World) (hl : 200 < len) (_hlen : len ≤ maxLen) :
    Calls Try.prog 4 #[.slice p len cap, .slice gp gl gc, .int .u64 sd] w fun e w' => e = .returned (.bool true) ∧ Below w.heap.size w w' := by
  unfold maxLen at _hlen
  have a1 := alive_in w
  have hl' : (200 : Int) < (len : Int) := by omega
  go_enter Try.func4, Try.ntmps4
  go_wp2_with (first
    | (go_at_call 6; refine a1.mono ?_; clear a1; rintro e w1 ⟨rfl, hB1⟩; have a2 := alive_in w1)
    | (go_at_call 6; refine a2.mono ?_; clear a2; rintro e w2 ⟨rfl, hB2⟩))
  go_ret
  exact ⟨rfl, hB1.trans (hB2.mono hB1.size)⟩

/-- Word q of object i, as the law reckons it. -/
def wdOf (sd i q : Nat) : Nat := (IntKind.u64.wrap (IntKind.u64.wrap ((sd : Int) + (i : Int) * 1000) + (q : Int))).toNat
theorem wdOf_eq (sd i q : Nat) : ((wdOf sd i q : Nat) : Int) = IntKind.u64.wrap (IntKind.u64.wrap ((sd : Int) + (i : Int) * 1000) + (q : Int)) ∧ wdOf sd i q < 18446744073709551616 := by
  unfold wdOf
  rw [IntKind.wrap_u64]
  omega

theorem keeps_rel {m₀ bh b U Wz ag ac len k T : Nat} {vw vb : Value} {w5 : World} {s : Nat → Nat} {gn : Nat → Bool} {wd : Nat → Nat → Nat}
    (hp5 : Hp m₀ bh b vw vb w5 60000 U (kp s gn wd k ++ { at_ := T, kind := (obOf s wd k).kind, ws := (obOf s wd k).ws } :: rst s wd (k + 1) len))
    (hrow5 : w5.ownsRow Wz 2 1 (.slice (some ⟨ag, 0, none⟩) len ac) len ((List.range len).map (fun j => pv (rowAt s gn k j)))) (hT : Tl s gn k = T) (hv : gn k = false) :
    Hp m₀ bh b vw vb (w5.setCell ⟨ag, k, none⟩ (.int .i64 T)) 60000 U (kp s gn wd (k + 1) ++ [] ++ rst s wd (k + 1) len) ∧
    (w5.setCell ⟨ag, k, none⟩ (.int .i64 T)).ownsRow Wz 2 1 (.slice (some ⟨ag, 0, none⟩) len ac) len ((List.range len).map (fun j => pv (rowAt s gn (k + 1) j))) := by
  obtain ⟨h1, h2⟩ := hrow5.stored k (.int .i64 T)
  constructor
  · have h3 := hp_grown hp5 hrow5 h2
    subst hT
    simpa [kp, hv, obOf] using h3
  · have e : (List.map (fun j => pv (rowAt s gn k j)) (List.range len)).set k (.int .i64 T) = (List.range len).map (fun j => pv (rowAt s gn (k + 1) j)) := by
      apply List.ext_getElem?
      intro j
      rw [List.getElem?_set]
      by_cases hj : j < len
      · by_cases e : k = j
        · subst e; simp [hj, rowAt, hv, pv, hT]
        · rw [if_neg e]
          simp only [List.getElem?_map, List.getElem?_range hj, Option.map_some]
          unfold rowAt
          by_cases h1 : j < k ∧ gn j = false
          · rw [if_pos h1, if_pos ⟨by omega, h1.2⟩]
          · rw [if_neg h1, if_neg (fun h => h1 ⟨by omega, h.2⟩)]
      · simp [hj]; intro e; omega
    rw [e] at h1
    exact h1

set_option maxRecDepth 20000 in
set_option maxHeartbeats 2000000 in
theorem keeps_ok (p : Option Addr) (len cap : Nat) (gp : Option Addr) (gl gc : Nat) (sd : Nat) (s : Nat → Nat) (gf : Nat → Bool) (w : World) (hl : len ≤ 200) (_hsd : sd < 18446744073709551616)
    (hc : ToldS .u8 256 w p len s) (hg : ToldB w gp gl gf) (_hgl : gl ≤ maxLen) :
    Calls Try.prog 4 #[.slice p len cap, .slice gp gl gc, .int .u64 sd] w fun e w' => e = .returned (.bool true) ∧ Below w.heap.size w w' := by
  unfold maxLen at _hgl
  have a1 := alive_in w
  have hl' : ¬ ((200 : Int) < (len : Int)) := by omega
  obtain ⟨i0, hi, hz0, hz1, hz2⟩ := info_parts info2
  have hPl : ∀ k, k ≤ len → Pl s k ≤ 256 * k := Pl_le (fun j hj => (hc j hj).1)
  have HP : Hid _ := hPl
  clear hPl
  go_enter Try.func4, Try.ntmps4
  go_wp2_with (first
    | (go_at_call 6; refine a1.mono ?_; clear a1; rintro e w1 ⟨rfl, hB1⟩; have a2 := newM 60000 w1 (by omega) (by omega))
    | (go_at_call 7; refine a2.mono ?_; clear a2; rintro e w2 ⟨bh, b, vw2, vb2, rfl, hp2', hB2'⟩))
  have hB2 := hB1.trans (hB2'.mono hB1.size)
  have hb1 := hB1.size
  obtain ⟨m₀, hm₀⟩ : ∃ m₀, w1.heap.size = m₀ := ⟨_, rfl⟩
  rw [hm₀] at hp2' hb1
  clear hB1 hB2' hm₀
  obtain ⟨wd, hwd⟩ : ∃ wd, wd = wdOf sd := ⟨_, rfl⟩
  have HWD : Hid _ := hwd
  clear hwd
  go_loopw [9, 10] (fun at_ i wr => ∃ (k : Nat) (vw vb : Value), i = .int .i64 k ∧ k ≤ len ∧ Hp m₀ bh b vw vb wr 60000 (Pl s k) (obs s wd k) ∧ wr.ownsRow w.heap.size 2 1 at_ k ((List.range k).map (fun j => pv (Pl s j))) ∧ Below w.heap.size w wr) (fun _ i _ => len - (intOf i).toNat)
  case atStart => exact ⟨0, vw2, vb2, rfl, by omega, hp2', World.ownsRow_nil _ _ _ _, hB2⟩
  case round =>
    obtain ⟨k, vw, vb, rfl, hk, hp, hrow, hB⟩ := hrel
    clear hp2' hB2
    by_cases hk2 : k < len
    · obtain ⟨hsk, b0, off, rfl, hcell⟩ := hc k hk2
      have hck := hcell wr hB
      have hPk := HP.out k hk
      have a8 := allocM hp 8 (s k) (by omega) (by omega) (by omega)
      go_wp2_with (first
        | (go_at_call 8; refine a8.mono ?_; clear a8; rintro e w3 ⟨rfl, vw3, vb3, hp3, hS3⟩
           have hrow3 := row_step hp hrow hS3
           have hB3 := hB.trans ((hp.stepBelow hS3).mono hb1)
           have hck3 := hcell w3 hB3
           clear hp hrow hB hS3 hck)
        | (at_builtin; refine wpList_append_own _ rfl _ _ 36 rfl w.heap.size 2 i0 (.int .i64 0) 1 8 Try.underlying36 hi hz0 hz1 hz2 rfl (by decide) _ k _ rfl (hrow3.alloc _) ⟨w3.heap.size, 0, none⟩ 1 1 [.int .i64 (Pl s k)] rfl rfl (cell_one_new _ _ _) (by simp [Value.oneCell']) (by unfold maxLen; omega) (by omega) (by have := hB3.size; simp; omega) ?_; intro v4 w4 hown4 hgrow4 _))
      have hp4 := hp_grown (hp3.below ((Below.refl _ w3).alloc (Nat.le_refl _) _)) (hrow3.alloc _) hgrow4
      have hB4 : Below w.heap.size w w4 := (hB3.alloc hB3.size _).grown hgrow4 (by have := hB3.size; simp; omega) (fun q e => (hrow3.lt q e).1)
      rw [← pw_zero (wd := wd)] at hp4
      clear hp3 hrow3 hB3 hgrow4 hck3
      go_loopw [13] (fun q wr' => ∃ t : Nat, q = .int .i64 t ∧ t ≤ s k ∧ Hp m₀ bh b vw3 vb3 wr' 60000 (Pl s k + s k + 1) (obs s wd k ++ ⟨Pl s k, 8, pw s wd k t⟩ :: []) ∧ wr'.ownsRow w.heap.size 2 1 v4 (k + 1) ((List.range k).map (fun j => pv (Pl s j)) ++ [.int .i64 (Pl s k)]) ∧ Below w.heap.size w wr') (fun q _ => s k - (intOf q).toNat)
      case atStart => exact ⟨0, rfl, by omega, hp4, hown4, hB4⟩
      case round =>
        obtain ⟨t, rfl, ht, hpt, hrowt, hBt⟩ := hrel
        clear hp4 hown4 hB4
        have hckt := hcell wr hBt
        by_cases ht2 : t < s k
        · have hw := wdOf_eq sd k t
          rw [← congrFun (congrFun HWD.out k) t] at hw
          have a15 := writeM hpt t (wd k t) (by rw [pw_len]; exact ht2) hw.2
          rw [hw.1] at a15
          clear hw
          go_wp2_with (go_at_call 15; refine a15.mono ?_; clear a15; rintro e w5 ⟨rfl, hp5, hS5⟩)
          go_roundw
          case rel =>
            rw [pw_set _ _ ht2] at hp5
            exact ⟨t + 1, by go_num, by omega, hp5, row_step hpt hrowt hS5, hBt.trans ((hpt.stepBelow hS5).mono hb1)⟩
          case measure => simp [intOf]; omega
        · obtain rfl : t = s k := by omega
          go_wp2_with fail
          go_roundw
          case rel =>
            rw [pw_all] at hpt
            refine ⟨k + 1, vw3, vb3, by go_num, by omega, ?_, ?_, hBt⟩
            · rw [obs_succ]; exact hpt
            · simpa [List.range_succ, pv] using hrowt
          case measure => simp [intOf]; omega
    · obtain rfl : len = k := by omega
      obtain ⟨ap, ac, hat, _, _⟩ := IsAr.row_form hrow
      subst hat
      clear hk hk2
      obtain ⟨gn, hgn⟩ : ∃ gn : Nat → Bool, gn = fun j => decide (j < gl) && gf j := ⟨_, rfl⟩
      have HG : Hid _ := hgn
      clear hgn
      go_wp2_with fail
      go_loopw [14, 15] (fun to i wr' => ∃ (k : Nat) (G : List Ob), i = .int .i64 k ∧ to = .int .i64 (Tl s gn k) ∧ k ≤ len ∧ (∀ q ∈ G, Tl s gn k ≤ q.at_) ∧ Hp m₀ bh b vw vb wr' 60000 (Pl s len) (kp s gn wd k ++ G ++ rst s wd k len) ∧ wr'.ownsRow w.heap.size 2 1 (.slice ap len ac) len ((List.range len).map (fun j => pv (rowAt s gn k j))) ∧ Below w.heap.size w wr') (fun _ i _ => len - (intOf i).toNat)
      case atStart =>
        refine ⟨0, [], rfl, rfl, by omega, by simp, ?_, ?_, hB⟩
        · rw [rst_zero]; exact hp
        · simpa [rowAt] using hrow
      case round =>
        obtain ⟨k, G, rfl, rfl, hk, hG, hpk, hrowk, hBk⟩ := hrel
        clear hp hrow hB
        have hPlen := HP.out len (by omega)
        have hPk := HP.out k hk
        have hTP := Tl_le_Pl (s := s) (gn := gn) k
        by_cases hk2 : k < len
        · obtain ⟨hsk, b0, off, rfl, hcell⟩ := hc k hk2
          have hgk : gn k = (decide (k < gl) && gf k) := congrFun HG.out k
          rw [rst_cons k len hk2] at hpk
          cases hgv : gn k with
          | true =>
            rw [hgv] at hgk
            have hg2 := hgk.symm
            simp only [Bool.and_eq_true, decide_eq_true_eq] at hg2
            obtain ⟨b1, off1, rfl, hgc⟩ := hg k hg2.1
            have hgcell := hgc wr hBk
            rw [hg2.2] at hgcell
            have hglt := hg2.1
            clear hgc hg2 hgk
            have HV : Hid (gn k = true) := hgv
            clear hgv
            go_wp2_with fail
            go_roundw
            case rel =>
              have hv := HV.out
              refine ⟨k + 1, G ++ [obOf s wd k], by go_num, by simp [Tl, hv], by omega, ?_, ?_, ?_, hBk⟩
              · intro q hq
                simp only [Tl, hv, if_true]
                rcases List.mem_append.1 hq with hq | hq
                · exact hG q hq
                · simp at hq; subst hq; exact hTP
              · simpa [kp, hv] using hpk
              · have e : (fun j => pv (rowAt s gn (k + 1) j)) = fun j => pv (rowAt s gn k j) := by
                  funext j; unfold rowAt
                  by_cases ej : j = k
                  · subst ej; simp [hv]
                  · congr 1
                    by_cases h1 : j < k ∧ gn j = false
                    · rw [if_pos h1, if_pos ⟨by omega, h1.2⟩]
                    · rw [if_neg h1, if_neg (fun h => h1 ⟨by omega, h.2⟩)]
                rw [e]; exact hrowk
            case measure => simp [intOf]; omega
          | false =>
            rw [hgv] at hgk
            have HV : Hid (gn k = false) := hgv
            have hb0 : b0 < w.heap.size := World.block_lt_of_cell? w ⟨b0, off + k, none⟩ (hcell w (Below.refl _ _))
            obtain ⟨ag, ac', hs, _, _⟩ := IsAr.row_some hrowk (by omega)
            simp only [Value.slice.injEq, true_and] at hs
            obtain ⟨rfl, rfl⟩ := hs
            have hag := hrowk.lt ag rfl
            have hne1 : ¬ ag = b0 := by omega
            have hne2 : ¬ b0 = ag := by omega
            have hra : ∀ j, (List.range len)[j]? = some k → j = k := by
              intro j hj
              have := List.getElem?_eq_some_iff.1 hj
              simpa using this.2
            have hatc : wr.cell? ⟨ag, k, none⟩ = some (.int .i64 (Pl s k)) := by
              rw [hrowk.cellAt k (by omega)]
              simp [hk2, pv, rowAt]
            have a9 := moveM (o := obOf s wd k) hpk (Tl s gn k) kp_end hG hTP
            have hv : Hid (Tl s gn (k + 1) = Tl s gn k + s k + 1) := by
              have hv := HV.out
              show Tl s gn (k + 1) = _
              simp [Tl, hv]
            obtain ⟨T, hT⟩ : ∃ T, Tl s gn k = T := ⟨_, rfl⟩
            have HT : Hid (Tl s gn k = T) := hT
            have hT51 : T ≤ 51200 := by omega
            rw [hT] at a9 ⊢
            have a9' : Calls Try.prog 9 #[.pointer (some ⟨bh, 0, none⟩), .int .i64 (Pl s k), .int .i64 T] wr _ := a9
            clear a9 hgv hT
            have hgone : (k < gl → gf k = false) := by
              intro h
              simpa [h] using hgk.symm
            by_cases hglt : k < gl
            · obtain ⟨b1, off1, rfl, hgc⟩ := hg k hglt
              have hgcell := hgc wr hBk
              rw [hgone hglt] at hgcell
              clear hgc hgk hgone
              go_wp2_with (go_at_call 9; refine a9'.mono ?_; clear a9'; rintro e w5 ⟨rfl, hp5, hS5⟩
                           have hrow5 := row_step hpk hrowk hS5
                           have hB5 := hBk.trans ((hpk.stepBelow hS5).mono hb1)
                           have hc5 := hcell w5 hB5
                           have hat5 : w5.cell? ⟨ag, k, none⟩ = some (.int .i64 (Pl s k)) := by rw [hrow5.cellAt k (by omega)]; simp [hk2, pv, rowAt]
                           have haf5 := hrow5.frozenAt k)
              go_roundw
              case rel =>
                obtain ⟨r1, r2⟩ := keeps_rel hp5 hrow5 HT.out HV.out
                exact ⟨k + 1, [], by go_num, by rw [hv.out, HT.out]; go_num, by omega, by simp, r1, r2, hB5.setCell (p := ⟨ag, k, none⟩) hag.1 _⟩
              case measure => simp [intOf]; omega
            · clear hgk hgone
              go_wp2_with (go_at_call 9; refine a9'.mono ?_; clear a9'; rintro e w5 ⟨rfl, hp5, hS5⟩
                           have hrow5 := row_step hpk hrowk hS5
                           have hB5 := hBk.trans ((hpk.stepBelow hS5).mono hb1)
                           have hc5 := hcell w5 hB5
                           have hat5 : w5.cell? ⟨ag, k, none⟩ = some (.int .i64 (Pl s k)) := by rw [hrow5.cellAt k (by omega)]; simp [hk2, pv, rowAt]
                           have haf5 := hrow5.frozenAt k)
              go_roundw
              case rel =>
                obtain ⟨r1, r2⟩ := keeps_rel hp5 hrow5 HT.out HV.out
                exact ⟨k + 1, [], by go_num, by rw [hv.out, HT.out]; go_num, by omega, by simp, r1, r2, hB5.setCell (p := ⟨ag, k, none⟩) hag.1 _⟩
              case measure => simp [intOf]; omega
        · obtain rfl : len = k := by omega
          rw [rst_end, List.append_nil] at hpk
          have a10 := cutM hpk (Tl s gn len) kp_end hG (by omega)
          obtain ⟨T, hT⟩ : ∃ T, Tl s gn len = T := ⟨_, rfl⟩
          have HT : Hid (Tl s gn len = T) := hT
          rw [hT] at a10 hTP ⊢
          have hT51 : T ≤ 51200 := by omega
          clear hT hG
          go_wp2_with (first
            | (go_at_call 10; refine a10.mono ?_; clear a10; rintro e w6 ⟨rfl, vw6, vb6, hp6, hS6⟩
               have hrow6 := row_step hpk hrowk hS6
               have hB6 := hBk.trans ((hpk.stepBelow hS6).mono hb1)
               have a13 := usedM hp6)
            | (go_at_call 13; refine a13.mono ?_; clear a13; rintro e w7 ⟨rfl, rfl⟩))
          clear hpk hrowk hBk hS6
          go_loop [16, 17] (fun n i => ∃ k : Nat, i = .int .i64 k ∧ n = .int .i64 (cnt gn k) ∧ k ≤ len ∧ cnt gn k ≤ k) (fun _ i => len - (intOf i).toNat)
          case atStart => exact ⟨0, rfl, rfl, by omega, by simp [cnt]⟩
          case round =>
            obtain ⟨k, rfl, rfl, hk3, hcn⟩ := hrel
            by_cases hk2 : k < len
            · obtain ⟨hsk, b0, off, rfl, hcell⟩ := hc k hk2
              have hgk : gn k = (decide (k < gl) && gf k) := congrFun HG.out k
              have hck := hcell _ hB6
              clear hcell
              cases hgv : gn k with
              | true =>
                rw [hgv] at hgk
                have hg2 := hgk.symm
                simp only [Bool.and_eq_true, decide_eq_true_eq] at hg2
                obtain ⟨b1, off1, rfl, hgc⟩ := hg k hg2.1
                have hgcell := hgc _ hB6
                rw [hg2.2] at hgcell
                have hglt := hg2.1
                clear hgc hg2 hgk
                have HV : Hid (gn k = true) := hgv
                clear hgv
                go_wp2_with fail
                go_round
                case rel =>
                  have hv := HV.out
                  exact ⟨k + 1, by go_num, by simp [cnt, hv], by omega, by simp [cnt, hv]; omega⟩
                case measure => simp [intOf]; omega
              | false =>
                rw [hgv] at hgk
                have HV : Hid (gn k = false) := hgv
                have hgone : (k < gl → gf k = false) := by
                  intro h
                  simpa [h] using hgk.symm
                obtain ⟨ag, ac', hs, _, _⟩ := IsAr.row_some hrow6 (by omega)
                simp only [Value.slice.injEq, true_and] at hs
                obtain ⟨rfl, rfl⟩ := hs
                have hatc := hrow6.cellAt k (by omega)
                rw [show (List.map (fun j => pv (rowAt s gn len j)) (List.range len))[k]? = some (.int .i64 (Tl s gn k)) by simp [hk2, pv, rowAt, hgv]] at hatc
                obtain ⟨kl, kr, hkm⟩ := List.append_of_mem (kp_has (s := s) (wd := wd) hk2 hgv)
                rw [hkm] at hp6
                have a16 : ∀ t, t < s k → Calls Try.prog 16 #[.pointer (some ⟨bh, 0, none⟩), .int .i64 (Tl s gn k), .int .i64 t] _ _ := fun t ht => readM hp6 t (wd k t) (by simp [wsOf, ht])
                have A16 : Hid _ := a16
                clear a16 hgv hkm
                by_cases hglt : k < gl
                · obtain ⟨b1, off1, rfl, hgc⟩ := hg k hglt
                  have hgcell := hgc _ hB6
                  rw [hgone hglt] at hgcell
                  clear hgc hgk hgone
                  go_wp2_with fail
                  go_loop [18] (fun q => ∃ t : Nat, q = .int .i64 t ∧ t ≤ s k) (fun q => s k - (intOf q).toNat)
                  case atStart => exact ⟨0, rfl, by omega⟩
                  case round =>
                    obtain ⟨t, rfl, ht⟩ := hrel
                    by_cases ht2 : t < s k
                    · have hw := wdOf_eq sd k t
                      rw [← congrFun (congrFun HWD.out k) t] at hw
                      have a16 := A16.out t ht2
                      rw [hw.1] at a16
                      clear hw
                      go_wp2_with (go_at_call 16; refine a16.mono ?_; clear a16; rintro e w8 ⟨rfl, rfl⟩)
                      go_round
                      case rel => exact ⟨t + 1, by go_num, by omega⟩
                      case measure => simp [intOf]; omega
                    · go_wp2_with fail
                      go_round
                      case rel =>
                        have hv := HV.out
                        exact ⟨k + 1, by go_num, by simp [cnt, hv], by omega, by simp [cnt, hv]; omega⟩
                      case measure => simp [intOf]; omega
                · clear hgk hgone
                  go_wp2_with fail
                  go_loop [18] (fun q => ∃ t : Nat, q = .int .i64 t ∧ t ≤ s k) (fun q => s k - (intOf q).toNat)
                  case atStart => exact ⟨0, rfl, by omega⟩
                  case round =>
                    obtain ⟨t, rfl, ht⟩ := hrel
                    by_cases ht2 : t < s k
                    · have hw := wdOf_eq sd k t
                      rw [← congrFun (congrFun HWD.out k) t] at hw
                      have a16 := A16.out t ht2
                      rw [hw.1] at a16
                      clear hw
                      go_wp2_with (go_at_call 16; refine a16.mono ?_; clear a16; rintro e w8 ⟨rfl, rfl⟩)
                      go_round
                      case rel => exact ⟨t + 1, by go_num, by omega⟩
                      case measure => simp [intOf]; omega
                    · go_wp2_with fail
                      go_round
                      case rel =>
                        have hv := HV.out
                        exact ⟨k + 1, by go_num, by simp [cnt, hv], by omega, by simp [cnt, hv]; omega⟩
                      case measure => simp [intOf]; omega
            · obtain rfl : len = k := by omega
              have a11 := placesM hp6
              rw [kp_len] at a11
              obtain ⟨C, hC⟩ : ∃ C, cnt gn len = C := ⟨_, rfl⟩
              rw [hC] at a11 ⊢
              clear hC hcn
              go_wp2_with (go_at_call 11; refine a11.mono ?_; clear a11; rintro e w8 ⟨p8, c8, rfl, _, hB8⟩)
              go_ret
              exact ⟨by simp, hB6.trans (hB8.mono hB6.size)⟩

end Go.Proofs.Ytkegkpaepkolhaa
