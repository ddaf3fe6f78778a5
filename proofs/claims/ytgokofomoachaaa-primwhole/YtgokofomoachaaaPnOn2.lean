/- plain: a Change is done in a store: values behind the others. -/
import Derived.Test.YtgokofomoachaaaPnOn
namespace Go.Proofs.Ytgokofomoachaaa
set_option linter.unusedVariables false
set_option linter.unusedSimpArgs false
open Go.RowKit

variable {w : World}

set_option maxRecDepth 20000 in
set_option maxHeartbeats 4000000 in
theorem on_add {base g N cz : Nat} {ts : List Po} (hO : OwnSt base (.slice (some ⟨g, 0, none⟩) N cz) ts w) (hN : N ≤ 1048576) {i : Nat} {x : Po} (hx : ts[i]? = some x) (hll : x.o.l.length ≤ 200000) {more : List Vl} (hm0 : 0 < more.length) (hm2 : more.length ≤ 2) {ad : Addr} (hv2 : Vals w (some ad) more) (r2 : Int) :
    Calls Try.prog 19 #[.agg #[.int .i64 ((i : Int) + 1), .int .i64 x.o.l.length, .slice (some ad) more.length more.length, .int .i64 r2], .slice (some ⟨g, 0, none⟩) N cz] w fun e w' => e = .returned (.tuple #[]) ∧ (∃ lv, OwnSt base (.slice (some ⟨g, 0, none⟩) N cz) (ts.set i ⟨{ x.o with l := x.o.l ++ more, room := r2 }, lv⟩) w') ∧ Below base w w' ∧ ∀ k, k < w.heap.size → k ≠ g → x.lv.ownBlock ≠ some k → w'.heap[k]? = w.heap[k]? := by
  have hts : ts.length = N := by
    obtain ⟨p, c', e, -⟩ := own_slice hO.row
    cases e; rfl
  have hi := (List.getElem?_eq_some_iff.1 hx).1
  have hiN : (i : Int) < (N : Int) := by omega
  have hb := hO.row.lt g rfl
  have hB := below1 w (.cells #[.int .i64 ((i : Int) + 1), .int .i64 x.o.l.length, .slice (some ad) more.length more.length, .int .i64 r2] 41)
  have hbx := heap_alloc_new w (.cells #[.int .i64 ((i : Int) + 1), .int .i64 x.o.l.length, .slice (some ad) more.length more.length, .int .i64 r2] 41)
  have hO1 := hO.below hB
  obtain ⟨x0, x1, x2, x3⟩ := cell_row4C hbx
  have hrow := hO1.row
  rw [hts] at hrow
  obtain ⟨t0, t1, t2, t3, t4⟩ := cell_pcells hrow hts hx
  obtain ⟨q, cl, hlv, hqn, hq0, hqg⟩ := own_slice (hO.lst x (List.mem_of_getElem? hx))
  rw [hlv] at t2
  have hne : g ≠ w.heap.size := by omega
  have hlx : x.o.l.length ≤ cl := by
    have := hO.lst x (List.mem_of_getElem? hx)
    rw [hlv] at this
    rcases this.2 with ⟨e, e2⟩ | ⟨g', cap, cur, e, -, -, hnc, -⟩
    · omega
    · cases e; exact hnc
  have hlvb : ∀ gg, x.lv.ownBlock = some gg → base ≤ gg ∧ gg < w.heap.size := fun gg e => (hO.lst x (List.mem_of_getElem? hx)).lt gg e
  obtain ⟨b2, o2, rfl, hb2, hc2⟩ := vals_cells (hv2.below hB) hm0
  have HC := fun (d : Option Addr) (dl dc : Nat) (W : World) (h0 : dl = 0) => run_copy_two_none (P := Try.prog) W 37 37 3 26 d (some ⟨b2, o2, none⟩) dl dc more.length more.length Try.underlying37 infoV2 (by rw [h0]; simp [Nat.min_def])
  go_enter Try.func19, Try.ntmps19
  go_wp2_with fail
  generalize hW : w.alloc (.cells #[.int .i64 ((i : Int) + 1), .int .i64 x.o.l.length, .slice (some ⟨b2, o2, none⟩) more.length more.length, .int .i64 r2] 41) = W at *
  have hBb : Below base w W := hB.mono (Nat.le_trans hb.1 (Nat.le_of_lt hb.2))
  have hBd : Below base w W.drew := below_drew hBb
  have HF : Hid _ := And.intro hO1 (And.intro hlv (And.intro hqg (And.intro hB hlvb)))
  clear hlv hO hqg
  go_cut [4, 5] from 6 (fun s4 s5 W2 => s4 = .pointer (some ⟨g, i * 5, none⟩) ∧ s5 = .int .i64 0 ∧ W2 = W.drew)
  case first =>
    cases q with
    | none =>
      have hc0 := hqn rfl
      have hl0 : x.o.l.length = 0 := by omega
      rw [hl0, hc0] at t2
      rw [hl0] at x1
      have HL : Hid _ := And.intro hl0 hc0
      clear hl0 hc0 hlx hll
      go_region_law (first
        | (refine step_copy_run (by rfl) _ _ _ (by rfl) _ _ (.int .i64 0) _ (by rfl) (by rfl) (HC _ _ _ _ (by simp)) ?_))
      all_goals
        go_wp2_with fail
        go_meet
        case rel => exact ⟨rfl, rfl, rfl⟩
    | some a =>
      obtain ⟨gl, rfl, -⟩ := HF.out.2.2.1 a rfl
      by_cases hcl : cl = x.o.l.length
      · subst hcl
        go_region_law (first
          | (refine step_copy_run (by rfl) _ _ _ (by rfl) _ _ (.int .i64 0) _ (by rfl) (by rfl) (HC _ _ _ _ (by simp)) ?_))
        all_goals
          go_wp2_with fail
          go_meet
          case rel => exact ⟨rfl, rfl, rfl⟩
      · go_region_law (first
          | (refine step_copy_run (by rfl) _ _ _ (by rfl) _ _ (.int .i64 0) _ (by rfl) (by rfl) (HC _ _ _ _ (by simp)) ?_))
        all_goals
          go_wp2_with fail
          go_meet
          case rel => exact ⟨rfl, rfl, rfl⟩
  case rest =>
    obtain ⟨rfl, rfl, rfl⟩ := hcut
    clear HC t0 t1 t2 t3 t4 x0 x1 x2 x3
    obtain ⟨hO1, hlv, hqg, hB, hlvb⟩ := HF.out
    have hOd := hO1.kept (w' := W.drew) (fun _ _ _ => rfl)
    have hbd : W.drew.heap[w.heap.size]? = _ := hbx
    obtain ⟨x0, x1, x2, x3⟩ := cell_row4C hbd
    have hrowd := hOd.row
    rw [hts] at hrowd
    obtain ⟨t0, t1, t2, t3, t4⟩ := cell_pcells hrowd hts hx
    have hrl := hOd.lst x (List.mem_of_getElem? hx)
    rw [hlv] at t2 hrl
    generalize hWd : W.drew = Wd at *
    have hsz : Wd.heap.size = w.heap.size + 1 := by rw [← hWd, ← hW]; simp
    have hBW : Below base w Wd := hBd
    have hWW : ∀ k, k < w.heap.size → Wd.heap[k]? = w.heap[k]? := fun k hk => by rw [← hWd]; exact hB.block k hk
    obtain ⟨i0, hi0, hz0, hz1, hz2⟩ := info_parts infoV
    have hcd : ∀ j v, (vcells more)[j]? = some v → Wd.drew.cell? ((⟨b2, o2, none⟩ : Addr).add j) = some v := fun j v hj => by rw [← hWd]; exact hc2 j v hj
    have hrld : Wd.drew.ownsRow base 26 2 (.slice q x.o.l.length cl) x.o.l.length (vcells x.o.l) := row_kept hrl (fun _ _ => rfl)
    have hbs : base ≤ Wd.drew.heap.size := by show base ≤ Wd.heap.size; omega
    have hgx : (Value.slice q x.o.l.length cl).ownBlock ≠ some g := fun e => val_obj_ne hrowd hrl e rfl
    have HK : ∀ w4, Wd.drew.grownBy w4 (Value.slice q x.o.l.length cl).ownBlock → w4.ownsRow base 39 5 (.slice (some ⟨g, 0, none⟩) N cz) N (pcells ts) ∧ w4.cell? ⟨g, i * 5 + 2, none⟩ = some (.slice q x.o.l.length cl) ∧ w4.frozen? ⟨g, i * 5 + 2, none⟩ = false := fun w4 hg => by
      have hrow4 := row_kept hrowd (w' := w4) (fun kk e => by cases e; exact hg.block g (by show g < Wd.heap.size; omega) (fun e => hgx e.symm))
      obtain ⟨-, -, u2, -, -⟩ := cell_pcells hrow4 hts hx
      rw [hlv] at u2
      exact ⟨hrow4, u2, frozen_row hrow4 _⟩
    have HG : Hid _ := And.intro hOd (And.intro hlv (And.intro hbd (And.intro hlvb (And.intro hBW hsz))))
    clear hO1 hlv hqg hB hlvb hOd hbd hrl hBb hBd hBW HF hbx hc2 hv2 hrowd hWd hrow hsz hW
    go_wp2_with fail
    go_cut [4] from 5 (fun s4 W2 => s4 = .pointer (some ⟨g, i * 5, none⟩) ∧ ∃ w4 g4 c4, W2 = (w4.setCell ⟨g, i * 5 + 2, none⟩ (.slice (some ⟨g4, 0, none⟩) (x.o.l.length + more.length) c4)) ∧ w4.ownsRow base 26 2 (.slice (some ⟨g4, 0, none⟩) (x.o.l.length + more.length) c4) (x.o.l.length + more.length) (vcells x.o.l ++ vcells more) ∧ Wd.drew.grownBy w4 (Value.slice q x.o.l.length cl).ownBlock ∧ ((Value.slice q x.o.l.length cl).ownBlock = some g4 ∨ g4 = Wd.heap.size))
    case first =>
      go_region_law (first
        | (refine step_append_lies _ (by rfl) _ _ _ (by rfl) base 26 i0 (.agg #[.int .u8 0, .int .i64 0]) 2 16 Try.underlying37 hi0 hz0 hz1 hz2 rfl (by omega) (.slice q x.o.l.length cl) x.o.l.length (vcells x.o.l) (by rfl) hrld ⟨b2, o2, none⟩ more.length more.length (vcells more) (by rfl) (vcells_len more) hcd (vcells_one more) hm0 (by unfold maxLen; omega) (by omega) hbs Wd.heap.size (by rfl) ?_; intro g4 c4 w4 ho4 hg4 hat4 hlt4; obtain ⟨-, k0, k1⟩ := HK w4 hg4))
      all_goals
        go_wp2_with fail
        go_meet
        case rel => exact ⟨rfl, w4, g4, c4, rfl, ho4, hg4, hat4⟩
    case rest =>
      obtain ⟨rfl, w4, g4, c4, rfl, ho4, hg4, hat4⟩ := hcut
      obtain ⟨hOd, hlv, hbd, hlvb, hBW, hsz⟩ := HG.out
      obtain ⟨hrow4, -, -⟩ := HK w4 hg4
      have hOdd := hOd.kept (w' := Wd.drew) (fun _ _ _ => rfl)
      have hO5 := hOdd.more hx (more := more) (g4 := g4) (c4 := c4) (w4 := w4) ho4 (by rw [hlv]; exact hg4) (by rw [hlv]; exact hat4)
      have hyc : (ts.set i ⟨{ x.o with l := x.o.l ++ more }, .slice (some ⟨g4, 0, none⟩) (x.o.l.length + more.length) c4⟩)[i]? = some ⟨{ x.o with l := x.o.l ++ more }, .slice (some ⟨g4, 0, none⟩) (x.o.l.length + more.length) c4⟩ := List.getElem?_set_self hi
      have hO6 := hO5.room hyc r2
      rw [List.set_set] at hO6
      have hlvb2 : ∀ gg, (Value.slice q x.o.l.length cl).ownBlock = some gg → base ≤ gg ∧ gg < w.heap.size := fun gg e => hlvb gg (by rw [hlv]; exact e)
      have hB4 : Below base w w4 := (below_drew hBW).trans (rbelow_grown hg4 (fun kk e => (hlvb2 kk e).1) hbs)
      have hB6 := below_set (below_set hB4 (g := g) (i := i * 5 + 2) hb.1 (.slice (some ⟨g4, 0, none⟩) (x.o.l.length + more.length) c4)) (g := g) (i := i * 5 + 3) hb.1 (.int .i64 r2)
      have hne2 : w.heap.size ≠ g := by omega
      have hb4 : w4.heap[w.heap.size]? = _ := (hg4.block w.heap.size (by show w.heap.size < Wd.heap.size; omega) (fun e => by have := (hlvb2 _ e.symm).2; omega)).trans hbd
      have hb5 := (heap_setCell_other w4 ⟨g, i * 5 + 2, none⟩ w.heap.size (.slice (some ⟨g4, 0, none⟩) (x.o.l.length + more.length) c4) hne2).trans hb4
      obtain ⟨v0, v1, v2, v3⟩ := cell_row4C hb5
      have hrow5 := hO5.row
      rw [List.length_set, hts] at hrow5
      obtain ⟨s0, s1, s2, s3, s4⟩ := cell_pcells hrow5 (by rw [List.length_set]; exact hts) hyc
      have f3 := frozen_row hrow5 (i * 5 + 3)
      have hfr : ∀ k, k < w.heap.size → k ≠ g → x.lv.ownBlock ≠ some k → ((w4.setCell ⟨g, i * 5 + 2, none⟩ (.slice (some ⟨g4, 0, none⟩) (x.o.l.length + more.length) c4)).setCell ⟨g, i * 5 + 3, none⟩ (.int .i64 r2)).heap[k]? = w.heap[k]? := fun k hk hg hl => by
        rw [heap_setCell_other _ ⟨g, i * 5 + 3, none⟩ _ _ hg, heap_setCell_other _ ⟨g, i * 5 + 2, none⟩ _ _ hg]
        rw [hlv] at hl
        exact (hg4.block k (by show k < Wd.heap.size; omega) (fun e => hl e.symm)).trans (hWW k hk)
      have HF : Hid _ := And.intro hO6 (And.intro hB6 hfr)
      clear hfr hO6 hB6 hO5 hB4 hlv hlvb hlvb2 hOd hOdd ho4 hg4 hat4 HK HG hbd hBW hsz hyc hrow4 hrow5 hb4
      go_wp2
      refine bodyPost_end (results_none (by rfl) _ _ _) (by rfl) ?_
      exact ⟨rfl, ⟨_, HF.out.1⟩, HF.out.2.1, HF.out.2.2⟩

end Go.Proofs.Ytgokofomoachaaa
