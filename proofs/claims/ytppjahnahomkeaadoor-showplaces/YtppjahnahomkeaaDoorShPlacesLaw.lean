/- ShowPlaces: the walk. -/
import Derived.Test.YtppjahnahomkeaaDoorShAlive2
import Derived.Test.YtppjahnahomkeaaDoorShCheck
import Derived.Test.YtppjahnahomkeaaDoorShTurned
import Derived.Test.YtppjahnahomkeaaDoorShWordsAny
namespace Go.Proofs.YtppjahnahomkeaaDoor
set_option linter.unusedVariables false
set_option linter.unusedSimpArgs false
open Go.RowKit

theorem vals_two (w1 : World) (o : Obj) (x : Vl) : Vals ((w1.alloc o).alloc (.cells #[.int .u8 x.k, .int .i64 x.n] 26)) (some ⟨w1.heap.size + 1, 0, none⟩) [x] := by
  have h := vals_one (w1.alloc o) x
  have e : (w1.alloc o).heap.size = w1.heap.size + 1 := by simp
  rw [e] at h
  exact h

theorem mem_tS {S : List Om} {o : Om} (h : o ∈ tS S) : ∃ x ∈ S, o = tO S.length x := by
  unfold tS at h
  rw [List.mem_reverse] at h
  obtain ⟨x, hx, rfl⟩ := List.mem_map.1 h
  exact ⟨x, hx, rfl⟩

theorem small_turn {S : List Om} (h : Small S) : Small (tS S) := by
  refine ⟨by rw [tS_len]; exact h.len, fun o ho => ?_, fun o ho => ?_⟩
  · obtain ⟨x, hx, rfl⟩ := mem_tS ho
    simpa [tO] using h.vals x hx
  · obtain ⟨x, hx, rfl⟩ := mem_tS ho
    exact h.str x hx

theorem tv_fits {n : Nat} {v : Vl} (hn : n ≤ 1048576) (h : v.fits) : (tv n v).fits := by
  unfold tv
  split
  · obtain ⟨h1, h2, h3⟩ := h
    refine ⟨h1, ?_, ?_⟩ <;> dsimp only <;> omega
  · exact h

theorem fits_turn {S : List Om} (hn : S.length ≤ 1048576) (h : ∀ o ∈ S, o.fits) : ∀ o ∈ tS S, o.fits := fun o ho => by
  obtain ⟨x, hx, rfl⟩ := mem_tS ho
  obtain ⟨h1, h2, h3⟩ := h x hx
  refine ⟨h1, fun v hv => ?_, h3⟩
  obtain ⟨u, hu, rfl⟩ := List.mem_map.1 hv
  exact tv_fits hn (h2 u hu)

theorem room_of {S : List Om} (h : ∀ o ∈ S, o.fits) : ∀ o ∈ S, o.room ≤ 9223372036854775807 := fun o ho => (h o ho).2.2.1.2

/-- Both texts are the same. -/
theorem texts_turn {S : List Om} {v : Vl} (hsm : Small S) (hfit : ∀ o ∈ S, o.fits) (hfv : v.fits) : ∃ (tx : ByteArray) (tb : Bool),
    (∀ (W : World) (p : Option Addr) (c : Nat), IsSt W p S → Tab W → Calls Tryd.prog 9 #[.slice p S.length c, .agg #[.int .u8 v.k, .int .i64 v.n]] W fun e w' => e = .returned (.tuple #[.string tx, .bool tb]) ∧ Below W.heap.size W w') ∧
    (∀ (W : World) (p : Option Addr) (c : Nat), IsSt W p (tS S) → Tab W → Calls Tryd.prog 9 #[.slice p S.length c, .agg #[.int .u8 (tv S.length v).k, .int .i64 (tv S.length v).n]] W fun e w' => e = .returned (.tuple #[.string tx, .bool tb]) ∧ Below W.heap.size W w') := by
  have hll : ∀ o ∈ S, o.l.length ≤ 1048576 := fun o ho => by have := hsm.vals o ho; omega
  have hsm2 := small_turn hsm
  have hll2 : ∀ o ∈ tS S, o.l.length ≤ 1048576 := fun o ho => by have := hsm2.vals o ho; omega
  have hmax : S.length ≤ maxLen := Nat.le_trans hsm.len (by unfold maxLen; decide)
  have hmax2 : (tS S).length ≤ maxLen := by rw [tS_len]; exact hmax
  have et : textB (tS S) (tv S.length v) = textB S v := txtV_turn 9 v
  by_cases hl : (textB S v).length ≤ 4096
  · refine ⟨⟨(textB S v).toArray⟩, true, fun W p c h1 h2 => Text_fits c ⟨h1, hmax, hsm.str, hfit, h2⟩ hll v hfv hl, fun W p c h1 h2 => ?_⟩
    have := Text_fits c ⟨h1, hmax2, hsm2.str, fits_turn hsm.len hfit, h2⟩ hll2 (tv S.length v) (tv_fits hsm.len hfv) (by rw [et]; exact hl)
    rw [et, tS_len] at this
    exact this
  · refine ⟨⟨#[]⟩, false, fun W p c h1 h2 => Text_long c ⟨h1, hmax, hsm.str, hfit, h2⟩ hll v hfv (by omega), fun W p c h1 h2 => ?_⟩
    have := Text_long c ⟨h1, hmax2, hsm2.str, fits_turn hsm.len hfit, h2⟩ hll2 (tv S.length v) (tv_fits hsm.len hfv) (by rw [et]; omega)
    rw [tS_len] at this
    exact this

open Classical in
theorem checks_turn {S : List Om} {v : Vl} (hsm : Small S) (hfit : ∀ o ∈ S, o.fits) : ∃ b : Bool,
    (∀ (W : World) (p : Option Addr) (c : Nat), IsSt W p S → Calls Tryd.prog 14 #[.slice p S.length c, .agg #[.int .u8 v.k, .int .i64 v.n]] W fun e w' => e = .returned (.bool b) ∧ Below W.heap.size W w') ∧
    (∀ (W : World) (p : Option Addr) (c : Nat), IsSt W p (tS S) → Calls Tryd.prog 14 #[.slice p S.length c, .agg #[.int .u8 (tv S.length v).k, .int .i64 (tv S.length v).n]] W fun e w' => e = .returned (.bool b) ∧ Below W.heap.size W w') := by
  refine ⟨decide (checkP S v), fun W p c h1 => Check_in c h1 hsm (fun o ho => (hfit o ho).2.1) v _ (by simp), fun W p c h1 => ?_⟩
  have := Check_in c h1 (small_turn hsm) (fun o ho => (fits_turn hsm.len hfit o ho).2.1) (tv S.length v) (decide (checkP S v)) (by rw [checkP_turn]; simp)
  rw [tS_len] at this
  exact this

theorem wordss_turn {S : List Om} {v : Vl} (hsm : Small S) (hfit : ∀ o ∈ S, o.fits) : ∃ n : Int,
    (∀ (W : World) (p : Option Addr) (c : Nat) (q : Option Addr), IsSt W p S → Vals W q [v] → Calls Tryd.prog 15 #[.slice p S.length c, .slice q 1 1] W fun e w' => e = .returned (.int .i64 n) ∧ Below W.heap.size W w') ∧
    (∀ (W : World) (p : Option Addr) (c : Nat) (q : Option Addr), IsSt W p (tS S) → Vals W q [tv S.length v] → Calls Tryd.prog 15 #[.slice p S.length c, .slice q 1 1] W fun e w' => e = .returned (.int .i64 n) ∧ Below W.heap.size W w') := by
  refine ⟨w64 (wordsR S [v]), fun W p c q h1 h2 => Words_any c 1 h1 hsm (room_of hfit) h2 (by simp), fun W p c q h1 h2 => ?_⟩
  have := Words_any c 1 h1 (small_turn hsm) (room_of (fits_turn hsm.len hfit)) h2 (by simp)
  have e : [tv S.length v] = [v].map (tv S.length) := rfl
  rw [e, words_turn, tS_len] at this
  exact this

set_option maxRecDepth 20000 in
set_option maxHeartbeats 4000000 in
theorem showPlaces_walk (p : Option Addr) (S : List Om) (c : Nat) (v : Vl) (w : World) (hs : IsSt w p S) (hb : Came S) (hfit : ∀ o ∈ S, o.fits) (hfv : v.fits) (htab : Tab w) :
    Calls Tryd.prog 4 #[.slice p S.length c, .agg #[.int .u8 v.k, .int .i64 v.n]] w fun e w' => e = .returned (.bool true) ∧ Below w.heap.size w w' := by
  have hv0 := heap_alloc_new w (.cells #[.int .u8 v.k, .int .i64 v.n] 26)
  have hA := below1 w (.cells #[.int .u8 v.k, .int .i64 v.n] 26)
  have HA := fun (W : World) (h : Below w.heap.size w W) => alive_in W (htab.below h)
  have H1 := fun (W : World) (h : Below w.heap.size w W) => great_in c (hs.below h) hb
  go_enter Tryd.func4, Tryd.ntmps4
  go_wp2_with (first
    | (go_at_call 12; refine (HA _ (below1 _ _)).mono ?_; rintro e w1 ⟨rfl, hB1⟩; have hB1' : Below w.heap.size w w1 := hA.trans (hB1.mono hA.size))
    | (go_at_call 7; refine (H1 _ hB1').mono ?_; clear H1; rintro e w2 ⟨b, rfl, hsm0, hB2⟩; refine halt_here ?_))
  unfold Halted
  have hB2' : Below w.heap.size w w2 := hB1'.trans (hB2.mono hB1'.size)
  cases b with
  | true =>
    clear hsm0
    go_wp2_with (first
      | (go_at_call 12; refine (HA _ hB2').mono ?_; rintro e w3 ⟨rfl, hB3⟩))
    go_ret
    exact ⟨rfl, hB2'.trans (hB3.mono hB2'.size)⟩
  | false =>
    obtain ⟨hsm, -⟩ := hsm0 rfl
    clear hsm0 HA
    have hv1 := (hB1.block w.heap.size (by simp)).trans hv0
    have hv2 := (hB2.block w.heap.size (Array.getElem?_eq_some_iff.1 hv1).1).trans hv1
    obtain ⟨x0, x1⟩ := cell_rowV hv2
    obtain ⟨tx, tb, HT1, HT2⟩ := texts_turn (v := v) hsm hfit hfv
    obtain ⟨cb, HC1, HC2⟩ := checks_turn (v := v) hsm hfit
    obtain ⟨nw, HW1, HW2⟩ := wordss_turn (v := v) hsm hfit
    have HR := turned_in c (hs.below hB2') hsm.len (fun o ho => by have := hsm.vals o ho; omega) v
    clear hv1
    go_wp2_with (first
      | (go_at_call 13; refine HR.mono ?_; clear HR; rintro e w3 ⟨q, cc, rfl, hst, hB3⟩; refine halt_here ?_))
    unfold Halted
    have hB3' : Below w.heap.size w w3 := hB2'.trans (hB3.mono hB2'.size)
    have hA3 := below1 w3 (.cells #[.int .u8 (tv S.length v).k, .int .i64 (tv S.length v).n] 26)
    have hB4 : Below w.heap.size w (w3.alloc (.cells #[.int .u8 (tv S.length v).k, .int .i64 (tv S.length v).n] 26)) := hB3'.trans (hA3.mono hB3'.size)
    have hv3 := (hB3.block w.heap.size (Array.getElem?_eq_some_iff.1 hv2).1).trans hv2
    have hv4 := (hA3.block w.heap.size (Array.getElem?_eq_some_iff.1 hv3).1).trans hv3
    have hu4 := heap_alloc_new w3 (.cells #[.int .u8 (tv S.length v).k, .int .i64 (tv S.length v).n] 26)
    have hst4 := hst.below hA3
    have HT1' := fun (W : World) (h : Below w.heap.size w W) => HT1 W p c (hs.below h) (htab.below h)
    have HT2' := fun (W : World) (h : Below w3.heap.size w3 W) => HT2 W q cc (hst.below h) ((htab.below hB3').below h)
    have HC1' := fun (W : World) (h : Below w.heap.size w W) => HC1 W p c (hs.below h)
    have HC2' := fun (W : World) (h : Below w3.heap.size w3 W) => HC2 W q cc (hst.below h)
    have HW1' := fun (W : World) (g : Option Addr) (h : Below w.heap.size w W) => HW1 W p c g (hs.below h)
    have HW2' := fun (W : World) (g : Option Addr) (h : Below w3.heap.size w3 W) => HW2 W q cc g (hst.below h)
    obtain ⟨x0, x1⟩ := cell_rowV hv4
    obtain ⟨y0, y1⟩ := cell_rowV hu4
    clear HT1 HT2 HC1 HC2 HW1 HW2
    have hw3 := hB3'.size
    go_wp2_with (first
      | (go_at_call 9; (with_reducible refine (HT1' _ hB4).mono ?_); rintro e w5 ⟨rfl, hB5⟩; refine halt_here ?_))
    unfold Halted
    have hB5' : Below w.heap.size w w5 := hB4.trans (hB5.mono hB4.size)
    have hB35 : Below w3.heap.size w3 w5 := hA3.trans (hB5.mono hA3.size)
    have hv5 := (hB5.block w.heap.size (Array.getElem?_eq_some_iff.1 hv4).1).trans hv4
    have hu5 := (hB5.block w3.heap.size (Array.getElem?_eq_some_iff.1 hu4).1).trans hu4
    obtain ⟨x0', x1'⟩ := cell_rowV hv5
    obtain ⟨y0', y1'⟩ := cell_rowV hu5
    clear x0 x1 y0 y1
    go_wp2_with (first
      | (go_at_call 9; (with_reducible refine (HT2' _ hB35).mono ?_); rintro e w6 ⟨rfl, hB6⟩; refine halt_here ?_))
    unfold Halted
    have hB6' : Below w.heap.size w w6 := hB5'.trans (hB6.mono hB5'.size)
    have hB36 : Below w3.heap.size w3 w6 := hB35.trans (hB6.mono hB35.size)
    have hv6 := (hB6.block w.heap.size (Array.getElem?_eq_some_iff.1 hv5).1).trans hv5
    have hu6 := (hB6.block w3.heap.size (Array.getElem?_eq_some_iff.1 hu5).1).trans hu5
    obtain ⟨x0, x1⟩ := cell_rowV hv6
    obtain ⟨y0, y1⟩ := cell_rowV hu6
    have HF : ∀ (W : World), Below w6.heap.size w6 W → Below w6.heap.size w6 W ∧ W.cell? ⟨w.heap.size, 0, none⟩ = some (.int .u8 v.k) ∧ W.cell? ⟨w.heap.size, 1, none⟩ = some (.int .i64 v.n) ∧ W.cell? ⟨w3.heap.size, 0, none⟩ = some (.int .u8 (tv S.length v).k) ∧ W.cell? ⟨w3.heap.size, 1, none⟩ = some (.int .i64 (tv S.length v).n) := fun W h =>
      ⟨h, (hB_cell h (Array.getElem?_eq_some_iff.1 hv6).1).trans x0, (hB_cell h (Array.getElem?_eq_some_iff.1 hv6).1).trans x1, (hB_cell h (Array.getElem?_eq_some_iff.1 hu6).1).trans y0, (hB_cell h (Array.getElem?_eq_some_iff.1 hu6).1).trans y1⟩
    have K1 := fun (W : World) (h : Below w6.heap.size w6 W) => HC1' W (hB6'.trans (h.mono hB6'.size))
    have K2 := fun (W : World) (h : Below w6.heap.size w6 W) => HC2' W (hB36.trans (h.mono hB36.size))
    have L1 := fun (W : World) (g : Option Addr) (h : Below w6.heap.size w6 W) => HW1' W g (hB6'.trans (h.mono hB6'.size))
    have L2 := fun (W : World) (g : Option Addr) (h : Below w6.heap.size w6 W) => HW2' W g (hB36.trans (h.mono hB36.size))
    have HFin : ∀ (W : World), Below w6.heap.size w6 W → Below w.heap.size w W := fun W h => hB6'.trans (h.mono hB6'.size)
    clear HT1' HT2' HC1' HC2' HW1' HW2' x0' x1' y0' y1' hB5 hB6 hB35 hB36 hv5 hu5 hv4 hu4 hst hst4 hs hb hfit hfv htab hsm
    go_wp2
    go_region_held3 (fun W => Below w6.heap.size w6 W ∧ W.cell? ⟨w.heap.size, 0, none⟩ = some (.int .u8 v.k) ∧ W.cell? ⟨w.heap.size, 1, none⟩ = some (.int .i64 v.n) ∧ W.cell? ⟨w3.heap.size, 0, none⟩ = some (.int .u8 (tv S.length v).k) ∧ W.cell? ⟨w3.heap.size, 1, none⟩ = some (.int .i64 (tv S.length v).n))
      (first
        | exact HF _ (below_drew (Below.refl _ _))
        | (obtain ⟨hHb, -⟩ := ‹Below w6.heap.size w6 _ ∧ _›; first | with_reducible exact HF _ (hHb.trans (hBz.mono hHb.size)) | with_reducible exact HF _ (hHb.alloc hHb.size _)))
      (first
        | (go_at_call 14; (obtain ⟨hHc, -⟩ := ‹Below w6.heap.size w6 _ ∧ _›); (first | (with_reducible refine (K1 _ hHc).mono ?_) | (with_reducible refine (K2 _ hHc).mono ?_)); rintro e wz ⟨rfl, hBz⟩)
        | (go_at_call 15; (obtain ⟨hHc, -⟩ := ‹Below w6.heap.size w6 _ ∧ _›); (first | (with_reducible refine (L1 _ _ hHc (by first | with_reducible exact vals_one _ _ | with_reducible exact (vals_one _ _).below (below1 _ _) | with_reducible exact (vals_one _ _).below hBy | with_reducible exact ((vals_one _ _).below (below1 _ _)).below hBy | with_reducible exact vals_two _ _ _ | with_reducible exact (vals_two _ _ _).below hBy)).mono ?_) | (with_reducible refine (L2 _ _ hHc (by first | with_reducible exact vals_one _ _ | with_reducible exact (vals_one _ _).below (below1 _ _) | with_reducible exact (vals_one _ _).below hBy | with_reducible exact ((vals_one _ _).below (below1 _ _)).below hBy | with_reducible exact vals_two _ _ _ | with_reducible exact (vals_two _ _ _).below hBy)).mono ?_)); rintro e wy ⟨rfl, hBy⟩; have hBz := hBy))
    all_goals
      go_wp2
      go_ret
      exact ⟨rfl, HFin _ (by obtain ⟨hHb, -⟩ := ‹Below w6.heap.size w6 _ ∧ _›; exact hHb)⟩

end Go.Proofs.YtppjahnahomkeaaDoor
