/- Names and numbers. -/
import Derived.Test.YtpbempnenjfjdaaGreatDoorLxIdle
namespace Go.Proofs.YtpbempnenjfjdaaGreatDoor
set_option linter.unusedVariables false
set_option linter.unusedSimpArgs false
open Go.RowKit

variable {w : World}

theorem cell_row4 {W : World} {g : Nat} {a b c d : Value} {t : TypeId} (h : W.heap[g]? = some (.cells #[a, b, c, d] t (0, 0))) :
    (W.cell? ⟨g, 0, none⟩ = some a ∧ W.cell? ⟨g, 1, none⟩ = some b ∧ W.cell? ⟨g, 2, none⟩ = some c ∧ W.cell? ⟨g, 3, none⟩ = some d) ∧ (W.frozen? ⟨g, 0, none⟩ = false ∧ W.frozen? ⟨g, 1, none⟩ = false ∧ W.frozen? ⟨g, 2, none⟩ = false ∧ W.frozen? ⟨g, 3, none⟩ = false) :=
  ⟨⟨by rw [cell_of_row W g 0 _ _ _ h]; rfl, by rw [cell_of_row W g 1 _ _ _ h]; rfl, by rw [cell_of_row W g 2 _ _ _ h]; rfl, by rw [cell_of_row W g 3 _ _ _ h]; rfl⟩, frozen_of_row W g 0 _ _ h, frozen_of_row W g 1 _ _ h, frozen_of_row W g 2 _ _ h, frozen_of_row W g 3 _ _ h⟩

/-- Four cells written. -/
def set4 (W : World) (g : Nat) (x0 x1 x2 x3 : Value) : World := (((W.setCell ⟨g, 0, none⟩ x0).setCell ⟨g, 1, none⟩ x1).setCell ⟨g, 2, none⟩ x2).setCell ⟨g, 3, none⟩ x3

theorem set4_row {W : World} {g : Nat} {a b c d x0 x1 x2 x3 : Value} {t : TypeId} (h : W.heap[g]? = some (.cells #[a, b, c, d] t (0, 0))) : (set4 W g x0 x1 x2 x3).heap[g]? = some (.cells #[x0, x1, x2, x3] t (0, 0)) := by
  have h1 := heap_setCell_same W g 0 _ t x0 h
  have h2 := heap_setCell_same _ g 1 _ t x1 h1
  have h3 := heap_setCell_same _ g 2 _ t x2 h2
  have h4 := heap_setCell_same _ g 3 _ t x3 h3
  simpa [set4] using h4

theorem set4_other {W : World} {g k : Nat} {x0 x1 x2 x3 : Value} (h : k ≠ g) : (set4 W g x0 x1 x2 x3).heap[k]? = W.heap[k]? := by
  unfold set4
  rw [heap_setCell_other _ ⟨g, 3, none⟩ _ _ h, heap_setCell_other _ ⟨g, 2, none⟩ _ _ h, heap_setCell_other _ ⟨g, 1, none⟩ _ _ h, heap_setCell_other _ ⟨g, 0, none⟩ _ _ h]

theorem set4_size {W : World} {g : Nat} {x0 x1 x2 x3 : Value} : (set4 W g x0 x1 x2 x3).heap.size = W.heap.size := by simp [set4, World.setCell]

/-- Written where nothing was at the start: of what was there nothing has turned. -/
theorem Rst.set4 {b g : Nat} {w W : World} (h : Rst b w W) (hg : w.heap.size ≤ g) (x0 x1 x2 x3 : Value) : Rst b w (set4 W g x0 x1 x2 x3) :=
  ⟨h.os, h.tape, h.output, by rw [set4_size]; exact h.size, fun k hk hb => (set4_other (by omega)).trans (h.block k hk hb)⟩

theorem below_set4 {n g : Nat} {w W : World} (h : Below n w W) (hg : n ≤ g) (x0 x1 x2 x3 : Value) : Below n w (Proofs.YtpbempnenjfjdaaGreatDoor.set4 W g x0 x1 x2 x3) :=
  ⟨h.os, h.tape, h.output, by rw [set4_size]; exact h.size, fun k hk => (set4_other (by omega)).trans (h.block k hk)⟩

/-- What a reader's call for a word answers. -/
def WRes (R : Option (Wd × List UInt8)) (b ln : Nat) (w : World) (e : Ending) (w' : World) : Prop :=
  ∃ (k : Int) (s : ByteArray) (n m : Int) (ok : Bool) (l' : List UInt8), e = .returned (.tuple #[.agg #[.int .u8 k, .string s, .int .i64 n, .int .i64 m], .bool ok]) ∧ Rst b w w' ∧ IsRd w' b l' ln ∧
    (match R with
      | none => ok = false
      | some (wd, z) => ok = true ∧ l' = z ∧ k = (wd.k : Int) ∧ s = bs wd.s ∧ n = wd.n ∧ m = 0)

theorem infoWord : (Tryz.prog.info? 56).map (·.size) = some 4 := by kernel_rfl

theorem clone_in (s : ByteArray) (hs : s.size ≤ 1048576) (w : World) : Calls Tryz.prog 132 #[.string s] w fun e w' => e = .returned (.string s) ∧ Below w.heap.size w w' := by
  have H := Tryz.stringslite_Clone s w (by omega)
  go_enter Tryz.func132, Tryz.ntmps132
  go_wp2_with (first
    | (go_at_call 138; refine H.mono ?_; clear H; rintro e w1 ⟨rfl, hB⟩))
  go_ret
  exact ⟨rfl, hB⟩

theorem wordAt_name {c : UInt8} {r : List UInt8} (h : isL c = true) : wordAt (c :: r) = if ((c :: r).takeWhile isN).length ≤ 4096 then some (⟨1, (c :: r).takeWhile isN, 0, 0⟩, (c :: r).dropWhile isN) else none := by
  rw [wordAt, if_pos h]

theorem wordAt_num {c : UInt8} {r : List UInt8} (h0 : isL c = false) (h : isD c = true) : wordAt (c :: r) = (numV ((c :: r).takeWhile isN)).map (fun v => (⟨2, [], v, 0⟩, (c :: r).dropWhile isN)) := by
  rw [wordAt, if_neg (by simp [h0]), if_pos h]

set_option maxRecDepth 20000 in
set_option maxHeartbeats 1000000 in
theorem name_in {b : Nat} {l : List UInt8} {ln : Nat} (h : IsRd w b l ln) (hl : l.length ≤ 65536) (R : Option (Wd × List UInt8)) (hR : R = if (l.takeWhile isN).length ≤ 4096 then some (⟨1, l.takeWhile isN, 0, 0⟩, l.dropWhile isN) else none) :
    Calls Tryz.prog 79 #[.pointer (some ⟨b, 0, none⟩)] w fun e w' => WRes R b ln w e w' := by
  have hA := below1 w (.cells #[.int .u8 0, .string ⟨#[]⟩, .int .i64 0, .int .i64 0] 56)
  have hz := heap_alloc_new w (.cells #[.int .u8 0, .string ⟨#[]⟩, .int .i64 0, .int .i64 0] 56)
  have h1 := h.below hA
  have hlt := h.lt
  have hst1 : Rst b w (w.alloc (.cells #[.int .u8 0, .string ⟨#[]⟩, .int .i64 0, .int .i64 0] 56)) := .of_below hA
  have H1 := eatN_in h1 (by omega)
  have htw := tw_len isN l
  have h2 := h1.rest (l.dropWhile isN)
  have hst2 := hst1.set (i := 0) (.string (bs (l.dropWhile isN)))
  have hz2 := (heap_setCell_other (w.alloc (.cells #[.int .u8 0, .string ⟨#[]⟩, .int .i64 0, .int .i64 0] 56)) ⟨b, 0, none⟩ w.heap.size (.string (bs (l.dropWhile isN))) (by dsimp only; omega)).trans hz
  have htk : (bs (l.takeWhile isN)).size = (l.takeWhile isN).length := bs_size _
  generalize hdw : l.dropWhile isN = dw at *
  generalize htk0 : l.takeWhile isN = tk at *
  have HC := clone_in (bs tk) (by omega)
  have HR : Hid _ := hR
  clear hR
  go_enter Tryz.func79, Tryz.ntmps79
  go_wp2_with (first
    | (go_at_call 73; (with_reducible refine H1.mono ?_); clear H1; rintro e w1 ⟨rfl, rfl⟩; generalize (w.alloc (.cells #[.int .u8 0, .string ⟨#[]⟩, .int .i64 0, .int .i64 0] 56)).setCell ⟨b, 0, none⟩ (.string (bs dw)) = W1 at *)
    | (go_at_call 132; (with_reducible refine (HC _).mono ?_); clear HC; rintro e w2 ⟨rfl, hB2⟩; have hz3 := (hB2.block _ (Array.getElem?_eq_some_iff.1 hz2).1).trans hz2; have h3 := h2.below hB2; have hst3 := hst2.trans (.of_below hB2); obtain ⟨⟨c0, c1, c2, c3⟩, f0, f1, f2, f3⟩ := cell_row4 hz3))
  refine bodyPost_ret (results_row_tmp (by rfl) _ _ w.heap.size 56 #[.int .u8 1, .string (bs tk), .int .i64 0, .int .i64 0] (0, 0) _ (by rfl) (set4_row hz3) Tryz.underlying56 (by rfl) infoWord) (by rfl) ?_
  refine ⟨1, bs tk, 0, 0, decide (tk.length ≤ 4096), dw, ?_, hst3.set4 (Nat.le_refl _) _ _ _ _, (set4_other (by omega)).trans h3, ?_⟩
  · have e : decide ((tk.length : Int) ≤ 4096) = decide (tk.length ≤ 4096) := by
      rw [Bool.eq_iff_iff]; simp; omega
    show Ending.returned (.tuple #[.agg _, .bool (decide ((tk.length : Int) ≤ 4096))]) = _
    rw [e]
  · rw [HR.out]
    by_cases hq : tk.length ≤ 4096
    · simp [hq]
    · simp [hq]

/-- The two errors that a number's reading may name. -/
def Errs (w : World) : Prop := (∃ te pe, w.cell? ⟨1, 0, none⟩ = some (.iface te pe)) ∧ ∃ te pe, w.cell? ⟨2, 0, none⟩ = some (.iface te pe)

theorem Errs.below {n : Nat} (h : Errs w) {w' : World} (hB : Below n w w') (hn : 7 ≤ n) : Errs w' := by
  obtain ⟨⟨t, p, h1⟩, t2, p2, h2⟩ := h
  exact ⟨⟨t, p, (hB.cell (p := ⟨1, 0, none⟩) (by dsimp only; omega)).trans h1⟩, t2, p2, (hB.cell (p := ⟨2, 0, none⟩) (by dsimp only; omega)).trans h2⟩

theorem below_bytes {w w' : World} (h : w' = w ∨ ∃ t, w' = Lib.bytesWorld w 5 t) : Below w.heap.size w w' := by
  rcases h with rfl | ⟨t, rfl⟩
  · exact Below.refl _ _
  · exact Lib.bytesWorld_below _ _ _

/-- A number's reading. -/
theorem parse_ok (s : List UInt8) (hs : s.length ≤ 1048576) (w : World) {v : Int} (hp : Lib.parseIntB 64 s = .ok v) : Calls Tryz.prog 133 #[.string (bs s), .int .i64 10, .int .i64 64] w fun e w' =>
    e = .returned (.tuple #[.int .i64 v, .nilIface]) ∧ Below w.heap.size w w' := by
  have hz := bs_size s
  have hd := bs_list s
  refine (Tryz.strconv_ParseInt_10_at64_ok (bs s) (by omega) v (by rw [hd]; exact hp) w).mono ?_
  rintro e w' ⟨rfl, hB⟩
  exact ⟨rfl, below_bytes hB⟩

theorem parse_bad (s : List UInt8) (hs : s.length ≤ 1048576) (w : World) (he : Errs w) (hp : ∀ v, Lib.parseIntB 64 s ≠ .ok v) : Calls Tryz.prog 133 #[.string (bs s), .int .i64 10, .int .i64 64] w fun e w' =>
    ∃ (n : Int) (t : TypeId) (p : Value), e = .returned (.tuple #[.int .i64 n, .iface t p]) ∧ Below w.heap.size w w' := by
  have hz := bs_size s
  have hd := bs_list s
  obtain ⟨⟨t1, p1, h1⟩, t2, p2, h2⟩ := he
  cases hq : Lib.parseIntB 64 s with
  | ok v => exact absurd hq (hp v)
  | range =>
    refine (Tryz.strconv_ParseInt_10_at64_range (bs s) (by omega) (by rw [hd]; exact hq) _ w h2 (.inr ⟨_, _, rfl⟩)).mono ?_
    rintro e w' ⟨N, rfl, _, _, hB⟩
    exact ⟨_, _, _, rfl, hB⟩
  | _ =>
    refine (Tryz.strconv_ParseInt_10_at64_none (bs s) (by omega) ((congrArg (Lib.parseIntB 64) hd).trans hq) trivial _ w h1 (.inr ⟨_, _, rfl⟩)).mono ?_
    rintro e w' ⟨N, rfl, _, _, hB⟩
    exact ⟨_, _, _, rfl, hB⟩

set_option maxRecDepth 20000 in
set_option maxHeartbeats 1000000 in
theorem number_in {b : Nat} {c : UInt8} {r : List UInt8} {ln : Nat} (h : IsRd w b (c :: r) ln) (hl : (c :: r).length ≤ 65536) (he : Errs w) (hw : 7 ≤ b) (hcn : isN c = true) (R : Option (Wd × List UInt8)) (hR : R = (numV ((c :: r).takeWhile isN)).map (fun v => (⟨2, [], v, 0⟩, (c :: r).dropWhile isN))) :
    Calls Tryz.prog 81 #[.pointer (some ⟨b, 0, none⟩)] w fun e w' => WRes R b ln w e w' := by
  have hA := below1 w (.cells #[.int .u8 0, .string ⟨#[]⟩, .int .i64 0, .int .i64 0] 56)
  have hz := heap_alloc_new w (.cells #[.int .u8 0, .string ⟨#[]⟩, .int .i64 0, .int .i64 0] 56)
  have h1 := h.below hA
  have hlt := h.lt
  have hst1 : Rst b w (w.alloc (.cells #[.int .u8 0, .string ⟨#[]⟩, .int .i64 0, .int .i64 0] 56)) := .of_below hA
  have H1 := eatN_in h1 (by omega)
  have htw := tw_len isN (c :: r)
  obtain ⟨tr, htr⟩ : ∃ tr, (c :: r).takeWhile isN = c :: tr := ⟨r.takeWhile isN, by simp [List.takeWhile, hcn]⟩
  have h2 := h1.rest ((c :: r).dropWhile isN)
  have hst2 := hst1.set (i := 0) (.string (bs ((c :: r).dropWhile isN)))
  have hz2 := (heap_setCell_other (w.alloc (.cells #[.int .u8 0, .string ⟨#[]⟩, .int .i64 0, .int .i64 0] 56)) ⟨b, 0, none⟩ w.heap.size (.string (bs ((c :: r).dropWhile isN))) (by dsimp only; omega)).trans hz
  rw [htr] at htw H1 hR
  have htk : (bs (c :: tr)).size = tr.length + 1 := by rw [bs_size]; simp
  have hg0 : (bs (c :: tr))[0]'(by omega) = c := by
    have := bs_get (l := c :: tr) (j := 0) (by omega)
    simpa using this.symm
  generalize hdw : (c :: r).dropWhile isN = dw at *
  have he1 : Errs ((w.alloc (.cells #[.int .u8 0, .string ⟨#[]⟩, .int .i64 0, .int .i64 0] 56)).setCell ⟨b, 0, none⟩ (.string (bs dw))) := he.below (n := b) (hst2.below (Nat.le_refl _) (by omega)) hw
  go_enter Tryz.func81, Tryz.ntmps81
  go_wp2_with (first
    | (go_at_call 73; (with_reducible refine H1.mono ?_); clear H1; rintro e w1 ⟨rfl, rfl⟩; generalize (w.alloc (.cells #[.int .u8 0, .string ⟨#[]⟩, .int .i64 0, .int .i64 0] 56)).setCell ⟨b, 0, none⟩ (.string (bs dw)) = W1 at *; refine halt_here ?_))
  unfold Halted
  by_cases h0 : 1 < (c :: tr).length ∧ c.toNat = 48
  · have e : numV (c :: tr) = none := by
      unfold numV
      rw [if_pos ⟨h0.1, by simp [eq48.2 h0.2]⟩]
    rw [e] at hR
    have HR : Hid _ := hR
    clear hR
    have hq1 : (1 : Int) < (tr.length : Int) + 1 := by have := h0.1; simp at this; omega
    have hq2 : ((c.toNat : Nat) : Int) = 48 := by omega
    obtain ⟨⟨c0, c1, c2, c3⟩, f0, f1, f2, f3⟩ := cell_row4 hz2
    clear e h0
    go_wp2
    refine bodyPost_ret (results_row_tmp (by rfl) _ _ w.heap.size 56 #[.int .u8 0, .string ⟨#[]⟩, .int .i64 0, .int .i64 0] (0, 0) _ (by rfl) (set4_row hz2) Tryz.underlying56 (by rfl) infoWord) (by rfl) ?_
    exact ⟨0, ⟨#[]⟩, 0, 0, false, dw, rfl, hst2.set4 (Nat.le_refl _) _ _ _ _, (set4_other (by omega)).trans h2, by rw [HR.out]; rfl⟩
  · skip
    have e : numV (c :: tr) = match Lib.parseIntB 64 (c :: tr) with | .ok v => some v | _ => none := by
      unfold numV
      rw [if_neg (fun hh => h0 ⟨hh.1, by have := hh.2; simp at this; exact eq48.1 this⟩)]
      cases Lib.parseIntB 64 (c :: tr) <;> rfl
    rw [e] at hR
    have HR : Hid _ := hR
    have hor : ¬ ((1 : Int) < (tr.length : Int) + 1) ∨ ((1 : Int) < (tr.length : Int) + 1 ∧ ¬ (((c.toNat : Nat) : Int) = 48)) := by
      simp at h0
      omega
    clear e h0 hR
    by_cases hok : ∃ v, Lib.parseIntB 64 (c :: tr) = .ok v
    · obtain ⟨v, hv⟩ := hok
      have HP := parse_ok (c :: tr) (by omega) W1 hv
      rw [hv] at HR
      rcases hor with hq | ⟨hq0, hq⟩
      all_goals
        go_wp2_with (first
          | (go_at_call 133; (with_reducible refine HP.mono ?_); clear HP; rintro e w2 ⟨rfl, hB2⟩; have hz3 := (hB2.block _ (Array.getElem?_eq_some_iff.1 hz2).1).trans hz2; have h3 := h2.below hB2; have hst3 := hst2.trans (.of_below hB2); obtain ⟨⟨c0, c1, c2, c3⟩, f0, f1, f2, f3⟩ := cell_row4 hz3))
        go_region
        all_goals
          go_wp2
          refine bodyPost_ret (results_row_tmp (by rfl) _ _ w.heap.size 56 #[.int .u8 2, .string ⟨#[]⟩, .int .i64 v, .int .i64 0] (0, 0) _ (by rfl) (set4_row (W := w2.drew) hz3) Tryz.underlying56 (by rfl) infoWord) (by rfl) ?_
          refine ⟨2, ⟨#[]⟩, v, 0, true, dw, rfl, hst3.drew.set4 (Nat.le_refl _) _ _ _ _, (set4_other (W := w2.drew) (by omega)).trans h3, ?_⟩
          rw [HR.out]
          exact ⟨rfl, rfl, rfl, rfl, rfl, rfl⟩
    · have hok' : ∀ v, Lib.parseIntB 64 (c :: tr) ≠ .ok v := fun v e => hok ⟨v, e⟩
      have HP := parse_bad (c :: tr) (by omega) W1 he1 hok'
      have hRn : R = none := by
        rw [HR.out]
        cases hq : Lib.parseIntB 64 (c :: tr) with
        | ok v => exact absurd hq (hok' v)
        | range => rfl
        | _ => rfl
      have HR2 : Hid _ := hRn
      clear HR hRn hok hok'
      rcases hor with hq | ⟨hq0, hq⟩
      all_goals
        go_wp2_with (first
          | (go_at_call 133; (with_reducible refine HP.mono ?_); clear HP; rintro e w2 ⟨n, t, p, rfl, hB2⟩; have hz3 := (hB2.block _ (Array.getElem?_eq_some_iff.1 hz2).1).trans hz2; have h3 := h2.below hB2; have hst3 := hst2.trans (.of_below hB2); obtain ⟨⟨c0, c1, c2, c3⟩, f0, f1, f2, f3⟩ := cell_row4 hz3))
        go_region
        all_goals
          go_wp2
          refine bodyPost_ret (results_row_tmp (by rfl) _ _ w.heap.size 56 #[.int .u8 2, .string ⟨#[]⟩, .int .i64 n, .int .i64 0] (0, 0) _ (by rfl) (set4_row (W := w2.drew) hz3) Tryz.underlying56 (by rfl) infoWord) (by rfl) ?_
          refine ⟨2, ⟨#[]⟩, n, 0, false, dw, rfl, hst3.drew.set4 (Nat.le_refl _) _ _ _ _, (set4_other (W := w2.drew) (by omega)).trans h3, ?_⟩
          rw [HR2.out]

end Go.Proofs.YtpbempnenjfjdaaGreatDoor
