/- What is idle is passed. -/
import Derived.Test.YtpbempnenjfjdaaGreatDoorLxEat
import Derived.Test.YtpbempnenjfjdaaGreatDoorShelf
import Derived.Lib.OthersKept
import Derived.Deep.RegionLaw
namespace Go.Proofs.YtpbempnenjfjdaaGreatDoor
set_option linter.unusedVariables false
set_option linter.unusedSimpArgs false
open Go.RowKit

variable {w : World}

theorem skip_le (m : Bool) (l : List UInt8) : (skip m l).2 + (skip m l).1.length ≤ l.length := by
  induction l generalizing m with
  | nil => simp [skip]
  | cons c r ih =>
    cases m with
    | true =>
      simp only [skip]
      split
      · have := ih false; simp; omega
      · have := ih true; simp; omega
    | false =>
      simp only [skip]
      split
      · have := ih false
        simp only [List.length_cons]
        split <;> omega
      · split
        · have := ih true; simp; omega
        · simp

theorem isB_low {c : UInt8} (h : isB c = true) : c.toNat < 128 := by
  simp [isB] at h
  omega

theorem take_count {l : List UInt8} {k : Nat} {c : UInt8} (h : l[k]? = some c) : (l.take (k + 1)).count 10 = (l.take k).count 10 + (if c = 10 then 1 else 0) := by
  rw [List.take_add_one, h]
  simp [List.count_append, List.count_cons]

set_option maxRecDepth 20000 in
set_option maxHeartbeats 1000000 in
theorem countLines_in (l : List UInt8) (hb : ∀ c ∈ l, isB c = true) (hl : l.length ≤ 1048576) (w : World) :
    Calls Tryz.prog 75 #[.string (bs l)] w fun e w' => e = .returned (.int .i64 (l.count 10 : Nat)) ∧ Below w.heap.size w w' := by
  have hsz := bs_size l
  go_enter Tryz.func75, Tryz.ntmps75
  go_wp2
  go_loopw [3] (fun k wr => ∃ pos : Nat, k = .int .i64 ((l.take pos).count 10 : Nat) ∧ pos ≤ l.length ∧ wr.heap[w.heap.size]? = some (.stringIter (bs l) pos) ∧ Below w.heap.size w wr) (fun _ wr => l.length - wr.iterPos w.heap.size)
  case atStart =>
    refine ⟨0, by simp, by omega, ?_, (Below.refl _ w).alloc (Nat.le_refl _) _⟩
    exact World.iter_heap w (bs l) 0
  case round =>
    obtain ⟨pos, rfl, hp, hit, hB⟩ := hrel
    have hip := iterPos_of hit
    by_cases hpl : pos < l.length
    · have hps : pos < (bs l).size := by omega
      have hg := bs_get hps
      have hlow := isB_low (hb _ (List.mem_of_getElem? hg))
      have hnx : ∀ ty, (Instr.next (.pointer (some ⟨w.heap.size, 0, none⟩)) true ty).run Tryz.prog wr = _ := fun ty => Lib.run_next_ascii_at wr w.heap.size (bs l) pos ty hit hps hlow
      have hit2 := Lib.iterAt_heap wr w.heap.size (bs l) pos (pos + 1) hit
      have hB2 := Lib.below_iterAt hB (k := w.heap.size) (Nat.le_refl _) (bs l) (pos + 1)
      have htc := take_count hg
      have hcl : (l.take pos).count 10 ≤ pos := Nat.le_trans List.count_le_length (by rw [List.length_take]; exact Nat.min_le_left _ _)
      have hip2 := iterPos_of hit2
      by_cases h10 : ((bs l)[pos]'hps).toNat = 10
      · have e10 : (bs l)[pos]'hps = 10 := eq10.2 h10
        rw [if_pos e10] at htc
        have HT : Hid _ := htc
        have h10' : (((bs l)[pos]'hps).toNat : Int) = 10 := by omega
        generalize hq : (l.take pos).count 10 = q at *
        clear htc e10 h10 hg
        go_wp2
        go_roundw
        case rel => exact ⟨pos + 1, by rw [HT.out]; simp, by omega, hit2, hB2⟩
        case measure => rw [hip2, hip]; omega
      · have e10 : ¬ ((bs l)[pos]'hps = 10) := fun e => h10 (eq10.1 e)
        rw [if_neg e10] at htc
        have HT : Hid _ := htc
        have h10' : ¬ ((((bs l)[pos]'hps).toNat : Int) = 10) := by omega
        generalize hq : (l.take pos).count 10 = q at *
        clear htc e10 h10 hg
        go_wp2
        go_roundw
        case rel => exact ⟨pos + 1, by rw [HT.out]; simp, by omega, hit2, hB2⟩
        case measure => rw [hip2, hip]; omega
    · have hps : ¬ (pos < (bs l).size) := by omega
      have hnx : ∀ ty, (Instr.next (.pointer (some ⟨w.heap.size, 0, none⟩)) true ty).run Tryz.prog wr = _ := fun ty => Lib.run_next_end_at wr w.heap.size (bs l) pos ty hit hps
      have e : l.take pos = l := List.take_of_length_le (by omega)
      rw [e]
      clear e
      go_wp2
      go_ret
      exact ⟨rfl, hB⟩

/-- How long the rest is, by the memory. -/
def rdLen (b : Nat) (w : World) : Nat :=
  match w.cell? ⟨b, 0, none⟩ with
  | some (.string s) => s.size
  | _ => 0

theorem rdLen_of {b : Nat} {l : List UInt8} {ln : Nat} (h : IsRd w b l ln) : rdLen b w = l.length := by
  unfold rdLen
  rw [(cell_row2 h).1.1]
  exact bs_size l

theorem drop_noNl {d : List UInt8} (h : ([47, 47] : List UInt8).isPrefixOf d = true) : (d.dropWhile noNl).length + 2 ≤ d.length := by
  match d, h with
  | [], h => simp [List.isPrefixOf] at h
  | [a], h => simp [List.isPrefixOf] at h
  | a :: b :: r, h =>
    simp [List.isPrefixOf] at h
    obtain ⟨rfl, rfl⟩ := h
    have e : (47 :: 47 :: r : List UInt8).dropWhile noNl = r.dropWhile noNl := by simp [List.dropWhile, noNl]
    rw [e]
    have := dw_len noNl r
    simp
    exact this

theorem idle_hp (d : List UInt8) (w : World) : Calls Tryz.prog 76 #[.string (bs d), .string ⟨#[47, 47]⟩] w fun e w' => e = .returned (.bool (([47, 47] : List UInt8).isPrefixOf d)) ∧ w' = w := by
  have := Tryz.strings_HasPrefix (bs d) ⟨#[47, 47]⟩ w
  rw [bs_list] at this
  exact this

set_option maxRecDepth 20000 in
set_option maxHeartbeats 1000000 in
theorem passIdle_in {b : Nat} {l : List UInt8} {ln : Nat} (h : IsRd w b l ln) (hl : ln + l.length ≤ 1048576) :
    Calls Tryz.prog 9 #[.pointer (some ⟨b, 0, none⟩)] w fun e w' => e = .returned (.tuple #[]) ∧ IsRd w' b (skip false l).1 (ln + (skip false l).2) ∧ Rst b w w' := by
  go_enter Tryz.func9, Tryz.ntmps9
  go_wp2
  go_loopw [2] (fun _ wr => ∃ (l' : List UInt8) (ln' : Nat), IsRd wr b l' ln' ∧ (skip false l').1 = (skip false l).1 ∧ ln' + (skip false l').2 = ln + (skip false l).2 ∧ ln' + l'.length ≤ 1048576 ∧ Rst b w wr) (fun _ wr => rdLen b wr)
  case atStart => exact ⟨l, ln, h, rfl, rfl, hl, Rst.refl _ _⟩
  case round =>
    obtain ⟨l', ln', hr, hx, hn, hl', hst⟩ := hrel
    have hml := rdLen_of hr
    have H1 := eatB_in hr (by omega)
    have htw := tw_len isB l'
    have hcount : (l'.takeWhile isB).count 10 ≤ (l'.takeWhile isB).length := List.count_le_length
    have hdl : (l'.takeWhile isB).length + (l'.dropWhile isB).length = l'.length := by rw [← List.length_append, List.takeWhile_append_dropWhile]
    have H2 := countLines_in (l'.takeWhile isB) (tw_all isB l') (by omega)
    have hstep := skip_step l' _ _ rfl rfl
    have hrd := hr.rest (l'.dropWhile isB)
    have hlt := hr.lt
    generalize hd : l'.dropWhile isB = d at *
    generalize htk : l'.takeWhile isB = tk at *
    have HH : Hid _ := And.intro hstep (And.intro hx (And.intro hn (And.intro hdl htw)))
    clear hstep hx hn hdl htw hd htk
    have hbl : b < (wr.setCell ⟨b, 0, none⟩ (.string (bs d))).heap.size := by simpa [World.setCell] using hlt
    have hst1 : Rst b w (wr.setCell ⟨b, 0, none⟩ (.string (bs d))) := hst.set _
    go_wp2_with (first
      | (go_at_call 73; (with_reducible refine H1.mono ?_); clear H1; rintro e w1 ⟨rfl, rfl⟩; generalize hW1 : wr.setCell ⟨b, 0, none⟩ (.string (bs d)) = W1 at *; obtain ⟨⟨c0, c1⟩, f0, f1⟩ := cell_row2 hrd; refine halt_here ?_))
    unfold Halted
    have hwr : IntKind.i64.wrap ((ln' : Int) + (tk.count 10 : Nat)) = ((ln' + tk.count 10 : Nat) : Int) := by
      have : tk.length ≤ 1048576 := by have := HH.out.2.2.2.2; omega
      rw [IntKind.wrap_i64]; omega
    go_wp2
    go_region_law (go_simp; go_at_call 75; (with_reducible refine (H2 _).mono ?_); rintro e w2 ⟨rfl, hB2⟩; have hrd2 := (hB2.block b hbl).trans hrd; obtain ⟨⟨d0, d1⟩, g0, g1⟩ := cell_row2 hrd2; (try dsimp only [Oper.upon]))
    all_goals
      have hB2' : Below W1.heap.size W1 w2 := (below_drew (Below.refl _ W1)).trans hB2
      have hrd3 : IsRd (w2.setCell ⟨b, 1, none⟩ (.int .i64 ((ln' : Int) + (tk.count 10 : Nat)))) b d (ln' + tk.count 10) := by
        have := IsRd.line (w := w2) (l := d) (ln := ln') hrd2 (ln' + tk.count 10)
        rw [Int.natCast_add] at this
        exact this
      have hst3 : Rst b w (w2.setCell ⟨b, 1, none⟩ (.int .i64 ((ln' : Int) + (tk.count 10 : Nat)))) := (hst1.trans (.of_below hB2')).set _
      clear hrd2 d0 d1 g0 g1 c0 c1 f0 f1 hB2 hB2' hrd H2
      generalize w2.setCell ⟨b, 1, none⟩ (.int .i64 ((ln' : Int) + (tk.count 10 : Nat))) = W3 at *
      obtain ⟨⟨c0, c1⟩, f0, f1⟩ := cell_row2 hrd3
      have H3 := idle_hp d
      obtain ⟨hstep, hx, hn, hdl, htw⟩ := HH.out
      cases hp : ([47, 47] : List UInt8).isPrefixOf d with
      | false =>
        rw [hp] at hstep H3
        simp only [Bool.false_eq_true, if_false] at hstep
        rw [hstep] at hx hn
        simp only at hx hn
        have HX : Hid _ := And.intro hx hn
        clear hx hn hstep hdl htw HH hwr
        go_wp2_with (first
          | (go_at_call 76; (with_reducible refine (H3 _).mono ?_); rintro e w4 ⟨rfl, rfl⟩))
        (try simp only [Exit.inBlock, Exit.then])
        refine bodyPost_ret (results_none (by rfl) _ _ _) (by rfl) ?_
        rw [← HX.out.1, ← HX.out.2]
        exact ⟨rfl, hrd3, hst3⟩
      | true =>
        have hdn := drop_noNl hp
        rw [hp] at hstep H3
        simp only [if_true] at hstep
        rw [hstep] at hx hn
        simp only at hx hn
        have H4 := eatR_in hrd3 (by omega)
        have hrd4 := hrd3.rest (d.dropWhile noNl)
        have hst4 := hst3.set (i := 0) (.string (bs (d.dropWhile noNl)))
        have hm4 := rdLen_of hrd4
        have hlen4 : (ln' + tk.count 10) + (d.dropWhile noNl).length ≤ 1048576 := by omega
        have hmm : (d.dropWhile noNl).length < l'.length := by omega
        have HX : Hid _ := And.intro hx (And.intro hn (And.intro hlen4 hmm))
        clear hx hn hstep hdl htw HH hwr hlen4 hmm hdn
        go_wp2_with (first
          | (go_at_call 76; (with_reducible refine (H3 _).mono ?_); rintro e w4 ⟨rfl, rfl⟩)
          | (go_at_call 73; (with_reducible refine H4.mono ?_); clear H4; rintro e w5 ⟨rfl, rfl⟩))
        go_roundw
        case rel =>
          obtain ⟨hx, hn, hlen4, hmm⟩ := HX.out
          exact ⟨d.dropWhile noNl, ln' + tk.count 10, hrd4, hx, by omega, hlen4, hst4⟩
        case measure =>
          obtain ⟨hx, hn, hlen4, hmm⟩ := HX.out
          rw [hm4, hml]; exact hmm

end Go.Proofs.YtpbempnenjfjdaaGreatDoor
