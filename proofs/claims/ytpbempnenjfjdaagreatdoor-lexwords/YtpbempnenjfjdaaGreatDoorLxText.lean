/- Texts. -/
import Derived.Test.YtpbempnenjfjdaaGreatDoorLxUnesc
import Derived.Test.YtpbempnenjfjdaaGreatDoorLxSign
namespace Go.Proofs.YtpbempnenjfjdaaGreatDoor
set_option linter.unusedVariables false
set_option linter.unusedSimpArgs false
open Go.RowKit

variable {w : World}

/-- Does a text go on with this byte? -/
def goes (e : Bool) (c : UInt8) : Bool := decide (¬ (c.toNat = 10 ∨ (c.toNat = 34 ∧ e = false)))

def nextE (e : Bool) (c : UInt8) : Bool := decide (c.toNat = 92) && !e

theorem inside_goes {e : Bool} {c : UInt8} {r : List UInt8} (h : goes e c = true) : inside e (c :: r) = (c :: (inside (nextE e c) r).1, (inside (nextE e c) r).2) := by
  have h1 : ¬ (c = 10 ∨ (c = 34 ∧ e = false)) := by
    simp only [goes, decide_eq_true_eq] at h
    intro hh
    exact h (hh.imp eq10.1 (fun x => ⟨eq34.1 x.1, x.2⟩))
  have h2 : decide (c = 92) = decide (c.toNat = 92) := by rw [Bool.eq_iff_iff]; simp [eq92]
  rw [inside, if_neg h1, h2]
  rfl

theorem inside_stops {e : Bool} {c : UInt8} {r : List UInt8} (h : goes e c = false) : inside e (c :: r) = ([], c :: r) := by
  have h1 : c = 10 ∨ (c = 34 ∧ e = false) := by
    simp only [goes, decide_eq_false_iff_not, Decidable.not_not] at h
    exact h.imp eq10.2 (fun x => ⟨eq34.2 x.1, x.2⟩)
  rw [inside, if_pos h1]

/-- What is answered of a byte. -/
def GoRes (g ne : Bool) (be : Nat) (w : World) (r : Ending) (w' : World) : Prop := r = .returned (.bool g) ∧ (g = true → w' = w.setCell ⟨be, 0, none⟩ (.bool ne)) ∧ (g = false → w' = w)

set_option maxHeartbeats 1000000 in
theorem goes_in {be : Nat} {e : Bool} (c : UInt8) (w : World) (hb : w.heap[be]? = some (.cells #[.bool e] 4 (0, 0))) :
    Calls Tryz.prog 134 #[.int .u8 c.toNat, .pointer (some ⟨be, 0, none⟩)] w fun r w' => GoRes (goes e c) (nextE e c) be w r w' := by
  obtain ⟨c0, f0⟩ := cell_row1 hb
  generalize hn : c.toNat = n at *
  unfold goes nextE
  rw [hn]
  go_enter Tryz.func134, Tryz.ntmps134
  have hu : c.toNat < 256 := c.toNat_lt
  rw [hn] at hu
  by_cases h10 : n = 10
  · have q10 : ((n : Nat) : Int) = 10 := by omega
    have hg : decide (¬ (n = 10 ∨ (n = 34 ∧ e = false))) = false := by simp [h10]
    rw [hg]
    clear hg h10 hn hu
    go_wp2
    go_ret
    exact (show GoRes _ _ _ _ _ _ from by unfold GoRes; exact ⟨rfl, (fun h => by cases h), fun _ => rfl⟩)
  · have q10 : ¬ (((n : Nat) : Int) = 10) := by omega
    by_cases h34 : n = 34
    · have q34 : ((n : Nat) : Int) = 34 := by omega
      cases e with
      | false =>
        have hg : decide (¬ (n = 10 ∨ (n = 34 ∧ false = false))) = false := by simp [h34]
        rw [hg]
        clear hg h10 hn h34 hu
        go_wp2
        go_ret
        exact (show GoRes _ _ _ _ _ _ from by unfold GoRes; exact ⟨rfl, (fun h => by cases h), fun _ => rfl⟩)
      | true =>
        have hg : decide (¬ (n = 10 ∨ (n = 34 ∧ true = false))) = true := by simp [h10]
        have h92 : decide (n = 92) = false := by simp; omega
        rw [hg, h92]
        have q92 : ¬ (((n : Nat) : Int) = 92) := by omega
        clear hg h10 hn h34 hu h92
        go_wp2
        go_ret
        exact (show GoRes _ _ _ _ _ _ from by unfold GoRes; exact ⟨rfl, fun _ => rfl, (fun h => by cases h)⟩)
    · have q34 : ¬ (((n : Nat) : Int) = 34) := by omega
      have hg : decide (¬ (n = 10 ∨ (n = 34 ∧ e = false))) = true := by simp [h10, h34]
      rw [hg]
      by_cases h92 : n = 92
      · have q92 : ((n : Nat) : Int) = 92 := by omega
        have hd : decide (n = 92) = true := by simp [h92]
        rw [hd]
        clear hg h10 hn h34 hu h92 hd
        cases e
        all_goals
          go_wp2
          go_ret
          exact (show GoRes _ _ _ _ _ _ from by unfold GoRes; exact ⟨rfl, fun _ => rfl, (fun h => by cases h)⟩)
      · have q92 : ¬ (((n : Nat) : Int) = 92) := by omega
        have hd : decide (n = 92) = false := by simp [h92]
        rw [hd]
        clear hg h10 hn h34 hu h92 hd
        cases e
        all_goals
          go_wp2
          go_ret
          exact (show GoRes _ _ _ _ _ _ from by unfold GoRes; exact ⟨rfl, fun _ => rfl, (fun h => by cases h)⟩)

theorem ins_app (e : Bool) (l : List UInt8) : (inside e l).1 ++ (inside e l).2 = l := by
  induction l generalizing e with
  | nil => rfl
  | cons c r ih =>
    cases h : goes e c with
    | true => rw [inside_goes h]; simp [ih]
    | false => rw [inside_stops h]; rfl

/-- Behind this many bytes a text goes on so. -/
def stAt : Nat → Bool → List UInt8 → Bool
  | 0, e, _ => e
  | _ + 1, e, [] => e
  | k + 1, e, c :: r => stAt k (nextE e c) r

theorem st_go {l : List UInt8} {k : Nat} {e : Bool} {c : UInt8} (hk : k ≤ (inside e l).1.length) (hc : l[k]? = some c) : (goes (stAt k e l) c = true → k + 1 ≤ (inside e l).1.length ∧ stAt (k + 1) e l = nextE (stAt k e l) c) ∧ (goes (stAt k e l) c = false → k = (inside e l).1.length) := by
  induction l generalizing k e with
  | nil => simp at hc
  | cons d r ih =>
    cases k with
    | zero =>
      simp at hc
      subst hc
      refine ⟨fun h => ?_, fun h => ?_⟩
      · simp only [stAt] at h ⊢
        rw [inside_goes h]
        refine ⟨by simp, by cases r <;> simp [stAt]⟩
      · simp only [stAt] at h
        rw [inside_stops h]
        rfl
    | succ k =>
      cases hg : goes e d with
      | false => rw [inside_stops hg] at hk; simp at hk
      | true =>
        rw [inside_goes hg] at hk ⊢
        have := ih (k := k) (e := nextE e d) (by simpa using hk) (by simpa using hc)
        simp only [stAt]
        refine ⟨fun h => ?_, fun h => ?_⟩
        · have h2 := this.1 h
          exact ⟨by simpa using h2.1, h2.2⟩
        · have h2 := this.2 h
          simp
          exact h2

set_option maxRecDepth 20000 in
set_option maxHeartbeats 1000000 in
theorem eatT_in {b be : Nat} {l : List UInt8} {ln : Nat} (h : IsRd w b l ln) (hl : l.length ≤ 1048576) (hb : w.heap[be]? = some (.cells #[.bool false] 4 (0, 0))) (hne : be ≠ b) :
    Calls Tryz.prog 73 #[.pointer (some ⟨b, 0, none⟩), .func (.func 134) #[] #[.pointer (some ⟨be, 0, none⟩)]] w fun e w' => e = .returned (.string (bs (inside false l).1)) ∧ IsRd w' b (inside false l).2 ln ∧ (w'.os = w.os ∧ w'.tape = w.tape ∧ w'.output = w.output ∧ w'.heap.size = w.heap.size ∧ ∀ k, k ≠ b → k ≠ be → w'.heap[k]? = w.heap[k]?) := by
  have hsz := bs_size l
  have hap := ins_app false l
  have hle : (inside false l).1.length ≤ l.length := by have := congrArg List.length hap; simp at this; omega
  go_enter Tryz.func73, Tryz.ntmps73
  go_wp2
  go_loopw [5] (fun k wr => ∃ j : Nat, k = .int .i64 j ∧ j ≤ (inside false l).1.length ∧ wr.heap[be]? = some (.cells #[.bool (stAt j false l)] 4 (0, 0)) ∧ IsRd wr b l ln ∧ (wr.os = w.os ∧ wr.tape = w.tape ∧ wr.output = w.output ∧ wr.heap.size = w.heap.size ∧ ∀ k, k ≠ b → k ≠ be → wr.heap[k]? = w.heap[k]?)) (fun k _ => l.length - (intOf k).toNat)
  case atStart => exact ⟨0, rfl, by omega, hb, h, rfl, rfl, rfl, rfl, fun _ _ _ => rfl⟩
  case round =>
    obtain ⟨j, rfl, hj, hbe, hrd, hfr⟩ := hrel
    obtain ⟨⟨c0, c1⟩, f0, f1⟩ := cell_row2 hrd
    have fin : ∀ (hj2 : j = (inside false l).1.length), (bs l).extract 0 j = bs (inside false l).1 ∧ (bs l).extract j l.length = bs (inside false l).2 := fun hj2 => by
      rw [bs_upto, bs_from, hj2]
      have t1 := List.take_left (l₁ := (inside false l).1) (l₂ := (inside false l).2)
      have t2 := List.drop_left (l₁ := (inside false l).1) (l₂ := (inside false l).2)
      rw [hap] at t1 t2
      rw [t1, t2]
      exact ⟨rfl, rfl⟩
    have hjm : (j : Int) ≤ (l.length : Int) := by omega
    have HF : Hid _ := hfr
    have hrd2 := hrd.rest (inside false l).2
    have hfr2 : ((wr.setCell ⟨b, 0, none⟩ (.string (bs (inside false l).2))).os = w.os ∧ (wr.setCell ⟨b, 0, none⟩ (.string (bs (inside false l).2))).tape = w.tape ∧ (wr.setCell ⟨b, 0, none⟩ (.string (bs (inside false l).2))).output = w.output ∧ (wr.setCell ⟨b, 0, none⟩ (.string (bs (inside false l).2))).heap.size = w.heap.size ∧ ∀ k, k ≠ b → k ≠ be → (wr.setCell ⟨b, 0, none⟩ (.string (bs (inside false l).2))).heap[k]? = w.heap[k]?) :=
      ⟨hfr.1, hfr.2.1, hfr.2.2.1, by rw [← hfr.2.2.2.1]; simp [World.setCell], fun k h1 h2 => (heap_setCell_other wr ⟨b, 0, none⟩ k _ h1).trans (hfr.2.2.2.2 k h1 h2)⟩
    have HF2 : Hid _ := hfr2
    clear hfr hfr2
    by_cases hjl : j < l.length
    · have hjs : j < (bs l).size := by omega
      have hc : l[j]? = some ((bs l)[j]'hjs) := bs_get hjs
      have hjl' : (j : Int) < (l.length : Int) := by omega
      have H := goes_in (e := stAt j false l) ((bs l)[j]'hjs) wr hbe
      obtain ⟨hg1, hg2⟩ := st_go hj hc
      cases hp : goes (stAt j false l) ((bs l)[j]'hjs) with
      | true =>
        obtain ⟨hj2, hst⟩ := hg1 hp
        rw [hp] at H
        have HX : Hid _ := And.intro hj2 hst
        clear hg1 hg2 hj2 hst fin hj hle hap
        go_wp2_with (first
          | (go_at_call 134; (with_reducible refine H.mono ?_); clear H; rintro e w1 hgo; unfold GoRes at hgo; obtain ⟨rfl, hw1, -⟩ := hgo; obtain rfl := hw1 rfl))
        go_roundw
        case rel =>
          obtain ⟨hj2, hst⟩ := HX.out
          have hfr := HF.out
          refine ⟨j + 1, by simp, hj2, ?_, ?_, hfr.1, hfr.2.1, hfr.2.2.1, by rw [← hfr.2.2.2.1]; simp [World.setCell], fun k h1 h2 => (heap_setCell_other wr ⟨be, 0, none⟩ k _ h2).trans (hfr.2.2.2.2 k h1 h2)⟩
          · rw [hst]
            have := heap_setCell_same wr be 0 _ _ (.bool (nextE (stAt j false l) ((bs l)[j]'hjs))) hbe
            simpa using this
          · exact (heap_setCell_other wr ⟨be, 0, none⟩ b _ (Ne.symm hne)).trans hrd
        case measure => simp [intOf]; omega
      | false =>
        have hj2 := hg2 hp
        obtain ⟨e1, e2⟩ := fin hj2
        rw [hp] at H
        clear hg1 hg2 hj2 fin hj hle hap
        go_wp2_with (first
          | (go_at_call 134; (with_reducible refine H.mono ?_); clear H; rintro e w1 hgo; unfold GoRes at hgo; obtain ⟨rfl, -, hw1⟩ := hgo; obtain rfl := hw1 rfl))
        go_ret
        refine ⟨by first | rfl | rw [e1], ?_⟩
        first | exact ⟨hrd2, HF2.out⟩ | (rw [e2]; exact ⟨hrd2, HF2.out⟩)
    · have hjl' : ¬ ((j : Int) < (l.length : Int)) := by omega
      have hj2 : j = (inside false l).1.length := by omega
      obtain ⟨e1, e2⟩ := fin hj2
      clear hj2 fin hj hle hap
      go_wp2
      go_ret
      refine ⟨by first | rfl | rw [e1], ?_⟩
      first | exact ⟨hrd2, HF2.out⟩ | (rw [e2]; exact ⟨hrd2, HF2.out⟩)

end Go.Proofs.YtpbempnenjfjdaaGreatDoor
