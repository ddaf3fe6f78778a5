/- listing.Text. -/
import Derived.Test.YtnekcomkochmjaaGreatDoorLkGreat
import Derived.Test.YtnekcomkochmjaaGreatDoorVfProg
namespace Go.Proofs.YtnekcomkochmjaaGreatDoor
set_option linter.unusedVariables false
set_option linter.unusedSimpArgs false
open Go.RowKit

namespace Lk

variable {w : World}

/-- What Text answers. -/
def textV (fs : List Fm) : List UInt8 × Nat := if (checkV fs).2.2 = 0 then (textP fs, 0) else ([], 8)

set_option maxHeartbeats 2000000 in
theorem mayBe_in {p : Option Addr} {fs : List Fm} (c : Nat) (hs : IsFns w p fs) (hsm : SmallP fs) (hfit : ∀ f ∈ fs, FitF f) (ht : RowsT w) :
    Calls Tryz.prog 14 #[.slice p fs.length c] w fun e w' => e = .returned (.bool (decide ((checkV fs).2.2 = 0))) ∧ Below w.heap.size w w' := by
  have H := pcheck_in c hs hsm hfit ht
  obtain ⟨r1, r2, r3, hr⟩ : ∃ r1 r2 r3, checkV fs = (r1, r2, r3) := ⟨_, _, _, rfl⟩
  rw [hr] at H ⊢
  simp only at H ⊢
  clear hr hs hsm hfit ht
  by_cases h : r3 = 0
  · subst h
    go_enter Tryz.func14, Tryz.ntmps14
    go_wp2_with (first
      | (go_at_call 10; (with_reducible refine H.mono ?_); clear H; rintro e w1 ⟨rfl, hB1⟩))
    go_ret
    exact ⟨rfl, hB1⟩
  · have h' : ((r3 : Int) == 0) = false := by simp; omega
    rw [decide_eq_false h]
    go_enter Tryz.func14, Tryz.ntmps14
    go_wp2_with (first
      | (go_at_call 10; (with_reducible refine H.mono ?_); clear H; rintro e w1 ⟨rfl, hB1⟩))
    go_ret
    exact ⟨rfl, hB1⟩

theorem fresh (w1 : World) : Pg w1 w1.heap.size [] (w1.alloc (.cells #[.pointer none, .slice none 0 0] 52)) :=
  ⟨⟨Nat.le_refl _, .pointer none, .slice none 0 0, heap_alloc_new _ _, .inl rfl, World.ownsRow_nil _ _ _ _, fun _ => rfl⟩, below1 _ _⟩

theorem flatP_len {fs : List Fm} (h : ∀ f ∈ fs, FnOk f) : (fs.flatMap fnP).length ≤ totP fs := by
  induction fs with
  | nil => simp [totP]
  | cons f r ih =>
    have h1 := flat_len (h f (by simp)).fits
    have h2 := ih (fun g hg => h g (by simp [hg]))
    simp only [totP, List.flatMap_cons, List.length_append, List.map_cons, List.sum_cons] at h2 ⊢
    unfold fnP
    unfold fnP at h2
    omega

theorem totP_at {fs : List Fm} {i : Nat} {f : Fm} (h : fs[i]? = some f) : totP (fs.take i) + tot (fnT f) ≤ totP fs := by
  induction fs generalizing i with
  | nil => simp at h
  | cons a r ih =>
    cases i with
    | zero => simp at h; subst h; simp [totP]
    | succ i => have := ih (by simpa using h); simp [totP] at this ⊢; omega

set_option maxRecDepth 20000 in
set_option maxHeartbeats 4000000 in
theorem text_in {p : Option Addr} {fs : List Fm} (c : Nat) (hs : IsFns w p fs) (hsm : SmallP fs) (hfit : ∀ f ∈ fs, FitF f) (hnum : ∀ f ∈ fs, NumF f) (hroom : totP fs ≤ 67108864) (ht : RowsT w) (tab : Tab w) (hw : WordsT w) :
    Calls Tryz.prog 9 #[.slice p fs.length c] w fun e w' => e = .returned (.tuple #[.string (bs (textV fs).1), .int .i64 (textV fs).2]) ∧ Below w.heap.size w w' := by
  have H := mayBe_in c hs hsm hfit ht
  have HS : Hid _ := hs
  have hlen := hsm.len
  by_cases h0 : (checkV fs).2.2 = 0
  · have hok : ∀ f ∈ fs, FnOk f := fun f hf => fnOk_of h0 hf (hfit f hf) (hnum f hf)
    have e : textV fs = (textP fs, 0) := by unfold textV; rw [if_pos h0]
    rw [e]
    rw [decide_eq_true h0] at H
    clear e h0 hs hsm hfit hnum ht
    have HOK : Hid _ := hok
    have HTAB : Hid (Tab w) := tab
    have HW : Hid (WordsT w) := hw
    clear hok tab hw
    simp only
    go_enter Tryz.func9, Tryz.ntmps9
    go_wp2_with (first
      | (go_at_call 14; (with_reducible refine H.mono ?_); clear H; rintro e w1 ⟨rfl, hB1⟩))
    have hf0 := fresh w1
    have HIS : Hid (IsFns w1 p fs) := IsFns.below HS.out hB1
    go_loopw [11] (fun k wr => ∃ i : Nat, k = .int .i64 i ∧ i ≤ fs.length ∧ Pg w1 w1.heap.size ((fs.take i).flatMap fnP) wr) (fun k _ => fs.length - (intOf k).toNat)
    case atStart => exact ⟨0, rfl, by omega, by simpa using hf0⟩
    case round =>
      obtain ⟨i, rfl, hi, hp⟩ := hrel
      clear hf0
      have hfl := flatP_len (fs := fs.take i) (fun f hf => HOK.out f (List.mem_of_mem_take hf))
      by_cases hin : i < fs.length
      · have hin' : (i : Int) < (fs.length : Int) := by omega
        obtain ⟨f, hf⟩ : ∃ f, fs[i]? = some f := ⟨fs[i], by simp⟩
        obtain ⟨b0, off, s, hq, hlt, hcell, hfn⟩ := HIS.out i f hf
        have hat := totP_at hf
        have A := fn_in hp (b0 := b0) (off := off + i * 8) (f := f) (s := s) ⟨hlt, hcell, hfn⟩ (HOK.out f (List.mem_of_getElem? hf)) (by omega) (Tab.below HTAB.out hB1) (HW.out.below hB1)
        have hnx : (fs.take (i + 1)).flatMap fnP = (fs.take i).flatMap fnP ++ fnP f := by rw [List.take_add_one, hf]; simp
        have HNX : Hid _ := hnx
        subst hq
        clear hf hcell hfn hat hfl hnx hp
        go_wp2_with (first
          | (go_at_call 15; (with_reducible refine A.mono ?_); clear A; rintro e w2 ⟨rfl, hp2⟩))
        go_roundw
        case rel => exact ⟨i + 1, by simp, by omega, by rw [HNX.out]; exact hp2⟩
        case measure => simp [intOf]; omega
      · have hin' : ¬ ((i : Int) < (fs.length : Int)) := by omega
        have e : fs.take i = fs := List.take_of_length_le (by omega)
        rw [e] at hp hfl
        have A := pgString_in hp.pg hp.bel.size (by omega)
        have HP : Hid _ := hp
        clear hp hfl e
        go_wp2_with (first
          | (go_at_call 16; (with_reducible refine A.mono ?_); clear A; rintro e w2 ⟨rfl, hB2⟩))
        go_ret2
        exact ⟨rfl, (hB1.trans (HP.out.bel.mono hB1.size)).trans (hB2.mono hB1.size)⟩
  · have e : textV fs = ([], 8) := by unfold textV; rw [if_neg h0]
    rw [e]
    rw [decide_eq_false h0] at H
    clear e h0 hs hsm hfit hnum ht tab hw
    simp only
    go_enter Tryz.func9, Tryz.ntmps9
    go_wp2_with (first
      | (go_at_call 14; (with_reducible refine H.mono ?_); clear H; rintro e w1 ⟨rfl, hB1⟩))
    go_ret2
    exact ⟨rfl, hB1⟩

end Lk

end Go.Proofs.YtnekcomkochmjaaGreatDoor
