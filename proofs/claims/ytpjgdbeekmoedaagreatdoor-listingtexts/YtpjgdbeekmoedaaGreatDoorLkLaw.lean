/- ListingTexts: the walk. -/
import Derived.Test.YtpjgdbeekmoedaaGreatDoorLkRef4
import Derived.Test.YtpjgdbeekmoedaaGreatDoorVfFns
import Derived.Test.YtpjgdbeekmoedaaGreatDoorVfCheck
namespace Go.Proofs.YtpjgdbeekmoedaaGreatDoor
set_option linter.unusedVariables false
set_option linter.unusedSimpArgs false
open Go.RowKit

namespace Lk

variable {w : World}

set_option maxRecDepth 20000 in
set_option maxHeartbeats 2000000 in
theorem great10_in {p : Option Addr} {l : List Fm} (c : Nat) (hv : IsFns w p l) (hlen : l.length ≤ 140737488355328) (hb : ∀ f ∈ l, CameF f) :
    Calls Tryz.prog 14 #[.slice p l.length c] w fun e w' => ∃ b : Bool, e = .returned (.bool b) ∧ (b = false → SmallP l ∧ sizeF l l.length ≤ 60000) ∧ Below w.heap.size w w' := by
  have H1 := fun (W : World) (h : Below w.heap.size w W) => programSize_in c (hv.below h) hlen hb
  have hm1 : sizeF l l.length ≤ 1099511627776 * 4096 := by have := sizeF_le l l.length hb; omega
  go_enter Tryz.func14, Tryz.ntmps14
  go_wp2
  go_loopw [3, 4] (fun n k wr => ∃ (j : Nat) (N : Int), k = .int .i64 j ∧ n = .int .i64 N ∧ j ≤ l.length ∧ Below w.heap.size w wr) (fun _ k _ => l.length - (intOf k).toNat)
  case atStart => exact ⟨0, 0, rfl, rfl, by omega, Below.refl _ _⟩
  case round =>
    obtain ⟨j, N, rfl, rfl, hj, hB⟩ := hrel
    by_cases hjn : j < l.length
    · have hjn' : (j : Int) < (l.length : Int) := by omega
      obtain ⟨x, hx⟩ : ∃ x, l[j]? = some x := ⟨l[j], by simp⟩
      obtain ⟨b0, off, s, rfl, hvx, c0, c1, c2, c3, c4, c5, c6, c7⟩ := hv.look hB hx
      clear hx H1 hb
      go_wp2
      go_roundw
      case rel => exact ⟨j + 1, wrap64 (N + x.hs.length), by simp, rfl, by omega, hB⟩
      case measure => simp [intOf]; omega
    · have hjn' : ¬ ((j : Int) < (l.length : Int)) := by omega
      by_cases h3 : 300 < N
      · clear H1 hb
        go_wp2
        go_ret
        first | exact ⟨true, rfl, (fun h => by cases h), hB⟩ | exact .inr ⟨rfl, hB⟩
      · obtain ⟨m, hm⟩ : ∃ m, sizeF l l.length = m := ⟨_, rfl⟩
        have HS : Hid (m ≤ 60000 → SmallP l ∧ sizeF l l.length ≤ 60000) := fun h => by
          have h' : sizeF l l.length ≤ 1048576 := by omega
          exact ⟨⟨Nat.le_trans (sizeF_ge _ _) h', sizeF_small h'⟩, by omega⟩
        rw [hm] at H1 hm1
        clear hm hb
        by_cases h6 : 60000 < m
        · have h6' : (60000 : Int) < (m : Int) := by omega
          go_wp2_with (first
            | (go_at_call 22; refine (H1 _ hB).mono ?_; clear H1; rintro e w2 ⟨rfl, hB2⟩))
          go_ret
          first | exact ⟨true, rfl, (fun h => by cases h), hB.trans (hB2.mono hB.size)⟩ | exact .inr ⟨rfl, hB.trans (hB2.mono hB.size)⟩
        · have h6' : ¬ ((60000 : Int) < (m : Int)) := by omega
          have HS2 : Hid _ := HS.out (by omega)
          clear HS
          go_wp2_with (first
            | (go_at_call 22; refine (H1 _ hB).mono ?_; clear H1; rintro e w2 ⟨rfl, hB2⟩))
          go_ret
          exact ⟨decide ((60000 : Int) < (m : Int)), rfl, (fun _ => HS2.out), hB.trans (hB2.mono hB.size)⟩


theorem number_pos {nf pc : Nat} {f : Fm} {i : In} (h : numberP nf f pc i = true) : i.op = 14 → 0 < i.a := by
  intro h14
  unfold numberP at h
  rw [h14] at h
  simp at h
  omega

/-- What the document asks of a function of code that may be. -/
theorem fn_more {fs : List Fm} (h : (checkV fs).2.2 = 0) {f : Fm} (hf : f ∈ fs) : (∀ i ∈ f.code, 0 < i.op ∧ (i.op = 14 → 0 < i.a)) ∧ f.name.size ≤ 4096 ∧ ∀ c ∈ f.consts, c.s.size ≤ 4096 := by
  obtain ⟨main, fn', mk', hh, hc⟩ := check_parts h f hf
  unfold headP at hh
  simp only [Bool.and_eq_true, decide_eq_true_eq, List.all_eq_true] at hh
  obtain ⟨⟨⟨⟨h1, h2, h3, h4, h5, h6, h7, h8, h9, h10, h11⟩, hk⟩, hl⟩, hhs⟩ := hh
  refine ⟨fun i hi => ?_, h1, fun c hc => ?_⟩
  · obtain ⟨j, hj⟩ := List.mem_iff_getElem?.1 hi
    obtain ⟨mk', hx⟩ := codeP_ok hc j i hj
    unfold insP at hx
    simp only [Bool.and_eq_true] at hx
    exact ⟨(number_ok hx.1.1).1, number_pos hx.1.1⟩
  · have := hk c hc
    unfold constP at this
    have := of_decide_eq_true this
    omega

set_option maxRecDepth 20000 in
set_option maxHeartbeats 4000000 in
theorem rtext_in {p : Option Addr} {fs : List Fm} (c : Nat) (hs : IsFns w p fs) (hsm : SmallP fs) (hfit : ∀ f ∈ fs, FitF f) (hnum : ∀ f ∈ fs, NumF f) (hroom : totP fs ≤ 67108864) :
    Calls Tryz.prog 16 #[.slice p fs.length c] w fun e w' => e = .returned (.tuple #[.string (bs (textV fs).1), .int .i64 (textV fs).2]) ∧ Below w.heap.size w w' := by
  have H := rcheck_in c hs hsm hfit
  have hce := check_err fs
  obtain ⟨r1, r2, r3, hr⟩ : ∃ r1 r2 r3, checkV fs = (r1, r2, r3) := ⟨_, _, _, rfl⟩
  have h3 : (checkV fs).2.2 = r3 := by rw [hr]
  rw [hr] at H
  simp only at H
  have HS : Hid _ := hs
  have hlen := hsm.len
  clear hr
  by_cases h0 : r3 = 0
  · have hc0 : (checkV fs).2.2 = 0 := by rw [h3, h0]
    have hok : ∀ f ∈ fs, FnOk f := fun f hf => fnOk_of hc0 hf (hfit f hf) (hnum f hf)
    have e : textV fs = (textP fs, 0) := by unfold textV; rw [if_pos hc0]
    rw [e]
    have HM : Hid _ := fun (f : Fm) (hf : f ∈ fs) => fn_more hc0 hf
    subst h0
    clear e hc0 hs hsm hfit hnum h3 hce
    have HOK : Hid _ := hok
    clear hok
    simp only
    go_enter Tryz.func16, Tryz.ntmps16
    go_wp2_with (first
      | (go_at_call 26; (with_reducible refine H.mono ?_); clear H; rintro e w1 ⟨rfl, hB1⟩))
    go_loopw [7, 8] (fun sv k wr => ∃ i : Nat, sv = .string (bs ((fs.take i).flatMap fnP)) ∧ k = .int .i64 i ∧ i ≤ fs.length ∧ Below w.heap.size w wr) (fun _ k _ => fs.length - (intOf k).toNat)
    case atStart => exact ⟨0, rfl, rfl, by omega, hB1⟩
    case round =>
      obtain ⟨i, rfl, rfl, hi, hB⟩ := hrel
      clear hB1
      have hfl := flatP_len (fs := fs.take i) (fun f hf => HOK.out f (List.mem_of_mem_take hf))
      by_cases hin : i < fs.length
      · have hin' : (i : Int) < (fs.length : Int) := by omega
        obtain ⟨f, hf⟩ : ∃ f, fs[i]? = some f := ⟨fs[i], by simp⟩
        obtain ⟨b0, off, s, hq, hvx, c0, c1, c2, c3, c4, c5, c6, c7⟩ := IsFns.look HS.out hB hf
        have hat := totP_at hf
        obtain ⟨m1, m2, m3⟩ := HM.out f (List.mem_of_getElem? hf)
        have hfo := HOK.out f (List.mem_of_getElem? hf)
        have A := rfn_in f s hvx hfo m1 m2 m3 (by omega)
        have hfp : (fnP f).length ≤ tot (fnT f) := flat_len hfo.fits
        have hnx : (fs.take (i + 1)).flatMap fnP = (fs.take i).flatMap fnP ++ fnP f := by rw [List.take_add_one, hf]; simp
        have HNX : Hid _ := hnx
        generalize hL : (fs.take i).flatMap fnP = L at *
        have zz : ¬ (9223372036854775807 < (bs L).size + (bs (fnP f)).size) := by rw [bs_size, bs_size]; omega
        unfold fnA at A
        subst hq
        clear hf hvx hat hfl hnx hL m1 m2 m3 hfo hfp
        go_wp2_with (first
          | (go_at_call 93; (with_reducible refine A.mono ?_); clear A; rintro e w2 ⟨rfl, hB2⟩))
        go_roundw
        case rel => exact ⟨i + 1, by rw [HNX.out, bs_app], by simp, by omega, hB.trans (hB2.mono hB.size)⟩
        case measure => simp [intOf]; omega
      · have hin' : ¬ ((i : Int) < (fs.length : Int)) := by omega
        have e : fs.take i = fs := List.take_of_length_le (by omega)
        rw [e]
        clear hfl e
        go_wp2
        go_ret2
        exact ⟨rfl, hB⟩
  · have h8 : r3 = 8 := by omega
    have e : textV fs = ([], 8) := by unfold textV; rw [if_neg (by omega)]
    rw [e]
    subst h8
    clear e h0 hs hsm hfit hnum h3 hce
    simp only [show ((8 : Nat) : Int) = 8 from rfl] at H ⊢
    go_enter Tryz.func16, Tryz.ntmps16
    go_wp2_with (first
      | (go_at_call 26; (with_reducible refine H.mono ?_); clear H; rintro e w1 ⟨rfl, hB1⟩))
    go_ret2
    exact ⟨rfl, hB1⟩

theorem ftwin_len {ts : List Ft} {l : List Fm} (h : ts.map Ft.f = l) : ts.length = l.length := by rw [← h]; simp

def Halted (p : Prop) : Prop := p

theorem halt_here {p : Prop} (h : Halted p) : p := h

set_option maxRecDepth 20000 in
set_option maxHeartbeats 4000000 in
theorem listingTexts_walk (p : Option Addr) (l : List Fm) (c : Nat) (w : World) (hs : IsFns w p l) (hlen : l.length ≤ 140737488355328) (hc : ∀ f ∈ l, CameF f ∧ FitF f ∧ NumF f) (ht : RowsT w) (tab : Tab w) (hw : WordsT w) :
    Calls Tryz.prog 4 #[.slice p l.length c] w fun e w' => e = .returned (.bool true) ∧ Below w.heap.size w w' := by
  have H1 := great10_in c hs hlen (fun f hf => (hc f hf).1)
  have HFIT : Hid (∀ f ∈ l, FitF f) := fun f hf => (hc f hf).2.1
  have HNUM : Hid (∀ f ∈ l, NumF f) := fun f hf => (hc f hf).2.2
  have HS : Hid _ := hs
  have HT : Hid (RowsT w) := ht
  have HTAB : Hid (Tab w) := tab
  have HW : Hid (WordsT w) := hw
  clear hs hc ht tab hw
  go_enter Tryz.func4, Tryz.ntmps4
  go_wp2_with (first
    | (go_at_call 14; refine H1.mono ?_; clear H1; rintro e w1 ⟨b, rfl, hsm0, hB1⟩; refine halt_here ?_))
  unfold Halted
  cases b with
  | true =>
    clear hsm0
    go_wp2
    go_ret
    exact ⟨rfl, hB1⟩
  | false =>
    obtain ⟨hsm, h6⟩ := hsm0 rfl
    have hroom := room_of h6
    clear hsm0 h6
    have hll := hsm.len
    have H2 := twinProgram_in c (IsFns.below HS.out hB1) hll hsm.fns
    have H4 := fun (W : World) (G C : Nat) (ts : List Ft) (base : Nat) (hm : ts.map Ft.f = l) (h1 : TwFns base G C ts W) (hW : Below w.heap.size w W) => text_in (w := W) (fs := l) C (hm ▸ h1.isFns) hsm HFIT.out HNUM.out (by omega) (HT.out.below hW) (Tab.below HTAB.out hW) (HW.out.below hW)
    have H5 := fun (W : World) (h : Below w.heap.size w W) => rtext_in (w := W) c (IsFns.below HS.out h) hsm HFIT.out HNUM.out (by omega)
    have H6 := fun (W : World) (G C : Nat) (ts : List Ft) (base : Nat) (hm : ts.map Ft.f = l) (h1 : TwFns base G C ts W) (h : Below w.heap.size w W) => leftProgram_in (p := p) c h1 (by rw [hm]; exact IsFns.below HS.out h) (by rw [ftwin_len hm]; exact hll) (fun x hx => hsm.fns x.f (by rw [← hm]; exact List.mem_map_of_mem hx))
    obtain ⟨r1, r2, hr⟩ : ∃ r1 r2, textV l = (r1, r2) := ⟨_, _, rfl⟩
    rw [hr] at H4 H5
    simp only at H4 H5
    clear hr hroom
    go_wp2_with (first
      | (go_at_call 7; refine H2.mono ?_; clear H2; rintro e w2 ⟨G, C, rfl, ts, hm, htw, hB2⟩; have k2 := hB1.trans (hB2.mono hB1.size))
      | (go_at_call 15; (with_reducible refine (H4 _ _ _ _ _ hm htw k2).mono ?_); clear H4; rintro e w3 ⟨rfl, hB3⟩; have k3 := k2.trans (hB3.mono k2.size); have htw3 := htw.below hB3)
      | (go_at_call 16; (with_reducible refine (H5 _ k3).mono ?_); clear H5; rintro e w4 ⟨rfl, hB4⟩; have k4 := k3.trans (hB4.mono k3.size); have htw4 := htw3.below hB4; have H6' := H6 _ _ _ _ _ hm htw4 k4; rw [ftwin_len hm] at H6')
      | (go_at_call 11; refine H6'.mono ?_; rintro e w5 ⟨rfl, hB5⟩))
    go_ret
    exact ⟨rfl, k4.trans (hB5.mono k4.size)⟩

end Lk

end Go.Proofs.YtpjgdbeekmoedaaGreatDoor
