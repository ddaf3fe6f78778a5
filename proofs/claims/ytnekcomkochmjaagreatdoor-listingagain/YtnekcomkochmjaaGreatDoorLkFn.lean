/- listing's page: a function's lines. -/
import Derived.Test.YtnekcomkochmjaaGreatDoorLkIns
import Derived.Test.YtnekcomkochmjaaGreatDoorVfPGuards
namespace Go.Proofs.YtnekcomkochmjaaGreatDoor
set_option linter.unusedVariables false
set_option linter.unusedSimpArgs false
open Go.RowKit

namespace Lk

variable {w : World}

/-- How much room lines may take. -/
def tot (L : List (List Th)) : Nat := (L.map fun t => wide t + 1).sum

theorem flat_len {L : List (List Th)} (hf : ∀ x ∈ L, ∀ t ∈ x, t.fits) : (L.flatMap lineP).length ≤ tot L := by
  induction L with
  | nil => simp [tot]
  | cons a r ih =>
    have h1 : (lineP a).length ≤ wide a + 1 := lineP_len (hf a (by simp))
    have h2 := ih (fun x hx => hf x (by simp [hx]))
    simp only [tot, List.flatMap_cons, List.length_append, List.map_cons, List.sum_cons] at h2 ⊢
    omega

theorem tot_at {L : List (List Th)} {i : Nat} {t : List Th} (h : L[i]? = some t) : tot (L.take i) + (wide t + 1) ≤ tot L := by
  induction L generalizing i with
  | nil => simp at h
  | cons a r ih =>
    cases i with
    | zero => simp at h; subst h; simp [tot]
    | succ i => have := ih (by simpa using h); simp [tot] at this ⊢; omega

/-- Room for one more line. -/
theorem room {L : List (List Th)} {l : List UInt8} {i : Nat} {t : List Th} (hf : ∀ x ∈ L, ∀ t ∈ x, t.fits) (hl : l.length + tot L ≤ 67108864) (h : L[i]? = some t) : (l ++ (L.take i).flatMap lineP).length + wide t + 1 ≤ 67108864 := by
  have h1 := flat_len (L := L.take i) (fun x hx => hf x (List.mem_of_mem_take hx))
  have h2 := tot_at h
  simp only [List.length_append]
  omega

theorem step1 {L : List (List Th)} {l : List UInt8} {i : Nat} {t : List Th} (h : L[i]? = some t) : l ++ (L.take (i + 1)).flatMap lineP = (l ++ (L.take i).flatMap lineP) ++ lineP t := by
  rw [List.take_add_one, h]
  simp

theorem mid {α : Type} {A B C : List α} {k i : Nat} (hk : k = A.length) (hi : i < B.length) : (A ++ (B ++ C))[k + i]? = B[i]? := by
  subst hk
  rw [List.getElem?_append_right (by omega), Nat.add_sub_cancel_left, List.getElem?_append_left hi]

def insL (f : Fm) : List (List Th) := (f.lines.zip f.code).map fun x => insT x.1 x.2

/-- A function that can be told. -/
structure FnOk (f : Fm) : Prop where
  params : -9223372036854775808 ≤ f.params ∧ f.params ≤ 9223372036854775807
  locals : -9223372036854775808 ≤ f.locals ∧ f.locals ≤ 9223372036854775807
  caps : ∀ c ∈ f.caps, -9223372036854775808 ≤ c.n ∧ c.n ≤ 9223372036854775807
  consts : ∀ c ∈ f.consts, c.k < 256 ∧ -9223372036854775808 ≤ c.n ∧ c.n ≤ 9223372036854775807
  lines : f.lines.length = f.code.length
  code : ∀ (j : Nat) (ln : Int) (i : In), f.lines[j]? = some ln → f.code[j]? = some i → InsOk ln i
  hs : ∀ h ∈ f.hs, (-9223372036854775808 ≤ h.fr ∧ h.fr ≤ 9223372036854775807) ∧ (-9223372036854775808 ≤ h.to ∧ h.to ≤ 9223372036854775807) ∧ (-9223372036854775808 ≤ h.at_ ∧ h.at_ ≤ 9223372036854775807) ∧ (-9223372036854775808 ≤ h.deep ∧ h.deep ≤ 9223372036854775807)
  lens : f.caps.length ≤ 1048576 ∧ f.consts.length ≤ 1048576 ∧ f.code.length ≤ 1048576 ∧ f.hs.length ≤ 1048576

theorem FnOk.fits {f : Fm} (h : FnOk f) : ∀ x ∈ fnT f, ∀ t ∈ x, t.fits := by
  intro x hx t ht
  unfold fnT at hx
  simp only [List.mem_cons, List.mem_append, List.mem_map] at hx
  rcases hx with rfl | ⟨c, hc, rfl⟩ | ⟨c, hc, rfl⟩ | ⟨⟨ln, i⟩, hc, rfl⟩ | ⟨c, hc, rfl⟩
  · have := h.params; have := h.locals
    simp [headT] at ht
    rcases ht with rfl | rfl | rfl | rfl <;> simp [Th.fits, nm, wd, tx] <;> omega
  · have := h.caps c hc
    simp [capT] at ht
    rcases ht with rfl | rfl <;> simp [Th.fits, nm, wd] <;> omega
  · have := h.consts c hc
    unfold conT at ht
    split at ht
    · simp at ht; rcases ht with rfl | rfl <;> simp [Th.fits, lo, wd] <;> omega
    · simp at ht; rcases ht with rfl | rfl <;> simp [Th.fits, tx, wd]
  · obtain ⟨j, hj⟩ := List.mem_iff_getElem?.1 hc
    rw [List.getElem?_zip_eq_some] at hj
    exact insT_fits (h.code j ln i hj.1 hj.2) t ht
  · have := h.hs c hc
    simp [hanT] at ht
    rcases ht with rfl | rfl | rfl | rfl | rfl <;> simp [Th.fits, nm, wd] <;> omega

set_option maxRecDepth 20000 in
set_option maxHeartbeats 8000000 in
theorem fn_in {w0 : World} {bp b0 off : Nat} {l : List UInt8} {f : Fm} {s : Fs} (h : Pg w0 bp l w) (hfn : FnP w0 b0 off f s) (hok : FnOk f) (hl : l.length + tot (fnT f) ≤ 67108864) (tab : Tab w0) (hw : WordsT w0) :
    Calls Tryz.prog 15 #[.pointer (some ⟨bp, 0, none⟩), .pointer (some ⟨b0, off, none⟩)] w fun e w' => e = .returned (.tuple #[]) ∧ Pg w0 bp (l ++ fnP f) w' := by
  obtain ⟨qc, cc, qk, ck, qi, ci, ql, cl, qh, ch⟩ := s
  have hfits := hok.fits
  have FC := fun (W : World) (hW : Below w0.heap.size w0 W) => hfn.below hW
  have FX := fun (W : World) (hW : Below w0.heap.size w0 W) (i : Nat) (u : Value) (hu : (fnC f ⟨qc, cc, qk, ck, qi, ci, ql, cl, qh, ch⟩)[i]? = some u) => (FC W hW).cell i u hu
  have F0 : ∀ W, Below w0.heap.size w0 W → W.cell? ⟨b0, off, none⟩ = some (.string f.name) := fun W hW => by simpa using FX W hW 0 _ rfl
  have F1 : ∀ W, Below w0.heap.size w0 W → W.cell? ⟨b0, off + 1, none⟩ = some (.int .i64 f.params) := fun W hW => FX W hW 1 _ rfl
  have F2 : ∀ W, Below w0.heap.size w0 W → W.cell? ⟨b0, off + 2, none⟩ = some (.int .i64 f.locals) := fun W hW => FX W hW 2 _ rfl
  have F3 : ∀ W, Below w0.heap.size w0 W → W.cell? ⟨b0, off + 3, none⟩ = some (.slice qc f.caps.length cc) := fun W hW => FX W hW 3 _ rfl
  have F4 : ∀ W, Below w0.heap.size w0 W → W.cell? ⟨b0, off + 4, none⟩ = some (.slice qk f.consts.length ck) := fun W hW => FX W hW 4 _ rfl
  have F5 : ∀ W, Below w0.heap.size w0 W → W.cell? ⟨b0, off + 5, none⟩ = some (.slice qi f.code.length ci) := fun W hW => FX W hW 5 _ rfl
  have F6 : ∀ W, Below w0.heap.size w0 W → W.cell? ⟨b0, off + 6, none⟩ = some (.slice ql f.lines.length cl) := fun W hW => FX W hW 6 _ rfl
  have F7 : ∀ W, Below w0.heap.size w0 W → W.cell? ⟨b0, off + 7, none⟩ = some (.slice qh f.hs.length ch) := fun W hW => FX W hW 7 _ rfl
  have HFN : Hid (FnAt w0 f ⟨qc, cc, qk, ck, qi, ci, ql, cl, qh, ch⟩) := hfn.fn
  obtain ⟨n1, n2, n3, n4⟩ := hok.lens
  have HOK : Hid _ := hok
  have HL : Hid (l.length + tot (fnT f) ≤ 67108864) := hl
  have HFT : Hid _ := hfits
  have HP0 : Hid _ := h
  have hat : (fnT f)[0]? = some (headT f) := rfl
  have hp : Pg w0 bp (l ++ ((fnT f).take 0).flatMap lineP) w := by simpa using h
  have HC : Calls Tryz.prog 22 #[.pointer (some ⟨bp, 0, none⟩), .slice (some ⟨w.heap.size, 0, none⟩) 4 4] ((w.alloc (.cells #[.iface 70 (.string ⟨#[102, 110]⟩), .iface 9 (.string (bs f.name.data.toList)), .iface 3 (.int .i64 f.params), .iface 3 (.int .i64 f.locals)] 20)).drew) fun e w2 => e = .returned (.tuple #[]) ∧ Pg w0 bp (l ++ ((fnT f).take (0 + 1)).flatMap lineP) w2 ∧ PStep w0.heap.size bp ((w.alloc (.cells #[.iface 70 (.string ⟨#[102, 110]⟩), .iface 9 (.string (bs f.name.data.toList)), .iface 3 (.int .i64 f.params), .iface 3 (.int .i64 f.locals)] 20)).drew) w2 := by
    have H := line_new (cap := 4) (headT f) (hp.below (Below.refl _ _)) (hfits _ (List.mem_of_getElem? hat)) (Nat.le_of_ble_eq_true rfl) (room hfits hl hat) tab ((w.alloc (.cells #[.iface 70 (.string ⟨#[102, 110]⟩), .iface 9 (.string (bs f.name.data.toList)), .iface 3 (.int .i64 f.params), .iface 3 (.int .i64 f.locals)] 20)).drew) (.inr rfl)
    rw [step1 hat]
    exact H
  rw [bs_of] at HC
  have s0 : w.cell? ⟨b0, off, none⟩ = some (.string f.name) ∧ w.cell? ⟨b0, off + 1, none⟩ = some (.int .i64 f.params) ∧ w.cell? ⟨b0, off + 2, none⟩ = some (.int .i64 f.locals) := ⟨F0 w h.bel, F1 w h.bel, F2 w h.bel⟩
  have s1 : Hid (∀ o : Obj, (w.alloc o).cell? ⟨b0, off, none⟩ = some (.string f.name) ∧ (w.alloc o).cell? ⟨b0, off + 1, none⟩ = some (.int .i64 f.params) ∧ (w.alloc o).cell? ⟨b0, off + 2, none⟩ = some (.int .i64 f.locals)) := fun o => ⟨F0 _ (h.below (below1 w o)).bel, F1 _ (h.below (below1 w o)).bel, F2 _ (h.below (below1 w o)).bel⟩
  clear h hfn FC FX hp hat hok hl hfits
  go_enter Tryz.func15, Tryz.ntmps15
  go_wp2
  go_region_held3 (fun W => W.cell? ⟨b0, off, none⟩ = some (.string f.name) ∧ W.cell? ⟨b0, off + 1, none⟩ = some (.int .i64 f.params) ∧ W.cell? ⟨b0, off + 2, none⟩ = some (.int .i64 f.locals)) (first | exact s0 | exact s1.out _ | exact s9 | go_keep) (first
    | (go_at_call 22; refine HC.mono ?_; clear HC; rintro e w9 ⟨rfl, hp9, hs9⟩; have s9 : w9.cell? ⟨b0, off, none⟩ = some (.string f.name) ∧ w9.cell? ⟨b0, off + 1, none⟩ = some (.int .i64 f.params) ∧ w9.cell? ⟨b0, off + 2, none⟩ = some (.int .i64 f.locals) := ⟨F0 w9 hp9.bel, F1 w9 hp9.bel, F2 w9 hp9.bel⟩))
  clear s0 s1 s9
  have hpA : Pg w0 bp (l ++ ((fnT f).take 1).flatMap lineP) w9 := hp9
  clear hp9 hs9
  have f3 := F3 w9 hpA.bel
  go_wp2
  clear f3
  go_loopw [36] (fun k wr => ∃ i : Nat, k = .int .i64 i ∧ i ≤ f.caps.length ∧ Pg w0 bp (l ++ ((fnT f).take (1 + i)).flatMap lineP) wr) (fun k _ => f.caps.length - (intOf k).toNat)
  case atStart => exact ⟨0, rfl, by omega, by simpa using hpA⟩
  case round =>
    obtain ⟨i, rfl, hi, hp⟩ := hrel
    rename World => wo
    clear hpA
    by_cases hin : i < f.caps.length
    · skip
      have hin' : (i : Int) < (f.caps.length : Int) := by omega
      obtain ⟨x, hx⟩ : ∃ x, f.caps[i]? = some x := ⟨f.caps[i], by simp⟩
      obtain ⟨bq, oq, hq, e0, e1⟩ := HFN.out.caps.lookC hp.bel hx
      simp only at hq
      have hat : (fnT f)[1 + i]? = some (capT x) := by
        have := mid (A := [headT f]) (B := f.caps.map capT) (C := f.consts.map conT ++ (insL f ++ f.hs.map hanT)) (k := 1) (i := i) rfl (by simpa using hin)
        rw [List.getElem?_map, hx] at this
        exact this
      have hfits := HFT.out
      have hl := HL.out
      obtain ⟨up, n⟩ := x
      simp only at e0 e1
      cases up with
      | true =>
        have HC : Calls Tryz.prog 22 #[.pointer (some ⟨bp, 0, none⟩), .slice (some ⟨wo.heap.size + 1, 0, none⟩) 2 2] (((wo.alloc (.cells #[.bool true, .int .i64 n] 72)).alloc (.cells #[.iface 70 (.string ⟨#[117, 112]⟩), .iface 3 (.int .i64 n)] 20))) fun e w2 => e = .returned (.tuple #[]) ∧ Pg w0 bp (l ++ ((fnT f).take (1 + i + 1)).flatMap lineP) w2 ∧ PStep w0.heap.size bp (((wo.alloc (.cells #[.bool true, .int .i64 n] 72)).alloc (.cells #[.iface 70 (.string ⟨#[117, 112]⟩), .iface 3 (.int .i64 n)] 20))) w2 := by
          have H := line_new (cap := 2) (capT ⟨true, n⟩) (hp.below (below1 _ _)) (hfits _ (List.mem_of_getElem? hat)) (Nat.le_of_ble_eq_true rfl) (room hfits hl hat) tab (((wo.alloc (.cells #[.bool true, .int .i64 n] 72)).alloc (.cells #[.iface 70 (.string ⟨#[117, 112]⟩), .iface 3 (.int .i64 n)] 20))) (.inl rfl)
          rw [show (wo.alloc (.cells #[.bool true, .int .i64 n] 72)).heap.size = wo.heap.size + 1 by simp] at H
          rw [step1 hat]
          exact H
        rw [show 1 + i + 1 = 1 + (i + 1) by omega] at HC
        clear hat hfits hl hx hp
        subst hq
        go_wp2_with (first
          | (go_at_call 22; (with_reducible refine HC.mono ?_); clear HC; rintro e w2 ⟨rfl, hp2, hs2⟩))
        go_roundw
        case rel => exact ⟨i + 1, by simp, by omega, hp2⟩
        case measure => simp [intOf]; omega
      | false =>
        have HC : Calls Tryz.prog 22 #[.pointer (some ⟨bp, 0, none⟩), .slice (some ⟨wo.heap.size + 1, 0, none⟩) 2 2] (((wo.alloc (.cells #[.bool false, .int .i64 n] 72)).alloc (.cells #[.iface 70 (.string ⟨#[99, 97, 112]⟩), .iface 3 (.int .i64 n)] 20))) fun e w2 => e = .returned (.tuple #[]) ∧ Pg w0 bp (l ++ ((fnT f).take (1 + i + 1)).flatMap lineP) w2 ∧ PStep w0.heap.size bp (((wo.alloc (.cells #[.bool false, .int .i64 n] 72)).alloc (.cells #[.iface 70 (.string ⟨#[99, 97, 112]⟩), .iface 3 (.int .i64 n)] 20))) w2 := by
          have H := line_new (cap := 2) (capT ⟨false, n⟩) (hp.below (below1 _ _)) (hfits _ (List.mem_of_getElem? hat)) (Nat.le_of_ble_eq_true rfl) (room hfits hl hat) tab (((wo.alloc (.cells #[.bool false, .int .i64 n] 72)).alloc (.cells #[.iface 70 (.string ⟨#[99, 97, 112]⟩), .iface 3 (.int .i64 n)] 20))) (.inl rfl)
          rw [show (wo.alloc (.cells #[.bool false, .int .i64 n] 72)).heap.size = wo.heap.size + 1 by simp] at H
          rw [step1 hat]
          exact H
        rw [show 1 + i + 1 = 1 + (i + 1) by omega] at HC
        clear hat hfits hl hx hp
        subst hq
        go_wp2_with (first
          | (go_at_call 22; (with_reducible refine HC.mono ?_); clear HC; rintro e w2 ⟨rfl, hp2, hs2⟩))
        go_roundw
        case rel => exact ⟨i + 1, by simp, by omega, hp2⟩
        case measure => simp [intOf]; omega
    · have hin' : ¬ ((i : Int) < (f.caps.length : Int)) := by omega
      have hpB : Pg w0 bp (l ++ ((fnT f).take (1 + f.caps.length)).flatMap lineP) wo := by rw [show f.caps.length = i by omega]; exact hp
      clear hp
      have f4 := F4 wo hpB.bel
      go_wp2
      clear f4
      go_loopw [62] (fun k wr => ∃ i : Nat, k = .int .i64 i ∧ i ≤ f.consts.length ∧ Pg w0 bp (l ++ ((fnT f).take (1 + f.caps.length + i)).flatMap lineP) wr) (fun k _ => f.consts.length - (intOf k).toNat)
      case atStart => exact ⟨0, rfl, by omega, by simpa using hpB⟩
      case round =>
        obtain ⟨i, rfl, hi, hp⟩ := hrel
        rename World => wo
        clear hpB hin' hin
        by_cases hin : i < f.consts.length
        · skip
          have hin' : (i : Int) < (f.consts.length : Int) := by omega
          obtain ⟨x, hx⟩ : ∃ x, f.consts[i]? = some x := ⟨f.consts[i], by simp⟩
          obtain ⟨bq, oq, hq, e0, e1, e2⟩ := HFN.out.consts.lookK hp.bel hx
          simp only at hq
          have hat : (fnT f)[1 + f.caps.length + i]? = some (conT x) := by
            have := mid (A := headT f :: f.caps.map capT) (B := f.consts.map conT) (C := insL f ++ f.hs.map hanT) (k := 1 + f.caps.length) (i := i) (by simp; omega) (by simpa using hin)
            rw [List.getElem?_map, hx] at this
            exact this
          have hk256 := (HOK.out.consts x (List.mem_of_getElem? hx)).1
          have hfits := HFT.out
          have hl := HL.out
          obtain ⟨k, n, sB⟩ := x
          simp only at e0 e1 e2 hk256
          by_cases hk : k = 2
          · subst hk
            simp only [show ((2 : Nat) : Int) = 2 from rfl] at e0
            have hct : conT ⟨2, n, sB⟩ = [wd [105, 110, 116], lo n] := rfl
            rw [hct] at hat
            clear hct
            have HC : Calls Tryz.prog 22 #[.pointer (some ⟨bp, 0, none⟩), .slice (some ⟨wo.heap.size + 1, 0, none⟩) 2 2] (((wo.alloc (.cells #[.int .u8 2, .int .i64 n, .string sB] 75)).alloc (.cells #[.iface 70 (.string ⟨#[105, 110, 116]⟩), .iface 2 (.int .i64 n)] 20))) fun e w2 => e = .returned (.tuple #[]) ∧ Pg w0 bp (l ++ ((fnT f).take (1 + f.caps.length + i + 1)).flatMap lineP) w2 ∧ PStep w0.heap.size bp (((wo.alloc (.cells #[.int .u8 2, .int .i64 n, .string sB] 75)).alloc (.cells #[.iface 70 (.string ⟨#[105, 110, 116]⟩), .iface 2 (.int .i64 n)] 20))) w2 := by
              have H := line_new (cap := 2) [wd [105, 110, 116], lo n] (hp.below (below1 _ _)) (hfits _ (List.mem_of_getElem? hat)) (Nat.le_of_ble_eq_true rfl) (room hfits hl hat) tab (((wo.alloc (.cells #[.int .u8 2, .int .i64 n, .string sB] 75)).alloc (.cells #[.iface 70 (.string ⟨#[105, 110, 116]⟩), .iface 2 (.int .i64 n)] 20))) (.inl rfl)
              rw [show (wo.alloc (.cells #[.int .u8 2, .int .i64 n, .string sB] 75)).heap.size = wo.heap.size + 1 by simp] at H
              rw [step1 hat]
              exact H
            rw [show 1 + f.caps.length + i + 1 = 1 + f.caps.length + (i + 1) by omega] at HC
            clear hat hfits hl hx hp
            subst hq
            go_wp2_with (first
              | (go_at_call 22; (with_reducible refine HC.mono ?_); clear HC; rintro e w2 ⟨rfl, hp2, hs2⟩))
            go_roundw
            case rel => exact ⟨i + 1, by simp, by omega, hp2⟩
            case measure => simp [intOf]; omega
          · have hk' : ((k : Int) == 2) = false := by simp; omega
            have hct : conT ⟨k, n, sB⟩ = [wd [116, 101, 120, 116], tx sB.data.toList] := by unfold conT; rw [if_neg hk]
            rw [hct] at hat
            clear hct
            have HC : Calls Tryz.prog 22 #[.pointer (some ⟨bp, 0, none⟩), .slice (some ⟨wo.heap.size + 1, 0, none⟩) 2 2] (((wo.alloc (.cells #[.int .u8 k, .int .i64 n, .string sB] 75)).alloc (.cells #[.iface 70 (.string ⟨#[116, 101, 120, 116]⟩), .iface 9 (.string (bs sB.data.toList))] 20))) fun e w2 => e = .returned (.tuple #[]) ∧ Pg w0 bp (l ++ ((fnT f).take (1 + f.caps.length + i + 1)).flatMap lineP) w2 ∧ PStep w0.heap.size bp (((wo.alloc (.cells #[.int .u8 k, .int .i64 n, .string sB] 75)).alloc (.cells #[.iface 70 (.string ⟨#[116, 101, 120, 116]⟩), .iface 9 (.string (bs sB.data.toList))] 20))) w2 := by
              have H := line_new (cap := 2) [wd [116, 101, 120, 116], tx sB.data.toList] (hp.below (below1 _ _)) (hfits _ (List.mem_of_getElem? hat)) (Nat.le_of_ble_eq_true rfl) (room hfits hl hat) tab (((wo.alloc (.cells #[.int .u8 k, .int .i64 n, .string sB] 75)).alloc (.cells #[.iface 70 (.string ⟨#[116, 101, 120, 116]⟩), .iface 9 (.string (bs sB.data.toList))] 20))) (.inl rfl)
              rw [show (wo.alloc (.cells #[.int .u8 k, .int .i64 n, .string sB] 75)).heap.size = wo.heap.size + 1 by simp] at H
              rw [step1 hat]
              exact H
            rw [bs_of] at HC
            rw [show 1 + f.caps.length + i + 1 = 1 + f.caps.length + (i + 1) by omega] at HC
            clear hat hfits hl hx hp hk
            subst hq
            go_wp2_with (first
              | (go_at_call 22; (with_reducible refine HC.mono ?_); clear HC; rintro e w2 ⟨rfl, hp2, hs2⟩))
            go_roundw
            case rel => exact ⟨i + 1, by simp, by omega, hp2⟩
            case measure => simp [intOf]; omega
        · have hin' : ¬ ((i : Int) < (f.consts.length : Int)) := by omega
          have hpC : Pg w0 bp (l ++ ((fnT f).take (1 + f.caps.length + f.consts.length)).flatMap lineP) wo := by rw [show f.consts.length = i by omega]; exact hp
          clear hp
          have f5 := F5 wo hpC.bel
          go_wp2
          clear f5
          go_loopw [89] (fun k wr => ∃ i : Nat, k = .int .i64 i ∧ i ≤ f.code.length ∧ Pg w0 bp (l ++ ((fnT f).take (1 + f.caps.length + f.consts.length + i)).flatMap lineP) wr) (fun k _ => f.code.length - (intOf k).toNat)
          case atStart => exact ⟨0, rfl, by omega, by simpa using hpC⟩
          case round =>
            obtain ⟨i, rfl, hi, hp⟩ := hrel
            rename World => wo
            clear hpC hin' hin
            by_cases hin : i < f.code.length
            · skip
              have hin' : (i : Int) < (f.code.length : Int) := by omega
              obtain ⟨x, hx⟩ : ∃ x, f.code[i]? = some x := ⟨f.code[i], by simp⟩
              have hll := HOK.out.lines
              obtain ⟨ln, hln⟩ : ∃ ln, f.lines[i]? = some ln := ⟨f.lines[i]'(by omega), by simp⟩
              have hio := HOK.out.code i ln x hln hx
              have hinl : (i : Int) < (f.lines.length : Int) := by omega
              obtain ⟨bq, oq, hq, e0, e1⟩ := HFN.out.code.look2 hp.bel hx
              obtain ⟨bl, ol, hql, g0⟩ := HFN.out.lines.lookL hp.bel hln
              simp only at hq hql
              have hat : (fnT f)[1 + f.caps.length + f.consts.length + i]? = some (insT ln x) := by
                have := mid (A := headT f :: (f.caps.map capT ++ f.consts.map conT)) (B := insL f) (C := f.hs.map hanT) (k := 1 + f.caps.length + f.consts.length) (i := i) (by simp; omega) (by simp [insL]; omega)
                have h2 : (insL f)[i]? = some (insT ln x) := by
                  unfold insL
                  rw [List.getElem?_map, (List.getElem?_zip_eq_some (z := (ln, x))).2 ⟨hln, hx⟩]
                  rfl
                rw [h2] at this
                simpa [fnT, insL] using this
              obtain ⟨op, a⟩ := x
              simp only at e0 e1
              have hB1 := below1 wo (.cells #[.int .u8 op, .int .i64 a] 38)
              have hnew := heap_alloc_new wo (.cells #[.int .u8 op, .int .i64 a] 38)
              have hpl := hp.pg.lt
              have HI : Calls Tryz.prog 23 #[.pointer (some ⟨bp, 0, none⟩), .int .i64 ln, .agg #[.int .u8 op, .int .i64 a]] (wo.alloc (.cells #[.int .u8 op, .int .i64 a] 38)).drew fun e w2 => e = .returned (.tuple #[]) ∧ Pg w0 bp (l ++ ((fnT f).take (1 + f.caps.length + f.consts.length + (i + 1))).flatMap lineP) w2 ∧ PStep w0.heap.size bp (wo.alloc (.cells #[.int .u8 op, .int .i64 a] 38)).drew w2 := by
                have H := ins_in (hp.below (below_drew hB1)) ln ⟨op, a⟩ hio (room HFT.out HL.out hat) tab hw
                rw [show 1 + f.caps.length + f.consts.length + (i + 1) = 1 + f.caps.length + f.consts.length + i + 1 by omega, step1 hat]
                exact H
              have hne : wo.heap.size ≠ bp := by omega
              have FL := HFN.out.lines
              simp only at FL
              subst hq
              subst hql
              have gl : ∀ W, Below w0.heap.size w0 W → W.cell? ⟨bl, ol + i, none⟩ = some (.int .i64 ln) := fun W hW => by
                obtain ⟨b9, o9, e9, h9⟩ := FL.lookL hW hln
                simp only [Option.some.injEq, Addr.mk.injEq] at e9
                obtain ⟨rfl, rfl, _⟩ := e9
                exact h9
              have s0 : (wo.alloc (.cells #[.int .u8 op, .int .i64 a] 38)).cell? ⟨b0, off + 6, none⟩ = some (.slice (some ⟨bl, ol, none⟩) f.lines.length cl) ∧ (wo.alloc (.cells #[.int .u8 op, .int .i64 a] 38)).cell? ⟨bl, ol + i, none⟩ = some (.int .i64 ln) ∧ (wo.alloc (.cells #[.int .u8 op, .int .i64 a] 38)).cell? ⟨wo.heap.size, 0, none⟩ = some (.int .u8 op) ∧ (wo.alloc (.cells #[.int .u8 op, .int .i64 a] 38)).cell? ⟨wo.heap.size, 1, none⟩ = some (.int .i64 a) := ⟨F6 _ (hp.below hB1).bel, gl _ (hp.below hB1).bel, (cell_row2 hnew).1.1, (cell_row2 hnew).1.2⟩
              clear hat hx hln hio hp hll hB1 FL
              go_wp2
              go_region_held3 (fun W => W.cell? ⟨b0, off + 6, none⟩ = some (.slice (some ⟨bl, ol, none⟩) f.lines.length cl) ∧ W.cell? ⟨bl, ol + i, none⟩ = some (.int .i64 ln) ∧ W.cell? ⟨wo.heap.size, 0, none⟩ = some (.int .u8 op) ∧ W.cell? ⟨wo.heap.size, 1, none⟩ = some (.int .i64 a)) (first | exact s0 | exact s9 | go_keep) (first
                | (go_at_call 23; refine HI.mono ?_; clear HI; rintro e w2 ⟨rfl, hp2, hs2⟩; have k9 := cell_row2 ((hs2.box wo.heap.size _ 38 _ hnew (by decide) hne).trans hnew); have s9 : w2.cell? ⟨b0, off + 6, none⟩ = some (.slice (some ⟨bl, ol, none⟩) f.lines.length cl) ∧ w2.cell? ⟨bl, ol + i, none⟩ = some (.int .i64 ln) ∧ w2.cell? ⟨wo.heap.size, 0, none⟩ = some (.int .u8 op) ∧ w2.cell? ⟨wo.heap.size, 1, none⟩ = some (.int .i64 a) := ⟨F6 _ hp2.bel, gl _ hp2.bel, k9.1.1, k9.1.2⟩))
              go_wp2
              go_roundw
              case rel => exact ⟨i + 1, by simp, by omega, hp2⟩
              case measure => simp [intOf]; omega
            · have hin' : ¬ ((i : Int) < (f.code.length : Int)) := by omega
              have hpD : Pg w0 bp (l ++ ((fnT f).take (1 + f.caps.length + f.consts.length + f.code.length)).flatMap lineP) wo := by rw [show f.code.length = i by omega]; exact hp
              clear hp
              have f7 := F7 wo hpD.bel
              go_wp2
              clear f7
              go_loopw [110] (fun k wr => ∃ i : Nat, k = .int .i64 i ∧ i ≤ f.hs.length ∧ Pg w0 bp (l ++ ((fnT f).take (1 + f.caps.length + f.consts.length + f.code.length + i)).flatMap lineP) wr) (fun k _ => f.hs.length - (intOf k).toNat)
              case atStart => exact ⟨0, rfl, by omega, by simpa using hpD⟩
              case round =>
                obtain ⟨i, rfl, hi, hp⟩ := hrel
                rename World => wo
                clear hpD hin' hin
                by_cases hin : i < f.hs.length
                · skip
                  have hin' : (i : Int) < (f.hs.length : Int) := by omega
                  obtain ⟨x, hx⟩ : ∃ x, f.hs[i]? = some x := ⟨f.hs[i], by simp⟩
                  obtain ⟨bq, oq, hq, e0, e1, e2, e3⟩ := HFN.out.hs.lookH hp.bel hx
                  simp only at hq
                  have hll := HOK.out.lines
                  have hat : (fnT f)[1 + f.caps.length + f.consts.length + f.code.length + i]? = some (hanT x) := by
                    have := mid (A := headT f :: (f.caps.map capT ++ (f.consts.map conT ++ insL f))) (B := f.hs.map hanT) (C := []) (k := 1 + f.caps.length + f.consts.length + f.code.length) (i := i) (by simp [insL]; omega) (by simpa using hin)
                    rw [List.getElem?_map, hx] at this
                    simpa [fnT, insL] using this
                  have hfits := HFT.out
                  have hl := HL.out
                  obtain ⟨fr, to, at_, deep⟩ := x
                  simp only at e0 e1 e2 e3
                  have HC : Calls Tryz.prog 22 #[.pointer (some ⟨bp, 0, none⟩), .slice (some ⟨wo.heap.size + 1, 0, none⟩) 5 5] (((wo.alloc (.cells #[.int .i64 fr, .int .i64 to, .int .i64 at_, .int .i64 deep] 78)).alloc (.cells #[.iface 70 (.string ⟨#[99, 97, 116, 99, 104]⟩), .iface 3 (.int .i64 fr), .iface 3 (.int .i64 to), .iface 3 (.int .i64 at_), .iface 3 (.int .i64 deep)] 20))) fun e w2 => e = .returned (.tuple #[]) ∧ Pg w0 bp (l ++ ((fnT f).take (1 + f.caps.length + f.consts.length + f.code.length + i + 1)).flatMap lineP) w2 ∧ PStep w0.heap.size bp (((wo.alloc (.cells #[.int .i64 fr, .int .i64 to, .int .i64 at_, .int .i64 deep] 78)).alloc (.cells #[.iface 70 (.string ⟨#[99, 97, 116, 99, 104]⟩), .iface 3 (.int .i64 fr), .iface 3 (.int .i64 to), .iface 3 (.int .i64 at_), .iface 3 (.int .i64 deep)] 20))) w2 := by
                    have H := line_new (cap := 5) (hanT ⟨fr, to, at_, deep⟩) (hp.below (below1 _ _)) (hfits _ (List.mem_of_getElem? hat)) (Nat.le_of_ble_eq_true rfl) (room hfits hl hat) tab (((wo.alloc (.cells #[.int .i64 fr, .int .i64 to, .int .i64 at_, .int .i64 deep] 78)).alloc (.cells #[.iface 70 (.string ⟨#[99, 97, 116, 99, 104]⟩), .iface 3 (.int .i64 fr), .iface 3 (.int .i64 to), .iface 3 (.int .i64 at_), .iface 3 (.int .i64 deep)] 20))) (.inl rfl)
                    rw [show (wo.alloc (.cells #[.int .i64 fr, .int .i64 to, .int .i64 at_, .int .i64 deep] 78)).heap.size = wo.heap.size + 1 by simp] at H
                    rw [step1 hat]
                    exact H
                  rw [show 1 + f.caps.length + f.consts.length + f.code.length + i + 1 = 1 + f.caps.length + f.consts.length + f.code.length + (i + 1) by omega] at HC
                  clear hat hfits hl hx hp hll
                  subst hq
                  go_wp2_with (first
                    | (go_at_call 22; (with_reducible refine HC.mono ?_); clear HC; rintro e w2 ⟨rfl, hp2, hs2⟩))
                  go_roundw
                  case rel => exact ⟨i + 1, by simp, by omega, hp2⟩
                  case measure => simp [intOf]; omega
                · have hin' : ¬ ((i : Int) < (f.hs.length : Int)) := by omega
                  have hpE : Pg w0 bp (l ++ fnP f) wo := by
                    have e : (fnT f).take (1 + f.caps.length + f.consts.length + f.code.length + i) = fnT f := List.take_of_length_le (by have := HOK.out.lines; simp [fnT]; omega)
                    rw [e] at hp
                    exact hp
                  clear hp
                  go_wp2
                  go_end0
                  exact ⟨rfl, hpE⟩

end Lk

end Go.Proofs.YtnekcomkochmjaaGreatDoor
