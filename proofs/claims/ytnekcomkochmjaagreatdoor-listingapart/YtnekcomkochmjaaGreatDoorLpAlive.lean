/- listing.Parse. -/
import Derived.Test.YtnekcomkochmjaaGreatDoorLpCut
import Derived.Test.YtnekcomkochmjaaGreatDoorLkText
import Derived.Test.YtnekcomkochmjaaGreatDoorLpSameFn
namespace Go.Proofs.YtnekcomkochmjaaGreatDoor
set_option linter.unusedVariables false
set_option linter.unusedSimpArgs false
open Go.RowKit

namespace Lp
open Lk

variable {w : World}

/-- No line is longer than m. -/
def Short (m : Nat) : List UInt8 → Nat → Bool
  | [], k => decide (k ≤ m)
  | c :: r, k => if c = 10 then decide (k ≤ m) && Short m r 0 else Short m r (k + 1)

theorem Short.mono {m : Nat} : ∀ {s : List UInt8} {k j : Nat}, j ≤ k → Short m s k = true → Short m s j = true
  | [], k, j, h, hs => by unfold Short at *; simp at *; omega
  | c :: r, k, j, h, hs => by
    unfold Short at *
    split
    · rename_i hc
      rw [if_pos hc] at hs
      simp at hs ⊢
      exact ⟨by omega, hs.2⟩
    · rename_i hc
      rw [if_neg hc] at hs
      exact Short.mono (by omega) hs

theorem Short.line {m : Nat} : ∀ {x r : List UInt8} {k : Nat}, 10 ∉ x → (Short m (x ++ 10 :: r) k = true ↔ k + x.length ≤ m ∧ Short m r 0 = true)
  | [], r, k, h => by simp [Short]
  | c :: x, r, k, h => by
    simp only [List.mem_cons, not_or] at h
    simp only [List.cons_append, Short]
    rw [if_neg (Ne.symm h.1), Short.line h.2, List.length_cons]
    constructor <;> rintro ⟨h1, h2⟩ <;> exact ⟨by omega, h2⟩

theorem Short.last {m : Nat} : ∀ {x : List UInt8} {k : Nat}, 10 ∉ x → (Short m x k = true ↔ k + x.length ≤ m)
  | [], k, h => by simp [Short]
  | c :: x, k, h => by
    simp only [List.mem_cons, not_or] at h
    simp only [Short]
    rw [if_neg (Ne.symm h.1), Short.last h.2, List.length_cons]
    omega

theorem Short.of_len {m : Nat} : ∀ {s : List UInt8} {k : Nat}, k + s.length ≤ m → Short m s k = true
  | [], k, h => by simp [Short] at *; exact h
  | c :: r, k, h => by
    simp only [List.length_cons] at h
    unfold Short
    split
    · simp; exact ⟨by omega, Short.of_len (by omega)⟩
    · exact Short.of_len (by omega)

theorem Short.lines {m : Nat} : ∀ {ls : List (List UInt8)} {t : List UInt8}, (∀ x ∈ ls, 10 ∉ x ∧ x.length ≤ m) → Short m t 0 = true → Short m (linesP ls ++ t) 0 = true
  | [], t, h, ht => by simpa [linesP] using ht
  | x :: ls, t, h, ht => by
    have e : linesP (x :: ls) ++ t = x ++ 10 :: (linesP ls ++ t) := by rw [linesP_cons]; simp
    rw [e, Short.line (h x (by simp)).1]
    exact ⟨by have := (h x (by simp)).2; omega, Short.lines (fun y hy => h y (by simp [hy])) ht⟩

/-- What is read fits. -/
theorem txtP_len : ∀ (n : Nat) (l : Ln) (acc : List UInt8), (txtP n l acc).1.length ≤ acc.length + l.rest.length
  | 0, l, acc => by simp [txtP]
  | n + 1, l, acc => by
    have hta := congrArg List.length (List.takeWhile_append_dropWhile (p := plainQ) (l := l.rest))
    unfold txtP
    cases hd : l.rest.dropWhile plainQ with
    | nil => simp
    | cons c t =>
      rw [hd] at hta
      simp only [List.length_append, List.length_cons] at hta
      simp only
      split
      · simp only [List.length_append]; omega
      · have h1 := txtP_len n (Ln.mk t l.wrong).escd (acc ++ l.rest.takeWhile plainQ ++ [escV t])
        have h2 := escd_len (Ln.mk t l.wrong)
        simp only [List.length_append, List.length_cons, List.length_nil] at h1 h2 ⊢
        omega

theorem text_len (l : Ln) : l.text.1.length ≤ l.rest.length := by
  unfold Ln.text
  have h1 := txtP_len ((l.eat [32, 34]).rest.length + 1) (l.eat [32, 34]) []
  have h2 := eat_len l [32, 34]
  simp only [List.length_nil] at h1
  omega

theorem lineOf_len (text : List UInt8) : (lineOf text).behind.rest.length ≤ text.length := (List.dropWhile_sublist _).length_le

theorem insV_op (l : Ln) : l.insV.op < 256 := by
  have h := findW_lt opsL l.word (by decide)
  have e : opsL.length = 31 := rfl
  unfold Ln.insV
  split
  · show (14 : Nat) < 256; decide
  · split
    · show findW opsL l.word < 256; omega
    · show findW opsL l.word < 256; omega

theorem addP_fit {t : Fm} (h : FitF t) (r : Nat) (f1 : List UInt8) (l : Ln) : FitF (addP t r f1 l).1 := by
  unfold addP
  split
  · exact ⟨h.consts, h.code, h.name⟩
  · split
    · refine ⟨fun c hc => (mem_more hc).elim (h.consts c) (fun e => ?_), h.code, h.name⟩
      subst e
      unfold Ln.conV
      split
      · show (2 : Nat) < 256; decide
      · show (3 : Nat) < 256; decide
    · split
      · exact ⟨h.consts, fun i hi => (mem_more hi).elim (h.code i) (fun e => e ▸ insV_op _), h.name⟩
      · exact ⟨h.consts, h.code, h.name⟩

theorem lastP_mem {g : Fm → Fm} : ∀ {l : List Fm} {x : Fm}, x ∈ lastP g l → x ∈ l ∨ ∃ y ∈ l, x = g y
  | [], x, h => by simp [lastP] at h
  | [t], x, h => by
    simp only [lastP, List.mem_cons, List.not_mem_nil, or_false] at h
    exact .inr ⟨t, by simp, h⟩
  | a :: b :: r, x, h => by
    simp only [lastP, List.mem_cons] at h
    rcases h with rfl | h
    · exact .inl (by simp)
    · rcases lastP_mem (l := b :: r) (by simpa using h) with h | ⟨y, hy, e⟩
      · exact .inl (List.mem_cons_of_mem _ h)
      · exact .inr ⟨y, List.mem_cons_of_mem _ hy, e⟩

theorem takeP_fit {fs fs' : List Fm} {last r : Nat} {ok : Bool} {text : List UInt8} (h : takeP fs last text = some (fs', r, ok)) (hf : ∀ f ∈ fs, FitF f) (ht : text.length ≤ 1048576) : ∀ f ∈ fs', FitF f := by
  unfold takeP at h
  split at h
  · cases h
  · split at h
    · simp only [Option.some.injEq, Prod.mk.injEq] at h
      obtain ⟨rfl, _⟩ := h
      intro f hm
      refine (mem_more hm).elim (hf f) (fun e => ?_)
      subst e
      refine ⟨by simp, by simp, ?_⟩
      show (bs _).size ≤ _
      rw [bs_size]
      have h1 := text_len (lineOf text).behind
      have h2 := lineOf_len text
      omega
    · simp only [Option.some.injEq, Prod.mk.injEq] at h
      obtain ⟨rfl, _⟩ := h
      intro f hm
      rcases lastP_mem hm with hm | ⟨y, hy, rfl⟩
      · exact hf f hm
      · exact addP_fit (hf y hy) _ _ _

theorem Rok.start (w : World) : Rok w (.slice none 0 0) [] 0 (w.alloc (.cells #[.slice none 0 0, .int .u8 0] 63)) :=
  ⟨⟨heap_alloc_new _ _, ⟨fun r hr => by simp only [allR, List.flatMap_nil, List.mem_cons, List.not_mem_nil, or_false] at hr; subst hr; exact World.ownsRow_nil _ _ _ _, by simp [allR]⟩, below1 _ _, ⟨none, 0, rfl⟩, by decide, by simp⟩, by simp, by simp, fun h => absurd rfl h⟩

theorem Rok.small {w0 : World} {v : Value} {ts : List Ft} {last : Nat} (h : Rok w0 v ts last w) : SmallP (ts.map Ft.f) := by
  refine ⟨by have := h.len; simp; omega, fun f hf => ?_⟩
  obtain ⟨x, hx, rfl⟩ := List.mem_map.1 hf
  have hb := h.bnd x hx
  exact ⟨Nat.le_trans hb.caps (by decide), Nat.le_trans hb.consts (by decide), Nat.le_trans hb.code (by decide), Nat.le_trans hb.lines (by decide), Nat.le_trans hb.hs (by decide)⟩

def strLen : Value → Nat
  | .string b => b.size
  | _ => 0

theorem Rok.below {w0 w' : World} {v : Value} {ts : List Ft} {last : Nat} (h : Rok w0 v ts last w) (hB : Below w.heap.size w w') : Rok w0 v ts last w' :=
  ⟨⟨(hB.block _ h.rdr.lt0).trans h.rdr.cell, h.rdr.rows.below hB, h.rdr.bel.trans (hB.mono (Nat.le_of_lt h.rdr.lt0)), h.rdr.form, h.rdr.lt, h.rdr.fits⟩, h.bnd, h.len, h.some⟩

theorem Below.drewN (w : World) : ∀ n : Nat, Below w.heap.size w (w.drewN n)
  | 0 => Below.refl _ _
  | n + 1 => (Below.drewN w n).drew

theorem parse_no {x : List UInt8} {fs : List Fm} {last k : Nat} (n : Nat) (r : List UInt8) (hx : 10 ∉ x) (h : takeP fs last x = none ∨ ∃ f1 l1, takeP fs last x = some (f1, l1, false)) : parseP (n + 1) (x ++ 10 :: r) fs last k = (fs, k, false) := by
  unfold parseP
  rw [if_neg (by simp), cut_at _ hx]
  simp only
  rw [if_neg (by decide)]
  rcases h with h | ⟨f1, l1, h⟩ <;> rw [h] <;> rfl

/-- What Parse hands back. -/
def ParseR (w : World) (r : List Fm × Nat × Nat) (e : Ending) (w' : World) : Prop :=
  ∃ p c ts, e = .returned (.tuple #[.slice p r.1.length c, .int .i64 r.2.1, .int .i64 r.2.2]) ∧ ts.map Ft.f = r.1 ∧ RowsOn (w.heap.size + 1) w' (allR (.slice p r.1.length c) ts) ∧ Below w.heap.size w w'

theorem ParseR.bad {w' : World} (k : Nat) (hB : Below w.heap.size w w') : ParseR w ([], k, 8) (.returned (.tuple #[.slice none 0 0, .int .i64 k, .int .i64 8])) w' :=
  ⟨none, 0, [], rfl, rfl, ⟨fun r hr => by simp only [allR, List.flatMap_nil, List.mem_cons, List.not_mem_nil, or_false] at hr; subst hr; exact World.ownsRow_nil _ _ _ _, by simp [allR]⟩, hB⟩

set_option maxRecDepth 20000 in
set_option maxHeartbeats 8000000 in
theorem parse_in (s : List UInt8) (hlen : s.length < 4294967281) (hsh : Short 1048576 s 0 = true) (he : ErrT w) (tab : Tab w) (hw : WordsT w) (ht : RowsT w) :
    Calls Tryz.prog 11 #[.string (bs s)] w fun e w' => ParseR w (parseV s) e w' := by
  obtain ⟨P, hP⟩ : ∃ P, parseP (s.length + 1) s [] 0 0 = P := ⟨_, rfl⟩
  have hV : parseV s = if P.2.2 = true ∧ (checkV P.1).2.2 = 0 then (P.1, 0, 0) else ([], P.2.1, 8) := by unfold parseV; rw [hP]
  rw [hV]
  clear hV
  have HP : Hid _ := hP
  have HSH : Hid _ := hsh
  have HE : Hid (ErrT w) := he
  have HTAB : Hid (Tab w) := tab
  have HW : Hid (WordsT w) := hw
  have HT : Hid (RowsT w) := ht
  clear hP hsh he tab hw ht
  go_enter Tryz.func11, Tryz.ntmps11
  go_wp2
  go_loopw [0, 6] (fun sv kv wr => ∃ (t : List UInt8) (n : Nat) (last k : Nat) (v : Value) (ts : List Ft), sv = .string (bs t) ∧ kv = .int .i64 k ∧ parseP n t (ts.map Ft.f) last k = P ∧ t.length < n ∧ Rok w v ts last wr ∧ Short 1048576 t 0 = true ∧ k + t.length ≤ s.length ∧ ∀ x ∈ ts, FitF x.f) (fun sv _ _ => strLen sv)
  case atStart => exact ⟨s, s.length + 1, 0, 0, _, [], rfl, rfl, HP.out, by omega, Rok.start w, HSH.out, by omega, by simp⟩
  case round =>
    obtain ⟨t, n, last, k, v, ts, rfl, rfl, hp, hn, hr, hshort, hk, hfit⟩ := hrel
    obtain ⟨⟨x0, x1⟩, ⟨y0, y1⟩⟩ := cell_row2 hr.rdr.cell
    obtain ⟨n, rfl⟩ : ∃ m, n = m + 1 := ⟨n - 1, by omega⟩
    have hlt := hr.rdr.lt0
    have HR : Hid (Rok w v ts last wr) := hr
    by_cases h0 : t = []
    · subst h0
      have e5 : ((bs ([] : List UInt8)).toList == ([] : List UInt8)) = true := by rw [bs_toList]; rfl
      rw [parse_end] at hp
      subst hp
      obtain ⟨p, c, rfl⟩ := hr.rdr.form
      have H := Lk.mayBe_in c hr.rdr.rows.isFns hr.small (fun f hf => by obtain ⟨y, hy, rfl⟩ := List.mem_map.1 hf; exact hfit y hy) (HT.out.below hr.rdr.bel)
      rw [List.length_map] at H
      by_cases hc : (checkV (ts.map Ft.f)).2.2 = 0
      · have HC0 : Hid _ := hc
        rw [decide_eq_true hc] at H
        clear hfit hshort hr hc hn
        go_wp2_with (first
          | (go_at_call 14; (with_reducible refine H.mono ?_); clear H; rintro e w2 ⟨rfl, hB2⟩; obtain ⟨⟨x2, x3⟩, ⟨y2, y3⟩⟩ := cell_row2 ((hB2.block _ hlt).trans HR.out.rdr.cell)))
        go_ret3
        have hR2 := (HR.out.below hB2).rdr
        exact ⟨p, c, ts, by simp, rfl, by simpa using hR2.rows, hR2.bel.mono (Nat.le_refl _)⟩
      · rw [decide_eq_false hc] at H
        have HC0 : Hid _ := hc
        clear hfit hshort hr hc hn
        go_wp2_with (first
          | (go_at_call 14; (with_reducible refine H.mono ?_); clear H; rintro e w2 ⟨rfl, hB2⟩; obtain ⟨⟨x2, x3⟩, ⟨y2, y3⟩⟩ := cell_row2 ((hB2.block _ hlt).trans HR.out.rdr.cell)))
        go_ret3
        exact ParseR.bad k (HR.out.below hB2).rdr.bel
    · have e4 : ((bs t).toList == ([] : List UInt8)) = false := by rw [bs_toList]; cases t with | nil => exact absurd rfl h0 | cons a b => rfl
      have HC := cut_in (w := wr) t (by omega)
      rcases ten_split t with h10 | ⟨x, r, rfl, h10⟩
      · rw [cut_none h10] at HC
        rw [parse_tail n h0 h10] at hp
        subst hp
        clear hfit hshort hr hn
        go_wp2_with (first
          | (go_at_call 18; refine HC.mono ?_; clear HC; rintro e w1 ⟨rfl, j, rfl⟩))
        go_ret3
        exact ParseR.bad k (HR.out.below (Below.drewN _ _)).rdr.bel
      · rw [cut_at r h10] at HC
        obtain ⟨sh1, sh2⟩ := (Short.line h10).1 hshort
        have hxl : x.length ≤ 1048576 := by omega
        have HTK := fun (j : Nat) => take_in (HR.out.below (Below.drewN wr j)) x hxl HE.out HTAB.out HW.out
        have HF : Hid (∀ y ∈ ts, FitF y.f) := hfit
        cases hT : takeP (ts.map Ft.f) last x with
        | none =>
          rw [hT] at HTK
          rw [parse_no n r h10 (.inl hT)] at hp
          subst hp
          clear hfit hshort hr hn hT
          go_wp2_with (first
            | (go_at_call 18; refine HC.mono ?_; clear HC; rintro e w1 ⟨rfl, j, rfl⟩; have HTJ := HTK j)
            | (go_at_call 19; (with_reducible refine HTJ.mono ?_); rintro e w3 ⟨rfl, hB3⟩))
          go_ret3
          exact ParseR.bad k ((HR.out.below (Below.drewN _ _)).rdr.bel.trans (hB3.mono (Nat.le_refl _)))
        | some z =>
          obtain ⟨f1, l1, ok⟩ := z
          rw [hT] at HTK
          cases ok with
          | false =>
            rw [parse_no n r h10 (.inr ⟨f1, l1, hT⟩)] at hp
            subst hp
            clear hfit hshort hr hn hT
            go_wp2_with (first
              | (go_at_call 18; refine HC.mono ?_; clear HC; rintro e w1 ⟨rfl, j, rfl⟩; have HTJ := HTK j)
              | (go_at_call 19; (with_reducible refine HTJ.mono ?_); rintro e w3 ⟨rfl, v', ts', hts, hR3⟩))
            go_ret3
            exact ParseR.bad k hR3.rdr.bel
          | true =>
            rw [parse_step n r h10 hT] at hp
            have HPP : Hid (parseP n r f1 l1 (k + 1) = P) := hp
            have HT3 : Hid _ := hT
            have hsz : (x ++ 10 :: r).length = x.length + (r.length + 1) := by simp
            rw [hsz] at hn hk
            have HN : Hid (x.length + (r.length + 1) < n + 1 ∧ k + (x.length + (r.length + 1)) ≤ s.length ∧ Short 1048576 r 0 = true) := ⟨hn, hk, sh2⟩
            have hwr : IntKind.i64.wrap ((k : Int) + 1) = (k : Int) + 1 := by simp [IntKind.wrap, IntKind.bits, IntKind.signed]; omega
            clear hfit hshort hr hn hT hp
            go_wp2_with (first
              | (go_at_call 18; refine HC.mono ?_; clear HC; rintro e w1 ⟨rfl, j, rfl⟩; have HTJ := HTK j)
              | (go_at_call 19; (with_reducible refine HTJ.mono ?_); rintro e w3 ⟨rfl, v', ts', hts, hR3⟩))
            go_roundw
            case rel =>
              obtain ⟨a1, a2, a3⟩ := HN.out
              refine ⟨r, n, l1, k + 1, v', ts', rfl, by simp, by rw [hts]; exact HPP.out, by omega, hR3, a3, by omega, fun y hy => ?_⟩
              exact takeP_fit HT3.out (fun f hf => by obtain ⟨z, hz, rfl⟩ := List.mem_map.1 hf; exact HF.out z hz) hxl y.f (by rw [← hts]; exact List.mem_map_of_mem hy)
            case measure => simp [strLen, bs_size]; omega

end Lp

end Go.Proofs.YtnekcomkochmjaaGreatDoor

namespace Go.Proofs.YtnekcomkochmjaaGreatDoor
set_option linter.unusedVariables false
set_option linter.unusedSimpArgs false
open Go.RowKit

namespace Lp
open Lk

theorem check_len {fs : List Fm} (h : (checkV fs).2.2 = 0) : 1 ≤ fs.length ∧ fs.length ≤ 256 := by
  unfold checkV at h
  split at h
  · simp at h
  · omega

/-- The head of a function of code that may be. -/
structure HeadOk (f : Fm) : Prop where
  name : f.name.size ≤ 4096
  caps : f.caps.length ≤ 4096
  consts : f.consts.length ≤ 16384
  hs : f.hs.length ≤ 16384
  code : f.code.length ≤ 16384
  lines : f.lines.length = f.code.length
  texts : ∀ c ∈ f.consts, c.k < 256 ∧ c.s.size ≤ 4096
  ops : ∀ i ∈ f.code, i.op < 256

theorem head_ok {fs : List Fm} (h : (checkV fs).2.2 = 0) : ∀ f ∈ fs, HeadOk f := by
  intro f hf
  obtain ⟨main, fn', mk', hh, hc⟩ := check_parts h f hf
  unfold headP at hh
  simp only [Bool.and_eq_true, decide_eq_true_eq, List.all_eq_true] at hh
  obtain ⟨⟨⟨⟨h1, h2, h3, h4, h5, h6, h7, h8, h9, h10, h11⟩, hk⟩, hl⟩, hhs⟩ := hh
  refine ⟨h1, h6, h7, h8, h10, h11, fun c hc => ?_, fun i hi => ?_⟩
  · have := hk c hc
    unfold constP at this
    have := of_decide_eq_true this
    omega
  · obtain ⟨j, hj⟩ := List.mem_iff_getElem?.1 hi
    obtain ⟨mk', hx⟩ := codeP_ok hc j i hj
    unfold insP at hx
    simp only [Bool.and_eq_true] at hx
    have := (number_ok hx.1.1).2.1
    omega

theorem small_of {fs : List Fm} (h : (checkV fs).2.2 = 0) : SmallP fs := by
  refine ⟨by have := check_len h; omega, fun f hf => ?_⟩
  have hk := head_ok h f hf
  have h1 := hk.caps; have h2 := hk.consts; have h3 := hk.code; have h4 := hk.lines; have h5 := hk.hs
  exact ⟨by omega, by omega, by omega, by omega, by omega⟩

theorem fit_of {fs : List Fm} (h : (checkV fs).2.2 = 0) : ∀ f ∈ fs, FitF f := fun f hf =>
  ⟨fun c hc => ((head_ok h f hf).texts c hc).1, (head_ok h f hf).ops, Nat.le_trans (head_ok h f hf).name (by decide)⟩

theorem wide_lt {f : Fm} (h : HeadOk f) : ∀ x ∈ fnT f, wide x ≤ 8400 := by
  intro x hx
  have hn := h.name
  unfold fnT at hx
  simp only [List.mem_cons, List.mem_append, List.mem_map] at hx
  rcases hx with rfl | ⟨c, hc, rfl⟩ | ⟨c, hc, rfl⟩ | ⟨⟨ln, i⟩, hc, rfl⟩ | ⟨c, hc, rfl⟩
  · have e : f.name.data.toList.length = f.name.size := by rw [Array.length_toList]; rfl
    simp [headT, wide, wd, tx, nm]; omega
  · have : wide (capT c) ≤ 60 := by unfold capT wide; split <;> simp [wd, nm]
    exact Nat.le_trans this (by decide)
  · have := (h.texts c hc).2
    have e : c.s.data.toList.length = c.s.size := by rw [Array.length_toList]; rfl
    have h1 : wide (conT c) ≤ 60 + 2 * c.s.size := by
      unfold conT wide
      split
      · simp [wd, lo]; omega
      · simp [wd, tx]; omega
    omega
  · exact Nat.le_trans (insT_wide ln i) (by decide)
  · have : wide (hanT c) ≤ 130 := by simp [hanT, wide, wd, nm]
    exact Nat.le_trans this (by decide)

theorem said_short {fs : List Fm} (h : (checkV fs).2.2 = 0) (hn : ∀ f ∈ fs, NumF f) : ∀ x ∈ saidF fs, 10 ∉ x ∧ x.length ≤ 1048576 := by
  intro x hx
  refine ⟨said10 fs x hx, ?_⟩
  unfold saidF at hx
  obtain ⟨y, hy, rfl⟩ := List.mem_map.1 hx
  obtain ⟨f, hf, hy⟩ := List.mem_flatMap.1 hy
  have h1 : (said y).length ≤ wide y := said_len ((fnOk_of h hf (fit_of h f hf) (hn f hf)).fits y hy)
  have h2 := wide_lt (head_ok h f hf) y hy
  omega

theorem short_text {fs : List Fm} (h : (checkV fs).2.2 = 0) (hn : ∀ f ∈ fs, NumF f) : Short 1048576 (textP fs) 0 = true := by
  have := Short.lines (said_short h hn) (t := []) (by simp [Short])
  rwa [List.append_nil, linesP_said] at this

/-- A line is at least as long as what stands in it. -/
def Thin (t : Th) : Prop := t.k = 0 ∨ t.k = 1 ∨ t.l = []

theorem flat_esc_ge (l : List UInt8) : l.length ≤ (l.flatMap esc).length := by
  induction l with
  | nil => simp
  | cons c l ih =>
    have : 1 ≤ (esc c).length := by rcases esc_cases c with ⟨e, _⟩ | ⟨e, he, _⟩ <;> simp [*]
    simp only [List.flatMap_cons, List.length_append, List.length_cons]
    omega

theorem Thin.le {t : Th} (h : Thin t) : 2 * t.l.length + 22 ≤ 22 * (t.say.length + 1) := by
  unfold Th.say
  rcases h with h | h | h
  · rw [if_pos h]; omega
  · rw [if_neg (by omega), if_pos h]
    have := flat_esc_ge t.l
    simp only [quo, List.length_cons, List.length_append, List.length_nil]
    omega
  · rw [h]; simp; omega

theorem more_thin : ∀ {l : List Th}, (∀ t ∈ l, Thin t) → wide l ≤ 22 * (Lk.more l).length
  | [], _ => by simp [wide]
  | t :: r, h => by
    have h1 := (h t (by simp)).le
    have h2 := more_thin (l := r) (fun x hx => h x (by simp [hx]))
    simp only [wide, List.map_cons, List.sum_cons, Lk.more, List.length_cons, List.length_append] at h2 ⊢
    omega

theorem line_thin {l : List Th} (h : ∀ t ∈ l, Thin t) : wide l + 1 ≤ 23 * (lineP l).length := by
  cases l with
  | nil => simp [wide, lineP, said]
  | cons t r =>
    have h1 := (h t (by simp)).le
    have h2 := more_thin (l := r) (fun x hx => h x (by simp [hx]))
    simp only [wide, List.map_cons, List.sum_cons, lineP, said, List.length_cons, List.length_append, List.length_nil] at h2 ⊢
    omega

theorem fnT_thin (f : Fm) : ∀ x ∈ fnT f, ∀ t ∈ x, Thin t := by
  intro x hx
  simp only [fnT, List.mem_cons, List.mem_append, List.mem_map] at hx
  rcases hx with rfl | ⟨c, _, rfl⟩ | ⟨c, _, rfl⟩ | ⟨c, _, rfl⟩ | ⟨c, _, rfl⟩
  · intro t ht; simp only [headT, List.mem_cons, List.not_mem_nil, or_false] at ht
    rcases ht with rfl | rfl | rfl | rfl <;> simp [Thin, wd, tx, nm]
  · intro t ht; simp only [capT, List.mem_cons, List.not_mem_nil, or_false] at ht
    rcases ht with rfl | rfl <;> simp [Thin, wd, nm]
  · unfold conT
    split <;> intro t ht <;> simp only [List.mem_cons, List.not_mem_nil, or_false] at ht <;> rcases ht with rfl | rfl <;> simp [Thin, wd, lo, tx]
  · unfold insT
    split
    · intro t ht; simp only [List.mem_cons, List.not_mem_nil, or_false] at ht
      rcases ht with rfl | rfl | rfl <;> simp [Thin, wd, nm]
    · split <;> intro t ht <;> simp only [List.mem_cons, List.not_mem_nil, or_false] at ht
      · rcases ht with rfl | rfl | rfl <;> simp [Thin, wd, nm]
      · rcases ht with rfl | rfl <;> simp [Thin, wd, nm]
  · intro t ht; simp only [hanT, List.mem_cons, List.not_mem_nil, or_false] at ht
    rcases ht with rfl | rfl | rfl | rfl | rfl <;> simp [Thin, wd, nm]

theorem tot_flat : ∀ {L : List (List Th)}, (∀ x ∈ L, ∀ t ∈ x, Thin t) → tot L ≤ 23 * (L.flatMap lineP).length
  | [], _ => by simp [tot]
  | x :: L, h => by
    have h1 := line_thin (h x (by simp))
    have h2 := tot_flat (L := L) (fun y hy => h y (by simp [hy]))
    simp only [tot, List.map_cons, List.sum_cons, List.flatMap_cons, List.length_append] at h2 ⊢
    omega

theorem totP_text (fs : List Fm) : totP fs ≤ 23 * (textP fs).length := by
  induction fs with
  | nil => simp [totP]
  | cons f r ih =>
    have h1 := tot_flat (fnT_thin f)
    simp only [totP, textP, List.map_cons, List.sum_cons, List.flatMap_cons, List.length_append] at ih ⊢
    unfold fnP at *
    omega

/-- No line of code is empty; there is a line. -/
theorem itoa_ne (v : Int) : Lib.itoa v ≠ [] := by
  unfold Lib.itoa
  split
  · simp
  · exact dec_ne _

theorem said_ne (fs : List Fm) : ∀ x ∈ saidF fs, x ≠ [] := by
  intro x hx
  unfold saidF at hx
  obtain ⟨y, hy, rfl⟩ := List.mem_map.1 hx
  obtain ⟨f, hf, hy⟩ := List.mem_flatMap.1 hy
  simp only [fnT, List.mem_cons, List.mem_append, List.mem_map] at hy
  rcases hy with rfl | ⟨c, _, rfl⟩ | ⟨c, _, rfl⟩ | ⟨c, _, rfl⟩ | ⟨c, _, rfl⟩
  · simp [headT, said, wd, Th.say]
  · unfold capT; cases c.up <;> simp [said, wd, Th.say]
  · unfold conT; split <;> simp [said, wd, Th.say]
  · unfold insT
    have := itoa_ne c.1
    split
    · simp [said, nm, Th.say]
      exact fun e => absurd e this
    · split <;> simp [said, nm, Th.say] <;> exact fun e => absurd e this
  · simp [hanT, said, wd, Th.say]

theorem saidF_ne {fs : List Fm} (h : fs ≠ []) : saidF fs ≠ [] := by
  cases fs with
  | nil => exact absurd rfl h
  | cons f r => simp [saidF, fnT]

theorem takes_front : ∀ {a b : List (List UInt8)} {fs f1 : List Fm} {last l1 : Nat}, takes (a ++ b) fs last = some (f1, l1) → ∃ f2 l2, takes a fs last = some (f2, l2)
  | [], b, fs, f1, last, l1, h => ⟨fs, last, rfl⟩
  | x :: r, b, fs, f1, last, l1, h => by
    rw [List.cons_append] at h
    unfold takes at h
    split at h
    · rename_i f' l' he
      obtain ⟨f2, l2, e⟩ := takes_front h
      exact ⟨f2, l2, by rw [takes_cons he]; exact e⟩
    · cases h

theorem linesP_app (a b : List (List UInt8)) : linesP (a ++ b) = linesP a ++ linesP b := by simp [linesP]

/-- Lines of code, and then what is no line. -/
theorem parseV_tail {ls : List (List UInt8)} {t : List UInt8} {f1 : List Fm} {l1 : Nat} (h : takes ls [] 0 = some (f1, l1)) (h10 : ∀ x ∈ ls, 10 ∉ x) (ht : t ≠ []) (ht10 : 10 ∉ t) : parseV (linesP ls ++ t) = ([], ls.length, 8) := by
  have hl := linesP_len ls
  have e : (linesP ls ++ t).length + 1 = ls.length + ((linesP ls ++ t).length - ls.length) + 1 := by simp only [List.length_append]; omega
  have p := parse_lines t ls ((linesP ls ++ t).length - ls.length + 1) [] f1 0 l1 0 h h10
  rw [parse_tail _ ht ht10, Nat.zero_add, ← Nat.add_assoc, ← e] at p
  unfold parseV
  rw [p]
  rfl

theorem parseV_cut {fs : List Fm} (h : (checkV fs).2.2 = 0) (hn : ∀ f ∈ fs, NumF f) : parseV ((textP fs).take ((textP fs).length - 1)) = ([], (saidF fs).length - 1, 8) ∧ 1 ≤ (saidF fs).length ∧ 1 ≤ (textP fs).length := by
  obtain ⟨l1, e⟩ := takes_text h hn
  have hne : saidF fs ≠ [] := saidF_ne (fun e => by have := check_len h; rw [e] at this; simp at this)
  have h10 := said10 fs
  have hx0 := said_ne fs
  have ht := linesP_said fs
  obtain ⟨init, x, hs⟩ : ∃ init x, saidF fs = init ++ [x] := ⟨(saidF fs).dropLast, (saidF fs).getLast hne, (List.dropLast_concat_getLast hne).symm⟩
  rw [hs] at e h10 hx0 ht ⊢
  obtain ⟨f2, l2, e2⟩ := takes_front e
  have hx := linesP_app init [x]
  have hlx : linesP [x] = x ++ [10] := by simp [linesP]
  rw [hlx, ← List.append_assoc] at hx
  rw [hx] at ht
  rw [← ht]
  refine ⟨?_, by simp, by simp; omega⟩
  have e3 : (linesP init ++ x ++ [10]).take ((linesP init ++ x ++ [10]).length - 1) = linesP init ++ x := by
    rw [List.length_append, List.length_singleton, Nat.add_sub_cancel, List.take_append_of_le_length (Nat.le_refl _), List.take_length]
  rw [e3, parseV_tail e2 (fun y hy => h10 y (by simp [hy])) (hx0 x (by simp)) (h10 x (by simp))]
  simp

theorem parseV_more {fs : List Fm} (h : (checkV fs).2.2 = 0) (hn : ∀ f ∈ fs, NumF f) {t : List UInt8} (ht : t ≠ []) (ht10 : 10 ∉ t) : parseV (textP fs ++ t) = ([], (saidF fs).length, 8) := by
  obtain ⟨l1, e⟩ := takes_text h hn
  have := parseV_tail e (said10 fs) ht ht10
  rwa [linesP_said] at this

theorem count_lines : ∀ {ls : List (List UInt8)}, (∀ x ∈ ls, 10 ∉ x) → (linesP ls).count 10 = ls.length
  | [], _ => by simp [linesP]
  | x :: ls, h => by
    have ih := count_lines (ls := ls) (fun y hy => h y (by simp [hy]))
    rw [linesP_cons, List.count_append, List.count_cons, ih, List.count_eq_zero_of_not_mem (h x (by simp))]
    simp

theorem count_text (fs : List Fm) : (textP fs).count 10 = (saidF fs).length := by
  rw [← linesP_said]
  exact count_lines (said10 fs)

end Lp

end Go.Proofs.YtnekcomkochmjaaGreatDoor

namespace Go.Proofs.YtnekcomkochmjaaGreatDoor
set_option linter.unusedVariables false
set_option linter.unusedSimpArgs false
open Go.RowKit

namespace Lp
open Lk

variable {w : World}

theorem rowOfBlock {α : Type} {f : α → List Value} {k : Nat} (hf : ∀ x, (f x).length = k) {W : World} {g : Nat} {t : TypeId} {l : List α} (h : W.heap[g]? = some (.cells (rowC f l).toArray t (0, 0))) : RowAt f k W (some ⟨g, 0, none⟩) l := by
  intro j x hj
  refine ⟨g, 0, rfl, (Array.getElem?_eq_some_iff.1 h).1, fun i u hu => ?_⟩
  have hi : i < k := by rw [← hf x]; exact (List.getElem?_eq_some_iff.1 hu).1
  rw [Nat.zero_add, cell_of_row W g _ _ _ _ h]
  have := rowC_get hf l j x [] hj i hi
  rw [List.append_nil] at this
  simp only [List.getElem?_toArray]
  rw [this]; exact hu

/-- The program of law10's alive. -/
def fA : Fm := ⟨⟨#[]⟩, 0, 0, [], [], [⟨2, 0⟩, ⟨28, 0⟩], [0, 3], []⟩

def textA : List UInt8 := [102, 110, 32, 34, 34, 32, 48, 32, 48, 10, 48, 32, 110, 105, 108, 10, 51, 32, 114, 101, 116, 117, 114, 110, 10]

def textB : List UInt8 := [102, 110, 32, 34, 34, 32, 48, 32, 48, 10, 48, 32, 110, 105, 108, 32, 49, 10]

theorem checkA : checkV [fA] = (0, 0, 0) := by decide +kernel

theorem itoa0 : Lib.itoa 0 = [48] := by simp [Lib.itoa, Lib.decDigits_one]

theorem itoa3 : Lib.itoa 3 = [51] := by simp [Lib.itoa, Lib.decDigits_one]

theorem textP_A : textP [fA] = textA := by
  simp [textP, fnP, fnT, headT, fA, insT, numb, lineP, said, Lk.more, Th.say, wd, tx, nm, quo, itoa0, itoa3, opsL, textA]

theorem numA : ∀ f ∈ [fA], NumF f := by
  intro f hf
  simp only [List.mem_cons, List.not_mem_nil, or_false] at hf
  subst hf
  have z : I64 0 := by constructor <;> decide
  have t : I64 3 := by constructor <;> decide
  refine ⟨z, z, by simp [fA], by simp [fA], ?_, ?_, by simp [fA]⟩
  · intro i hi
    simp only [fA, List.mem_cons, List.not_mem_nil, or_false] at hi
    rcases hi with rfl | rfl <;> exact z
  · intro i hi
    simp only [fA, List.mem_cons, List.not_mem_nil, or_false] at hi
    rcases hi with rfl | rfl
    · exact z
    · exact t

theorem fitA : ∀ f ∈ [fA], FitF f := by
  intro f hf
  simp only [List.mem_cons, List.not_mem_nil, or_false] at hf
  subst hf
  refine ⟨by simp [fA], ?_, by simp [fA, ByteArray.size]⟩
  intro i hi
  simp only [fA, List.mem_cons, List.not_mem_nil, or_false] at hi
  rcases hi with rfl | rfl <;> decide

theorem smallA : SmallP [fA] := by
  refine ⟨by simp, fun f hf => ?_⟩
  simp only [List.mem_cons, List.not_mem_nil, or_false] at hf
  subst hf
  exact ⟨by simp [fA], by simp [fA], by simp [fA], by simp [fA], by simp [fA]⟩

theorem textV_A : textV [fA] = (textA, 0) := by
  unfold textV
  rw [checkA, if_pos rfl, textP_A]

theorem parseV_A : parseV textA = ([fA], 0, 0) := by
  rw [← textP_A]
  exact parseV_text (by rw [checkA]) numA

theorem lineA : said (headT fA) = [102, 110, 32, 34, 34, 32, 48, 32, 48] := by
  simp [said, headT, fA, Lk.more, Th.say, wd, tx, nm, quo, itoa0]

theorem takeB : ∃ f1, takeP [headF fA] 1 [48, 32, 110, 105, 108, 32, 49] = some (f1, 4, false) := by
  have e1 := first_read (a := [48]) (r := [32, 110, 105, 108, 32, 49]) false (by decide) (.inr ⟨_, rfl⟩)
  have e2 := word_read (a := [110, 105, 108]) (r := [32, 49]) false (by decide) (.inr ⟨_, rfl⟩)
  have hn : numP [48] = (0, true) := by
    have := numP_itoa (v := 0) ⟨by decide, by decide⟩
    rwa [itoa0] at this
  have f1 : (lineOf [48, 32, 110, 105, 108, 32, 49]).first = [48] := e1.1
  have f2 : (lineOf [48, 32, 110, 105, 108, 32, 49]).behind = ⟨[32, 110, 105, 108, 32, 49], false⟩ := e1.2
  have w1 : (Ln.mk [32, 110, 105, 108, 32, 49] false).word = [110, 105, 108] := e2.1
  have w2 : (Ln.mk [32, 110, 105, 108, 32, 49] false).past = ⟨[32, 49], false⟩ := e2.2
  have hr : rowP [48] = 4 := by decide
  have hf : followP 4 1 = true := by decide
  have ho : (Ln.mk [32, 110, 105, 108, 32, 49] false).opV = 2 := by unfold Ln.opV; rw [w1]; decide
  have hd : (Ln.mk [32, 110, 105, 108, 32, 49] false).insd = ⟨[32, 49], false⟩ := by
    unfold Ln.insd Ln.opd
    rw [ho, w2]
    rfl
  have hl : (Ln.mk [32, 110, 105, 108, 32, 49] false).lined [48] = ⟨[32, 110, 105, 108, 32, 49], false⟩ := by
    unfold Ln.lined
    rw [hn]
    rfl
  unfold takeP
  rw [f1, f2, hr, hf, if_neg (by decide), if_neg (by decide)]
  have hq : (addP noFm 4 [48] (Ln.mk [32, 110, 105, 108, 32, 49] false)).2.right = false := by
    unfold addP
    rw [if_neg (by decide), if_neg (by decide), if_pos rfl, hl]
    simp only
    rw [hd]
    rfl
  rw [hq]
  exact ⟨_, rfl⟩

theorem parseV_B : parseV textB = ([], 1, 8) := by
  have h0 := takeP_head [] 0 (f := fA) (by constructor <;> decide) (by constructor <;> decide)
  rw [lineA] at h0
  obtain ⟨f1, h1⟩ := takeB
  have p : parseP (textB.length + 1) textB [] 0 0 = ([headF fA], 1, false) := by
    have e1 := parse_step (k := 0) 18 ([48, 32, 110, 105, 108, 32, 49] ++ 10 :: []) (by decide) h0
    have e2 := parse_no (k := 1) 17 [] (by decide) (.inr ⟨f1, 4, h1⟩)
    exact e1.trans e2
  unfold parseV
  rw [p]
  rfl

theorem rows_fns {base c : Nat} {p : Option Addr} {ts : List Ft} {l : List Fm} (hts : ts.map Ft.f = l) (h : RowsOn base w (allR (.slice p l.length c) ts)) : IsFns w p l := by
  have e : l.length = ts.length := by rw [← hts]; simp
  rw [e] at h
  rw [← hts]
  exact h.isFns

def cellA (W : World) : Obj := .cells #[.string ⟨#[]⟩, .int .i64 0, .int .i64 0, .slice none 0 0, .slice none 0 0, .slice (some ⟨W.heap.size, 0, none⟩) 2 2, .slice (some ⟨W.heap.size + 1, 0, none⟩) 2 2, .slice none 0 0] 45

/-- The program as alive lays it. -/
theorem madeA (W : World) : IsFns (((W.alloc (.cells #[.int .u8 2, .int .i64 0, .int .u8 28, .int .i64 0] 38)).alloc (.cells #[.int .i64 0, .int .i64 3] 3)).alloc (cellA W)) (some ⟨W.heap.size + 2, 0, none⟩) [fA] := by
  obtain ⟨W1, h1⟩ : ∃ W1, W1 = W.alloc (.cells #[.int .u8 2, .int .i64 0, .int .u8 28, .int .i64 0] 38) := ⟨_, rfl⟩
  obtain ⟨W2, h2⟩ : ∃ W2, W2 = W1.alloc (.cells #[.int .i64 0, .int .i64 3] 3) := ⟨_, rfl⟩
  have s1 : W1.heap.size = W.heap.size + 1 := by rw [h1]; simp
  have s2 : W2.heap.size = W.heap.size + 2 := by rw [h2]; simp [s1]
  have c1 := heap_alloc_new W (.cells #[.int .u8 2, .int .i64 0, .int .u8 28, .int .i64 0] 38)
  have c2 := heap_alloc_new W1 (.cells #[.int .i64 0, .int .i64 3] 3)
  have c3 := heap_alloc_new W2 (cellA W)
  have B1 := below1 W1 (.cells #[.int .i64 0, .int .i64 3] 3)
  have B2 := below1 W2 (cellA W)
  rw [← h1] at c1 ⊢
  rw [← h2] at c2 B1 ⊢
  rw [s1] at c2
  rw [s2] at c3
  have r1 : RowAt insC 2 W1 (some ⟨W.heap.size, 0, none⟩) fA.code := rowOfBlock (f := insC) (k := 2) (l := fA.code) (fun _ => rfl) c1
  have r2 : RowAt linC 1 W2 (some ⟨W.heap.size + 1, 0, none⟩) fA.lines := rowOfBlock (f := linC) (k := 1) (l := fA.lines) (fun _ => rfl) c2
  intro j f hj
  match j, hj with
  | 0, hj =>
    simp at hj
    subst hj
    refine ⟨W.heap.size + 2, 0, ⟨none, 0, none, 0, some ⟨W.heap.size, 0, none⟩, 2, some ⟨W.heap.size + 1, 0, none⟩, 2, none, 0⟩, rfl, by have := B2.size; have := (Array.getElem?_eq_some_iff.1 c3).1; exact this, ?_, ⟨RowAt.nil _ _ _ _, RowAt.nil _ _ _ _, (r1.below B1).below B2, r2.below B2, RowAt.nil _ _ _ _⟩⟩
    intro i u hu
    rw [Nat.zero_mul, Nat.zero_add, cell_of_row _ _ _ _ _ _ c3]
    simp only [List.getElem?_toArray]
    exact hu
  | j + 1, hj => simp at hj

set_option maxRecDepth 20000 in
set_option maxHeartbeats 4000000 in
theorem alive_in (he : ErrT w) (tab : Tab w) (hw : WordsT w) (ht : RowsT w) :
    Calls Tryz.prog 7 #[] w fun e w' => e = .returned (.bool true) ∧ Below w.heap.size w w' := by
  have HA : IsFns (((w.alloc (.cells #[.int .u8 2, .int .i64 0, .int .u8 28, .int .i64 0] 38)).alloc (.cells #[.int .i64 0, .int .i64 3] 3)).alloc (cellA w)) (some ⟨w.heap.size + 1 + 1, 0, none⟩) [fA] := madeA w
  have BA := (below2' w (.cells #[.int .u8 2, .int .i64 0, .int .u8 28, .int .i64 0] 38) (.cells #[.int .i64 0, .int .i64 3] 3))
  have BA3 := BA.alloc BA.size (cellA w)
  have T1 := fun (W : World) (h : IsFns W (some ⟨w.heap.size + 1 + 1, 0, none⟩) [fA]) (hW : Below w.heap.size w W) => Lk.text_in 1 h smallA fitA numA (by decide +kernel) (ht.below hW) (tab.below hW) (hw.below hW)
  have T2 := fun (W : World) (hW : Below w.heap.size w W) => Lk.text_in (p := none) (fs := []) 0 (w := W) (by intro j f hj; simp at hj) ⟨by simp, by simp⟩ (by simp) (by simp) (by decide) (ht.below hW) (tab.below hW) (hw.below hW)
  have P1 := fun (W : World) (hW : Below w.heap.size w W) => parse_in textA (by decide) (by decide) (he.below hW) (tab.below hW) (hw.below hW) (ht.below hW)
  have P2 := fun (W : World) (hW : Below w.heap.size w W) => parse_in textB (by decide) (by decide) (he.below hW) (tab.below hW) (hw.below hW) (ht.below hW)
  have S1 := fun (W : World) (p : Option Addr) (c : Nat) (h1 : IsFns W (some ⟨w.heap.size + 1 + 1, 0, none⟩) [fA]) (h2 : IsFns W p [fA]) => known (sameProgram_in 1 c h1 h2 (by simp) smallA.fns) true (by simp)
  rw [textV_A] at T1
  rw [parseV_A] at P1
  rw [parseV_B] at P2
  have hV2 : textV [] = ([], 8) := rfl
  rw [hV2] at T2
  simp only [List.length_cons, List.length_nil, Nat.zero_add] at T1 P1 S1 T2
  have q1 : ((bs textA).toList == ([102, 110, 32, 34, 34, 32, 48, 32, 48, 10, 48, 32, 110, 105, 108, 10, 51, 32, 114, 101, 116, 117, 114, 110, 10] : List UInt8)) = true := by rw [bs_toList]; decide
  have eB : bs textB = ⟨#[102, 110, 32, 34, 34, 32, 48, 32, 48, 10, 48, 32, 110, 105, 108, 32, 49, 10]⟩ := rfl
  rw [eB] at P2
  unfold cellA at HA BA3
  clear he tab hw ht BA eB
  go_enter Tryz.func7, Tryz.ntmps7
  go_wp2_with (first
    | (go_at_call 9; (with_reducible refine (T1 _ HA BA3).mono ?_); clear T1; rintro e w1 ⟨rfl, hB1⟩; have k1 := BA3.trans (hB1.mono BA3.size); have HA1 := IsFns.below HA hB1)
    | (go_at_call 11; (with_reducible refine (P1 _ k1).mono ?_); clear P1; rintro e w2 ⟨p, c, ts, rfl, hts, hrow, hB2⟩; have k2 := k1.trans (hB2.mono k1.size); have HA2 := IsFns.below HA1 hB2; have HQ2 := rows_fns hts hrow)
    | (go_at_call 11; (with_reducible refine (P2 _ k2).mono ?_); clear P2; rintro e w3 ⟨p3, c3, ts3, rfl, hts3, hrow3, hB3⟩; have k3 := k2.trans (hB3.mono k2.size); have HA3 := IsFns.below HA2 hB3; have HQ3 := IsFns.below HQ2 hB3)
    | (go_at_call 9; (with_reducible refine (T2 _ k3).mono ?_); clear T2; rintro e w4 ⟨rfl, hB4⟩; have k4 := k3.trans (hB4.mono k3.size); have HA4 := IsFns.below HA3 hB4; have HQ4 := IsFns.below HQ3 hB4)
    | (go_at_call 12; (with_reducible refine (S1 _ _ c HA4 HQ4).mono ?_); rintro e w5 ⟨rfl, hB5⟩; have k5 := k4.trans (hB5.mono k4.size)))
  go_ret
  exact ⟨rfl, k5⟩

end Lp

end Go.Proofs.YtnekcomkochmjaaGreatDoor
