/- Names and lines make no difference to Check, plainly. -/
import Derived.Test.YtpjgdbeekmoedaaDoorVfMath
import Derived.Test.YtpjgdbeekmoedaaDoorVfFns
import Derived.Test.YtpjgdbeekmoedaaDoorVfRow
namespace Go.Proofs.YtpjgdbeekmoedaaDoor
set_option linter.unusedVariables false
set_option linter.unusedSimpArgs false

/-- A function without its name, all its lines 0. -/
def strip (f : Fm) : Fm := { f with name := ⟨#[]⟩, lines := List.replicate f.lines.length 0 }

/-- A name that may be, lines that may be. -/
def Named (f : Fm) : Prop := f.name.size ≤ 4096 ∧ ∀ n ∈ f.lines, 0 ≤ n

theorem strip_head {f : Fm} (h : Named f) (main : Bool) : headP (strip f) main = headP f main := by
  have h1 : f.lines.all (fun n => decide (0 ≤ n)) = true := by rw [List.all_eq_true]; intro n hn; simpa using h.2 n hn
  have h2 : (strip f).lines.all (fun n => decide (0 ≤ n)) = true := by
    rw [List.all_eq_true]
    intro n hn
    have := List.eq_of_mem_replicate hn
    simp [this]
  have h3 : (strip f).lines.length = f.lines.length := by simp [strip]
  have h4 : (strip f).name.size ≤ 4096 := by simp [strip, ByteArray.size]
  unfold headP
  rw [h1, h2, h3]
  have e : (decide ((strip f).name.size ≤ 4096 ∧ 0 ≤ (strip f).params ∧ (strip f).params ≤ (strip f).locals ∧ (strip f).locals ≤ 64 ∧ (main = true → (strip f).params ≤ 0 ∧ (strip f).caps.length = 0) ∧ (strip f).caps.length ≤ 4096 ∧ (strip f).consts.length ≤ 16384 ∧ (strip f).hs.length ≤ 16384 ∧ 1 ≤ (strip f).code.length ∧ (strip f).code.length ≤ 16384 ∧ f.lines.length = (strip f).code.length)) = (decide (f.name.size ≤ 4096 ∧ 0 ≤ f.params ∧ f.params ≤ f.locals ∧ f.locals ≤ 64 ∧ (main = true → f.params ≤ 0 ∧ f.caps.length = 0) ∧ f.caps.length ≤ 4096 ∧ f.consts.length ≤ 16384 ∧ f.hs.length ≤ 16384 ∧ 1 ≤ f.code.length ∧ f.code.length ≤ 16384 ∧ f.lines.length = f.code.length)) := by
    rw [decide_eq_decide]
    exact ⟨fun ⟨_, r⟩ => ⟨h.1, r⟩, fun ⟨_, r⟩ => ⟨h4, r⟩⟩
  rw [e]
  rfl

theorem strip_ins (fs : List Fm) (fn : Nat) (f : Fm) (mk : List Int) (pc : Nat) (i : In) : insP (fs.map strip) fn (strip f) mk pc i = insP fs fn f mk pc i := by
  unfold insP
  rw [List.length_map, List.getElem?_map]
  have e1 : numberP fs.length (strip f) pc i = numberP fs.length f pc i := rfl
  have e2 : (strip f).code = f.code := rfl
  rw [e1, e2]
  cases fs[i.a.toNat]? with
  | none => rfl
  | some made => rfl

theorem strip_code (fs : List Fm) (fn : Nat) (f : Fm) : ∀ (r : List In) (pc : Nat) (mk : List Int), codeP (fs.map strip) fn (strip f) r pc mk = codeP fs fn f r pc mk
  | [], _, _ => rfl
  | i :: r, pc, mk => by
    simp only [codeP, strip_ins]
    rw [strip_code fs fn f r]

theorem strip_run (f : Fm) : ∀ (n : Nat) (told : List Int) (taken : List Bool), runP (strip f) n told taken = runP f n told taken
  | 0, _, _ => rfl
  | n + 1, told, taken => by
    simp only [runP]
    have e1 : (strip f).code = f.code := rfl
    rw [e1]
    cases leastP told taken f.code.length 0 with
    | none => rfl
    | some pc =>
      have e2 : stepP (strip f) told pc = stepP f told pc := rfl
      simp only [e2]
      cases stepP f told pc with
      | none => rfl
      | some t => exact strip_run f n t _

theorem strip_depths (f : Fm) : depthsP (strip f) = depthsP f := strip_run f _ _ _

theorem strip_fns (fs : List Fm) : ∀ (r : List Fm) (fn : Nat) (mk : List Int), (∀ f ∈ r, Named f) → fnsP (fs.map strip) (r.map strip) fn mk = fnsP fs r fn mk
  | [], _, _, _ => rfl
  | f :: r, fn, mk, h => by
    simp only [List.map_cons, fnsP]
    rw [strip_head (h f (by simp)), show (strip f).code = f.code from rfl, strip_code, strip_depths]
    cases headP f (decide (fn = 0)) with
    | false => rfl
    | true =>
      simp only [if_true]
      cases codeP fs fn f f.code 0 mk with
      | mk a b =>
        cases a with
        | some pc => rfl
        | none =>
          cases depthsP f with
          | error pc => rfl
          | ok told => exact strip_fns fs r (fn + 1) b (fun g hg => h g (by simp [hg]))

theorem strip_lone : ∀ (r : List Fm) (fn : Nat) (mk : List Int), loneP (r.map strip) fn mk = loneP r fn mk
  | [], _, _ => rfl
  | f :: r, fn, mk => by
    simp only [List.map_cons, loneP]
    rw [strip_lone r]
    rfl

theorem strip_check (fs : List Fm) (h : ∀ f ∈ fs, Named f) : checkV (fs.map strip) = checkV fs := by
  unfold checkV
  rw [List.length_map, strip_fns fs fs 0 _ h]
  simp only [strip_lone]

end Go.Proofs.YtpjgdbeekmoedaaDoor

namespace Go.Proofs.YtpjgdbeekmoedaaDoor
set_option linter.unusedVariables false
set_option linter.unusedSimpArgs false
open Go.RowKit

variable {w : World}

/-- A cell of a row of one's own is written. -/
theorem ownsRow_set {w : World} {base T k n c g : Nat} {xs : List Value} (h : w.ownsRow base T k (.slice (some ⟨g, 0, none⟩) n c) n xs) {j : Nat} (hj : j < n * k) (v : Value) (hv : v.oneCell' = true) : (w.setCell ⟨g, j, none⟩ v).ownsRow base T k (.slice (some ⟨g, 0, none⟩) n c) n (xs.set j v) := by
  rcases h.2 with ⟨e, _⟩ | ⟨g', cap, cur, e, hb, hg, h1, hm, h2, h3⟩
  · simp at e
  · simp at e
    obtain ⟨rfl, rfl⟩ := e
    have hs := heap_setCell_same w g j _ _ v hg
    refine ⟨by simpa using h.1, .inr ⟨g, c, _, rfl, hb, hs, h1, hm, by simpa using h2, ?_⟩⟩
    rw [← h3]
    simp [List.take_set]

theorem rowC_set {α : Type} {f : α → List Value} {k : Nat} (hf : ∀ x, (f x).length = k) : ∀ (l : List α) (j : Nat) (x : α) (i : Nat) (v : Value) (y : α) (t : List Value), l[j]? = some x → i < k → f y = (f x).set i v → (rowC f l ++ t).set (j * k + i) v = rowC f (l.set j y) ++ t
  | [], j, x, i, v, y, t, h, _, _ => by simp at h
  | u :: r, 0, x, i, v, y, t, h, hi, hy => by
    simp at h
    subst h
    simp only [rowC, List.set_cons_zero, List.append_assoc, Nat.zero_mul, Nat.zero_add]
    rw [List.set_append_left _ _ (by rw [hf]; exact hi), hy]
  | u :: r, j + 1, x, i, v, y, t, h, hi, hy => by
    have := rowC_set hf r j x i v y t (by simpa using h) hi hy
    simp only [rowC, List.set_cons_succ, List.append_assoc]
    have e : (j + 1) * k + i = k + (j * k + i) := by rw [Nat.add_mul]; omega
    rw [e, List.set_append_right _ _ (by rw [hf]; omega), hf, show k + (j * k + i) - k = j * k + i by omega, this]

/-- The line k of the copied function i is 0 now. -/
def zeroLine (x : Ft) (k : Nat) : Ft := ⟨{ x.f with lines := x.f.lines.set k 0 }, x.s⟩

def noName (x : Ft) : Ft := ⟨{ x.f with name := ⟨#[]⟩ }, x.s⟩

/-- A copied function stays where one block is written that is not its lines'. -/
theorem TwFn.kept' {base : Nat} {f : Fm} {s : Fs} (h : TwFn base f s w) {w' : World} (g : Nat) (hk : ∀ gg, gg ≠ g → w'.heap[gg]? = w.heap[gg]?) (hl : s.ql ≠ some ⟨g, 0, none⟩) (ht : ∀ cur t, w.heap[g]? = some (.cells cur t (0, 0)) → t = 3) : TwFn base f s w' := by
  obtain ⟨⟨g0, e0, h0⟩, ⟨g1, e1, h1⟩, ⟨g2, e2, h2⟩, ⟨g3, e3, h3⟩, ⟨g4, e4, h4⟩⟩ := h
  have oth : ∀ {gg : Nat} {cur : Array Value} {t : TypeId}, w.heap[gg]? = some (.cells cur t (0, 0)) → t ≠ 3 → w'.heap[gg]? = w.heap[gg]? := fun {gg cur t} hc hn => hk gg (fun e => by subst e; exact hn (ht _ _ hc))
  refine ⟨⟨g0, e0, h0.kept ?_⟩, ⟨g1, e1, h1.kept ?_⟩, ⟨g2, e2, h2.kept ?_⟩, ⟨g3, e3, h3.kept (hk g3 (fun e => hl (by rw [e3, e])))⟩, ⟨g4, e4, h4.kept ?_⟩⟩
  · obtain ⟨cur, hc⟩ := h0.obj; exact oth hc (by decide)
  · obtain ⟨cur, hc⟩ := h1.obj; exact oth hc (by decide)
  · obtain ⟨cur, hc⟩ := h2.obj; exact oth hc (by decide)
  · obtain ⟨cur, hc⟩ := h4.obj; exact oth hc (by decide)

theorem TwFns.zero {base G C : Nat} {ts : List Ft} (h : TwFns base G C ts w) {i k g : Nat} {x : Ft} (hx : ts[i]? = some x) (hk : k < x.f.lines.length) (hg : x.s.ql = some ⟨g, 0, none⟩) : TwFns base G C (ts.set i (zeroLine x k)) (w.setCell ⟨g, k, none⟩ (.int .i64 0)) := by
  have hxm := List.mem_of_getElem? hx
  obtain ⟨g', hg', htl⟩ := (h.fns x hxm).lines
  rw [hg] at hg'
  simp at hg'
  subst hg'
  obtain ⟨cl, hcl⟩ := htl.obj
  obtain ⟨cG, hcG⟩ := h.row.obj
  have hgG : G ≠ g := fun e => by rw [e, hcl] at hcG; simp at hcG
  have hilt := (List.getElem?_eq_some_iff.1 hx).1
  refine ⟨?_, ?_, ?_⟩
  · have e : rowC ftC (ts.set i (zeroLine x k)) = rowC ftC ts := by
      have hfe : ftC (zeroLine x k) = ftC x := by simp [ftC, zeroLine, fnC]
      clear h hcG hxm
      induction ts generalizing i with
      | nil => rfl
      | cons u r ih =>
        cases i with
        | zero => simp at hx; subst hx; simp [rowC, hfe]
        | succ i => simp only [List.set_cons_succ, rowC]; rw [ih (by simpa using hx) (by simpa using hilt)]
    have hr := h.row.kept (w' := w.setCell ⟨g, k, none⟩ (.int .i64 0)) (heap_setCell_other w ⟨g, k, none⟩ G _ hgG)
    unfold Twin at hr ⊢
    rw [e, List.length_set]
    exact hr
  · intro y hy
    obtain ⟨j, hj⟩ := List.mem_iff_getElem?.1 hy
    by_cases e : j = i
    · subst e
      rw [List.getElem?_set_self hilt] at hj
      simp at hj
      subst hj
      obtain ⟨⟨g0, e0, h0⟩, ⟨g1, e1, h1⟩, ⟨g2, e2, h2⟩, _, ⟨g4, e4, h4⟩⟩ := h.fns x hxm
      have oth : ∀ {gg : Nat} {cur : Array Value} {t : TypeId}, w.heap[gg]? = some (.cells cur t (0, 0)) → t ≠ 3 → (w.setCell ⟨g, k, none⟩ (.int .i64 0)).heap[gg]? = w.heap[gg]? := fun {gg cur t} hc ht => heap_setCell_other w ⟨g, k, none⟩ gg _ (fun e => by subst e; rw [hcl] at hc; cases hc; exact ht rfl)
      refine ⟨⟨g0, e0, h0.kept ?_⟩, ⟨g1, e1, h1.kept ?_⟩, ⟨g2, e2, h2.kept ?_⟩, ⟨g, hg, ?_⟩, ⟨g4, e4, h4.kept ?_⟩⟩
      · obtain ⟨cur, hc⟩ := h0.obj; exact oth hc (by decide)
      · obtain ⟨cur, hc⟩ := h1.obj; exact oth hc (by decide)
      · obtain ⟨cur, hc⟩ := h2.obj; exact oth hc (by decide)
      · have hs := ownsRow_set (show w.ownsRow base 3 1 (.slice (some ⟨g, 0, none⟩) (x.f.lines.length + 1) x.s.cl) (x.f.lines.length + 1) (rowC linC x.f.lines ++ spInts) from htl) (j := k) (by omega) (.int .i64 0) rfl
        obtain ⟨y0, hy0⟩ : ∃ y0, x.f.lines[k]? = some y0 := ⟨x.f.lines[k], by simp⟩
        have hrc := rowC_set linC_len x.f.lines k y0 0 (.int .i64 0) 0 spInts hy0 (by omega) rfl
        simp only [Nat.mul_one, Nat.add_zero] at hrc
        rw [hrc] at hs
        show World.ownsRow _ _ _ _ _ _ _
        simpa [zeroLine] using hs
      · obtain ⟨cur, hc⟩ := h4.obj; exact oth hc (by decide)
    · rw [List.getElem?_set_ne (by omega)] at hj
      refine (h.fns y (List.mem_of_getElem? hj)).kept' g (fun gg hgg => heap_setCell_other w ⟨g, k, none⟩ gg _ hgg) ?_ (fun cur t hc => by rw [hcl] at hc; cases hc; rfl)
      · intro hyg
        have hd := List.pairwise_iff_getElem.1 h.dist
        have hjlt := (List.getElem?_eq_some_iff.1 hj).1
        have ex : ts[i] = x := (List.getElem?_eq_some_iff.1 hx).2
        have ey : ts[j] = y := (List.getElem?_eq_some_iff.1 hj).2
        rcases Nat.lt_or_gt_of_ne e with hlt | hlt
        · have := hd j i hjlt hilt hlt
          rw [ex, ey] at this
          exact this (by rw [hyg, hg])
        · have := hd i j hilt hjlt hlt
          rw [ex, ey] at this
          exact this (by rw [hyg, hg])
  · have hd := h.dist
    rw [List.pairwise_iff_getElem] at hd ⊢
    intro a b ha hb hab
    simp only [List.length_set] at ha hb
    have ql : ∀ (j : Nat) (hj : j < ts.length), ((ts.set i (zeroLine x k))[j]'(by simpa using hj)).s.ql = ts[j].s.ql := fun j hj => by
      by_cases e : j = i
      · subst e
        rw [List.getElem_set_self]
        have ex : ts[j] = x := (List.getElem?_eq_some_iff.1 hx).2
        rw [ex]; rfl
      · rw [List.getElem_set_ne (by omega)]
    rw [ql a ha, ql b hb]
    exact hd a b ha hb hab

theorem TwFns.named {base G C : Nat} {ts : List Ft} (h : TwFns base G C ts w) {i : Nat} {x : Ft} (hx : ts[i]? = some x) : TwFns base G C (ts.set i (noName x)) (w.setCell ⟨G, i * 8, none⟩ (.string ⟨#[]⟩)) := by
  have hxm := List.mem_of_getElem? hx
  have hilt := (List.getElem?_eq_some_iff.1 hx).1
  obtain ⟨cG, hcG⟩ := h.row.obj
  have keep : ∀ {y : Ft}, TwFn base y.f y.s w → TwFn base y.f y.s (w.setCell ⟨G, i * 8, none⟩ (.string ⟨#[]⟩)) := fun {y} hy =>
    hy.kept (fun g cur t _ hc ht => heap_setCell_other w ⟨G, i * 8, none⟩ g _ (fun e => by subst e; rw [hcG] at hc; cases hc; exact ht rfl))
  refine ⟨?_, ?_, ?_⟩
  · have hs := ownsRow_set (show w.ownsRow base 40 8 (.slice (some ⟨G, 0, none⟩) (ts.length + 1) C) (ts.length + 1) (rowC ftC ts ++ spFn) from h.row) (j := i * 8) (by omega) (.string ⟨#[]⟩) rfl
    have hrc := rowC_set ftC_len ts i x 0 (.string ⟨#[]⟩) (noName x) spFn hx (by omega) rfl
    rw [Nat.add_zero] at hrc
    rw [hrc] at hs
    show World.ownsRow _ _ _ _ _ _ _
    rw [List.length_set]
    exact hs
  · intro y hy
    rcases List.mem_or_eq_of_mem_set hy with h1 | h1
    · exact keep (h.fns y h1)
    · subst h1
      have := keep (h.fns x hxm)
      exact ⟨this.caps, this.consts, this.code, this.lines, this.hs⟩
  · have hd := h.dist
    rw [List.pairwise_iff_getElem] at hd ⊢
    intro a b ha hb hab
    simp only [List.length_set] at ha hb
    have ql : ∀ (j : Nat) (hj : j < ts.length), ((ts.set i (noName x))[j]'(by simpa using hj)).s.ql = ts[j].s.ql := fun j hj => by
      by_cases e : j = i
      · subst e
        rw [List.getElem_set_self]
        have ex : ts[j] = x := (List.getElem?_eq_some_iff.1 hx).2
        rw [ex]; rfl
      · rw [List.getElem_set_ne (by omega)]
    rw [ql a ha, ql b hb]
    exact hd a b ha hb hab

end Go.Proofs.YtpjgdbeekmoedaaDoor
