/- law09's alive: programs of one function. -/
import Derived.Test.YtpjgdbeekmoedaaDoorVfProg
import Derived.Test.YtpjgdbeekmoedaaDoorVfNames
import Derived.Test.YtpjgdbeekmoedaaDoorVfGreat
namespace Go.Proofs.YtpjgdbeekmoedaaDoor
set_option linter.unusedVariables false
set_option linter.unusedSimpArgs false
open Go.RowKit

variable {w : World}

theorem row_of_block {α : Type} {f : α → List Value} {k : Nat} (hf : ∀ x, (f x).length = k) {W : World} {g : Nat} {t : TypeId} {l : List α} (h : W.heap[g]? = some (.cells (rowC f l).toArray t (0, 0))) : RowAt f k W (some ⟨g, 0, none⟩) l := by
  intro j x hj
  refine ⟨g, 0, rfl, (Array.getElem?_eq_some_iff.1 h).1, fun i u hu => ?_⟩
  have hi : i < k := by rw [← hf x]; exact (List.getElem?_eq_some_iff.1 hu).1
  rw [Nat.zero_add, cell_of_row W g _ _ _ _ h]
  have := rowC_get hf l j x [] hj i hi
  rw [List.append_nil] at this
  simp only [List.getElem?_toArray]
  rw [this]; exact hu

theorem NumRow.rowAt {base g c : Nat} {l : List Int} (h : NumRow base g c l w) : RowAt linC 1 w (some ⟨g, 0, none⟩) l := by
  intro j x hj
  refine ⟨g, 0, rfl, h.lt.2, fun i u hu => ?_⟩
  have hi : i < 1 := (List.getElem?_eq_some_iff.1 hu).1
  obtain rfl : i = 0 := by omega
  simp [linC] at hu
  subst hu
  have := h.at hj
  simpa using this

/-- A function of code alone. -/
def oneF (l : List In) : Fm := ⟨⟨#[]⟩, 0, 0, [], [], l, List.replicate l.length 0, []⟩

theorem madeI (n : Nat) : (madeCells #[Value.int .i64 0] (n * 1)).toList = (List.replicate n (0 : Int)).map iv := by
  apply List.ext_getElem?
  intro j
  by_cases hj : j < n
  · simp [madeCells, hj, Nat.mod_one, iv]
  · simp [madeCells, hj]

set_option maxRecDepth 20000 in
set_option maxHeartbeats 2000000 in
theorem one_in {q : Option Addr} {l : List In} (c : Nat) (hv : RowAt insC 2 w q l) (hl : l.length ≤ 1000) :
    Calls Tryd.prog 21 #[.slice q l.length c] w fun e w' => ∃ g, e = .returned (.slice (some ⟨g, 0, none⟩) 1 1) ∧ IsFns w' (some ⟨g, 0, none⟩) [oneF l] ∧ Below w.heap.size w w' := by
  obtain ⟨i1, hj0, hy0, hy1, hy2⟩ := info_parts infoInts
  have HV : Hid _ := hv
  clear hv
  go_enter Tryd.func21, Tryd.ntmps21
  go_wp2_with (first
    | (at_make; refine wpList_make_full _ rfl _ _ 32 rfl w.heap.size 3 i1 (.int .i64 0) 1 Tryd.underlying32 hj0 hy0 hy1 .i64 .i64 _ _ l.length rfl rfl rfl rfl (by rw [hy2]; omega) (by unfold maxLen; omega) (Nat.le_refl _) ?_; intro w1 hown1 hgrow1))
  go_ret
  rw [show (Value.int IntKind.i64 0).cells = #[Value.int .i64 0] from rfl, madeI] at hown1
  have hB1 : Below w.heap.size w w1 := rbelow_grown hgrow1 (fun q e => by cases e) (Nat.le_refl _)
  have hrow : NumRow w.heap.size w.heap.size l.length (List.replicate l.length 0) w1 := by
    show w1.ownsRow _ _ _ _ _ _
    simpa using hown1
  refine ⟨w1.heap.size, rfl, ?_, hB1.alloc hB1.size _⟩
  have hnew := heap_alloc_new w1 (.cells #[.string ⟨#[]⟩, .int .i64 0, .int .i64 0, .slice none 0 0, .slice none 0 0, .slice q l.length c, .slice (some ⟨w.heap.size, 0, none⟩) l.length l.length, .slice none 0 0] 40)
  have hb := below1 w1 (.cells #[.string ⟨#[]⟩, .int .i64 0, .int .i64 0, .slice none 0 0, .slice none 0 0, .slice q l.length c, .slice (some ⟨w.heap.size, 0, none⟩) l.length l.length, .slice none 0 0] 40)
  intro j f hj
  match j, hj with
  | 0, hj =>
    simp at hj
    subst hj
    refine ⟨w1.heap.size, 0, ⟨none, 0, none, 0, q, c, some ⟨w.heap.size, 0, none⟩, l.length, none, 0⟩, rfl, by simp, ?_, ⟨RowAt.nil _ _ _ _, RowAt.nil _ _ _ _, (RowAt.below HV.out hB1).below hb, hrow.rowAt.below hb, RowAt.nil _ _ _ _⟩⟩
    intro i u hu
    rw [Nat.zero_mul, Nat.zero_add, cell_of_row _ _ _ _ _ _ hnew]
    have : fnC (oneF l) ⟨none, 0, none, 0, q, c, some ⟨w.heap.size, 0, none⟩, l.length, none, 0⟩ = [.string ⟨#[]⟩, .int .i64 0, .int .i64 0, .slice none 0 0, .slice none 0 0, .slice q l.length c, .slice (some ⟨w.heap.size, 0, none⟩) l.length l.length, .slice none 0 0] := by simp [fnC, oneF]
    rw [this] at hu
    simpa using hu

set_option maxRecDepth 20000 in
set_option maxHeartbeats 2000000 in
theorem sameInts_yes {p q : Option Addr} {l : List Int} (c d : Nat) (h1 : RowAt linC 1 w p l) (h2 : RowAt linC 1 w q l) (hl : l.length ≤ 1048576) :
    Calls Tryd.prog 22 #[.slice p l.length c, .slice q l.length d] w fun e w' => e = .returned (.bool true) ∧ Below w.heap.size w w' := by
  go_enter Tryd.func22, Tryd.ntmps22
  go_wp2
  go_loopw [5] (fun k wr => ∃ j : Nat, k = .int .i64 j ∧ j ≤ l.length ∧ Below w.heap.size w wr) (fun k _ => l.length - (intOf k).toNat)
  case atStart => exact ⟨0, rfl, by omega, Below.refl _ _⟩
  case round =>
    obtain ⟨j, rfl, hj, hB⟩ := hrel
    by_cases hjn : j < l.length
    · obtain ⟨x, hx⟩ : ∃ x, l[j]? = some x := ⟨l[j], by simp⟩
      obtain ⟨b0, off, rfl, c0⟩ := h1.lookL hB hx
      obtain ⟨b1, of1, rfl, c1⟩ := h2.lookL hB hx
      have hjn' : (j : Int) < (l.length : Int) := by omega
      clear hx
      go_wp2
      go_region
      go_wp2
      go_roundw
      case rel => exact ⟨j + 1, by simp, by omega, below_drew hB⟩
      case measure => simp [intOf]; omega
    · have hjn' : ¬ ((j : Int) < (l.length : Int)) := by omega
      go_wp2
      go_ret
      exact ⟨rfl, hB⟩

def codeY : List In := [⟨3, 0⟩, ⟨20, 3⟩, ⟨21, 0⟩, ⟨2, 0⟩, ⟨28, 0⟩]

def codeN : List In := [⟨2, 0⟩, ⟨2, 0⟩, ⟨20, 4⟩, ⟨12, 0⟩, ⟨2, 0⟩, ⟨28, 0⟩]

theorem checkY : checkV [oneF codeY] = (0, 0, 0) := by decide +kernel

theorem checkN : checkV [oneF codeN] = (0, 3, 8) := by decide +kernel

theorem depthsP_Y : depthsP (oneF codeY) = .ok [0, 1, 0, 0, 1] := by rfl

theorem depthsY0 : depthsV [oneF codeY] 0 = .ok [0, 1, 0, 0, 1] := by
  unfold depthsV
  rw [checkY]
  rfl

theorem depthsY1 : depthsV [oneF codeY] 1 = .error 1 := by
  unfold depthsV
  rw [checkY]
  rfl

theorem fitOne {l : List In} (h : ∀ i ∈ l, i.op < 256) : ∀ f ∈ [oneF l], FitF f := by
  intro f hf
  simp at hf
  subst hf
  exact ⟨by simp [oneF], h, by simp [oneF, ByteArray.size]⟩

theorem smallOne {l : List In} (h : l.length ≤ 1000) : SmallP [oneF l] := by
  refine ⟨by simp, fun f hf => ?_⟩
  simp at hf
  subst hf
  exact ⟨by simp [oneF], by simp [oneF], by simp [oneF]; omega, by simp [oneF]; omega, by simp [oneF]⟩

end Go.Proofs.YtpjgdbeekmoedaaDoor

namespace Go.Proofs.YtpjgdbeekmoedaaDoor
set_option linter.unusedVariables false
set_option linter.unusedSimpArgs false
open Go.RowKit

variable {w : World}

theorem good0 {w' : World} {base : Nat} {e : Ending} (h : DepthsR [oneF codeY] 0 base e w') : ∃ g c, e = .returned (.tuple #[.slice (some ⟨g, 0, none⟩) 5 c, .int .i64 0]) ∧ NumRow base g c [0, 1, 0, 0, 1] w' := by
  unfold DepthsR at h
  rw [depthsY0] at h
  exact h

theorem good1 {w' : World} {base : Nat} {e : Ending} (h : DepthsR [oneF codeY] 1 base e w') : e = .returned (.tuple #[.slice none 0 0, .int .i64 1]) := by
  unfold DepthsR at h
  rw [depthsY1] at h
  exact h

set_option maxRecDepth 20000 in
set_option maxHeartbeats 4000000 in
theorem alive_in (w : World) (ht : RowsT w) : Calls Tryd.prog 11 #[] w fun e w' => e = .returned (.bool true) ∧ Below w.heap.size w w' := by
  have HT : Hid (RowsT w) := ht
  clear ht
  have HO := fun (W : World) (q : Option Addr) (l : List In) (c : Nat) (h : RowAt insC 2 W q l) (hl : l.length ≤ 1000) => one_in (w := W) c h hl
  have HCY := fun (W : World) (g : Nat) (h : IsFns W (some ⟨g, 0, none⟩) [oneF codeY]) (hW : Below w.heap.size w W) => pcheck_in (w := W) 1 h (smallOne (by decide)) (fitOne (by decide)) (HT.out.below hW)
  have HCN := fun (W : World) (g : Nat) (h : IsFns W (some ⟨g, 0, none⟩) [oneF codeN]) (hW : Below w.heap.size w W) => pcheck_in (w := W) 1 h (smallOne (by decide)) (fitOne (by decide)) (HT.out.below hW)
  have HD0 := fun (W : World) (g : Nat) (h : IsFns W (some ⟨g, 0, none⟩) [oneF codeY]) (hW : Below w.heap.size w W) => (pdepths_in (w := W) 1 0 h (smallOne (by decide)) (fitOne (by decide)) (HT.out.below hW)).mono (R' := fun e w' => ∃ g c, e = .returned (.tuple #[.slice (some ⟨g, 0, none⟩) 5 c, .int .i64 0]) ∧ NumRow W.heap.size g c [0, 1, 0, 0, 1] w' ∧ Below W.heap.size W w') (fun e w' hh => by obtain ⟨g, c, h1, h2⟩ := good0 hh.1; exact ⟨g, c, h1, h2, hh.2⟩)
  have HD1 := fun (W : World) (g : Nat) (h : IsFns W (some ⟨g, 0, none⟩) [oneF codeY]) (hW : Below w.heap.size w W) => (pdepths_in (w := W) 1 1 h (smallOne (by decide)) (fitOne (by decide)) (HT.out.below hW)).mono (R' := fun e w' => e = .returned (.tuple #[.slice none 0 0, .int .i64 1]) ∧ Below W.heap.size W w') (fun e w' hh => ⟨good1 hh.1, hh.2⟩)
  rw [checkY] at HCY
  rw [checkN] at HCN
  simp only [List.length_cons, List.length_nil, Nat.zero_add, show ((0 : Nat) : Int) = 0 from rfl, show ((3 : Nat) : Int) = 3 from rfl, show ((8 : Nat) : Int) = 8 from rfl] at HCY HCN HD0 HD1
  have hyB := below1 w (.cells #[.int .u8 3, .int .i64 0, .int .u8 20, .int .i64 3, .int .u8 21, .int .i64 0, .int .u8 2, .int .i64 0, .int .u8 28, .int .i64 0] 43)
  have hyR : RowAt insC 2 (w.alloc (.cells #[.int .u8 3, .int .i64 0, .int .u8 20, .int .i64 3, .int .u8 21, .int .i64 0, .int .u8 2, .int .i64 0, .int .u8 28, .int .i64 0] 43)) (some ⟨w.heap.size, 0, none⟩) codeY := row_of_block insC_len (t := 43) (heap_alloc_new w _)
  have H1 := HO _ _ codeY 5 hyR (by decide)
  have H2 := fun (W : World) => HO (W.alloc (.cells #[.int .u8 2, .int .i64 0, .int .u8 2, .int .i64 0, .int .u8 20, .int .i64 4, .int .u8 12, .int .i64 0, .int .u8 2, .int .i64 0, .int .u8 28, .int .i64 0] 43)) (some ⟨W.heap.size, 0, none⟩) codeN 6 (row_of_block insC_len (t := 43) (heap_alloc_new W _)) (by decide)
  have hl1 : codeY.length = 5 := rfl
  have hl2 : codeN.length = 6 := rfl
  rw [hl1] at H1
  rw [hl2] at H2
  clear hl1 hl2 HO hyR
  go_enter Tryd.func11, Tryd.ntmps11
  go_wp2_with (first
    | (go_at_call 21; (with_reducible refine H1.mono ?_); clear H1; rintro e w1 ⟨g1, rfl, f1, hB1⟩; have k1 := hyB.trans (hB1.mono hyB.size))
    | (go_at_call 21; (with_reducible refine (H2 _).mono ?_); clear H2; rintro e w2 ⟨g2, rfl, f2, hB2⟩; have k2 := (k1.alloc k1.size _).trans (hB2.mono (by have := k1.size; simp; omega)); have f12 : IsFns w2 (some ⟨g1, 0, none⟩) [oneF codeY] := (f1.below (below1 w1 _)).below hB2)
    | (go_at_call 8; (with_reducible refine (HCY _ _ f12 k2).mono ?_); clear HCY; rintro e w3 ⟨rfl, hB3⟩; have k3 := k2.trans (hB3.mono k2.size); have f23 := f2.below hB3; have f13 := f12.below hB3)
    | (go_at_call 8; (with_reducible refine (HCN _ _ f23 k3).mono ?_); clear HCN; rintro e w4 ⟨rfl, hB4⟩; have k4 := k3.trans (hB4.mono k3.size); have f14 := f13.below hB4)
    | (go_at_call 12; (with_reducible refine (HD0 _ _ f14 k4).mono ?_); clear HD0; rintro e w5 ⟨g5, c5, rfl, r5, hB5⟩; have k5 := k4.trans (hB5.mono k4.size); have f15 := f14.below hB5)
    | (go_at_call 12; (with_reducible refine (HD1 _ _ f15 k5).mono ?_); clear HD1; rintro e w6 ⟨rfl, hB6⟩; have k6 := k5.trans (hB6.mono k5.size); have r6 := r5.kept (hB6.block _ r5.lt.2))
    | (go_at_call 22; refine (sameInts_yes (l := [0, 1, 0, 0, 1]) c5 5 (r6.rowAt.below (below1 w6 (.cells #[.int .i64 0, .int .i64 1, .int .i64 0, .int .i64 0, .int .i64 1] 3))) (row_of_block linC_len (t := 3) (heap_alloc_new w6 (.cells #[.int .i64 0, .int .i64 1, .int .i64 0, .int .i64 0, .int .i64 1] 3))) (by decide)).mono ?_; rintro e w7 ⟨rfl, hB7⟩))
  go_ret
  exact ⟨rfl, (k6.alloc k6.size _).trans (hB7.mono (by have := k6.size; simp; omega))⟩

end Go.Proofs.YtpjgdbeekmoedaaDoor

namespace Go.Proofs.YtpjgdbeekmoedaaDoor
set_option linter.unusedVariables false
set_option linter.unusedSimpArgs false
open Go.RowKit

variable {w : World}

def Halted2 (p : Prop) : Prop := p

theorem halt_here2 {p : Prop} (h : Halted2 p) : p := h

/-- A function whose first k lines are 0. -/
def zl (f : Fm) (k : Nat) : Fm := { f with lines := List.replicate k 0 ++ f.lines.drop k }

theorem zl_zero (f : Fm) : zl f 0 = f := by simp [zl]

theorem zl_len {f : Fm} {k : Nat} (h : k ≤ f.lines.length) : (zl f k).lines.length = f.lines.length := by simp [zl]; omega

theorem zl_get {f : Fm} {k : Nat} : (zl f k).lines[k]? = f.lines[k]? := by
  simp [zl, List.getElem?_append_right]

theorem zl_succ {f : Fm} {k : Nat} (h : k < f.lines.length) (x : Ft) (hx : x.f = zl f k) : (zeroLine x k).f = zl f (k + 1) := by
  unfold zeroLine zl
  rw [hx]
  unfold zl
  simp only
  congr 1
  rw [List.set_append_right _ _ (by simp), List.length_replicate, Nat.sub_self, List.drop_eq_getElem_cons h, List.set_cons_zero]
  rw [List.replicate_succ']
  simp

theorem zl_all (f : Fm) (x : Ft) (hx : x.f = zl f f.lines.length) : (noName x).f = strip f := by
  unfold noName strip
  rw [hx]
  unfold zl
  simp

theorem map_set_at {ts : List Ft} {pre rest : List Fm} {f f' : Fm} {y : Ft} (h : ts.map Ft.f = pre ++ f :: rest) (hy : y.f = f') : (ts.set pre.length y).map Ft.f = pre ++ f' :: rest := by
  rw [List.map_set, h, hy, List.set_append_right _ _ (Nat.le_refl _), Nat.sub_self, List.set_cons_zero]

theorem at_of_map {ts : List Ft} {pre rest : List Fm} {f : Fm} (h : ts.map Ft.f = pre ++ f :: rest) : ∃ x, ts[pre.length]? = some x ∧ x.f = f := by
  have h1 : (ts.map Ft.f)[pre.length]? = some f := by rw [h]; simp
  rw [List.getElem?_map] at h1
  cases hx : ts[pre.length]? with
  | none => rw [hx] at h1; simp at h1
  | some x => rw [hx] at h1; simp at h1; exact ⟨x, rfl, h1⟩

theorem small_strip {l : List Fm} (h : SmallP l) : SmallP (l.map strip) := by
  refine ⟨by simpa using h.len, fun f hf => ?_⟩
  obtain ⟨g, hg, rfl⟩ := List.mem_map.1 hf
  have := h.fns g hg
  exact ⟨this.caps, this.consts, this.code, by simpa [strip] using this.lines, this.hs⟩

theorem fit_strip {l : List Fm} (h : ∀ f ∈ l, FitF f) : ∀ f ∈ l.map strip, FitF f := by
  intro f hf
  obtain ⟨g, hg, rfl⟩ := List.mem_map.1 hf
  have := h g hg
  exact ⟨this.consts, this.code, by simp [strip, ByteArray.size]⟩

set_option maxRecDepth 20000 in
set_option maxHeartbeats 8000000 in
theorem verifyNames_walk (p : Option Addr) (l : List Fm) (c : Nat) (w : World) (hs : IsFns w p l) (hlen : l.length ≤ 140737488355328) (hc : ∀ f ∈ l, CameF f ∧ FitF f) (ht : RowsT w) :
    Calls Tryd.prog 5 #[.slice p l.length c] w fun e w' => e = .returned (.bool true) ∧ Below w.heap.size w w' := by
  have HT : Hid (RowsT w) := ht
  clear ht
  have HA0 := fun (W : World) (h : Below w.heap.size w W) => alive_in W (HT.out.below h)
  have H1 := fun (W : World) (h : Below w.heap.size w W) => great_in (w := W) c (hs.below h) hlen (fun f hf => (hc f hf).1)
  have HFIT : Hid (∀ f ∈ l, FitF f) := fun f hf => (hc f hf).2
  have HNM : Hid (∀ f ∈ l, f.name.size ≤ 140737488355328) := fun f hf => (hc f hf).1.name
  have HS : Hid _ := hs
  clear hs hc
  go_enter Tryd.func5, Tryd.ntmps5
  go_wp2_with (first
    | (go_at_call 11; (with_reducible refine (HA0 _ (Below.refl _ _)).mono ?_); rintro e w1 ⟨rfl, hB1⟩)
    | (go_at_call 6; (with_reducible refine (H1 _ hB1).mono ?_); clear H1; rintro e w2 ⟨b, rfl, hsm0, hB2⟩; refine halt_here2 ?_))
  unfold Halted2
  have k2 := hB1.trans (hB2.mono hB1.size)
  cases b with
  | true =>
    clear hsm0
    go_wp2_with (first
      | (go_at_call 11; (with_reducible refine (HA0 _ k2).mono ?_); rintro e w3 ⟨rfl, hB3⟩))
    go_ret
    exact ⟨rfl, k2.trans (hB3.mono k2.size)⟩
  | false =>
    have hsm := hsm0 rfl
    clear hsm0 HA0
    have hll := hsm.len
    have HSM : Hid _ := hsm
    have H2 := twinProgram_in c (IsFns.below HS.out k2) hll hsm.fns
    clear hsm
    go_wp2_with (first
      | (go_at_call 7; refine H2.mono ?_; clear H2; rintro e w3 ⟨G, C, rfl, ts, hm, htw, hB3⟩))
    have k3 := k2.trans (hB3.mono k2.size)
    have hw2 := k2.size
    go_loopw [4] (fun k wr => ∃ (pre rest : List Fm) (ts : List Ft), k = .int .i64 pre.length ∧ l = pre ++ rest ∧ (∀ f ∈ pre, Named f) ∧ ts.map Ft.f = pre.map strip ++ rest ∧ TwFns w2.heap.size G C ts wr ∧ Below w.heap.size w wr) (fun k _ => l.length - (intOf k).toNat)
    case atStart => exact ⟨[], l, ts, rfl, rfl, by simp, hm, htw, k3⟩
    case round =>
      clear hm htw k3
      obtain ⟨pre, rest, ts, rfl, hR, hN, hm, htw, hB⟩ := hrel
      have HN : Hid _ := hN
      cases rest with
      | cons f rest =>
        have hlR : pre.length < l.length := by rw [hR]; simp
        have hlR' : (pre.length : Int) < (l.length : Int) := by omega
        have hfl : f.lines.length ≤ 1048576 := (HSM.out.fns f (by rw [hR]; simp)).lines
        have hfn : f.name.size ≤ 140737488355328 := HNM.out f (by rw [hR]; simp)
        have HR : Hid _ := hR
        have e1 : (((pre ++ [f]).length : Nat) : Int) = pre.length + 1 := by simp
        have hpl : (pre.map strip).length = pre.length := by simp
        clear hR hN
        go_wp2
        rename World => wo
        go_loopw [5] (fun k wr => ∃ (j : Nat) (ts : List Ft), k = .int .i64 j ∧ j ≤ f.lines.length ∧ (∀ n ∈ f.lines.take j, 0 ≤ n) ∧ ts.map Ft.f = pre.map strip ++ zl f j :: rest ∧ TwFns w2.heap.size G C ts wr ∧ Below w.heap.size w wr) (fun k _ => f.lines.length - (intOf k).toNat)
        case atStart => exact ⟨0, ts, rfl, by omega, by simp, by rw [zl_zero]; exact hm, htw, hB⟩
        case round =>
          clear hm htw hB
          obtain ⟨j, ts, rfl, hj, hpos, hm, htw, hB⟩ := hrel
          obtain ⟨x, hx, hxf⟩ := at_of_map hm
          rw [hpl] at hx
          obtain ⟨d0, d1, d2, d3, d4, d5, d6, d7⟩ := htw.cells hx
          obtain ⟨g, hg, htl⟩ := (htw.fns x (List.mem_of_getElem? hx)).lines
          have hxl : x.f.lines.length = f.lines.length := by rw [hxf]; exact zl_len hj
          rw [hg, hxl] at d6
          obtain ⟨cG, hcG⟩ := htw.row.obj
          have fG := frozen_of_row wr G (pre.length * 8) _ _ hcG
          have hxn : x.f.name = f.name := by rw [hxf]; rfl
          rw [hxn] at d0
          have HP : Hid _ := hpos
          have HM : Hid _ := hm
          have HTW : Hid _ := htw
          have HX : Hid _ := hx
          have HXF : Hid _ := hxf
          have HG : Hid _ := hg
          have HXL : Hid _ := hxl
          by_cases hjn : j < f.lines.length
          · have hjn' : (j : Int) < (f.lines.length : Int) := by omega
            obtain ⟨n, hn⟩ : ∃ n, f.lines[j]? = some n := ⟨f.lines[j], by simp⟩
            obtain ⟨cl, hcl⟩ := htl.obj
            have fg := frozen_of_row wr g j _ _ hcl
            obtain ⟨g', off', e, q0⟩ := (htl.rowAt linC_len).lookL (Below.refl _ _) (j := j) (x := n) (by rw [hxf, zl_get]; exact hn)
            simp at e
            obtain ⟨rfl, rfl⟩ := e
            rw [Nat.zero_add] at q0
            have HNN : Hid _ := hn
            have hgb := htl.lt.1
            clear hpos hm htw hx hxf hg hxl hcG htl hcl hn hxn
            by_cases hn0 : n < 0
            · go_wp2
              go_ret
              exact ⟨rfl, hB⟩
            · go_wp2
              go_roundw
              case rel =>
                refine ⟨j + 1, ts.set pre.length (zeroLine x j), by simp, by omega, ?_, ?_, TwFns.zero HTW.out HX.out (by rw [HXL.out]; exact hjn) HG.out, below_set hB (by omega) _⟩
                · rw [List.take_add_one, HNN.out]
                  intro m hm'
                  simp at hm'
                  rcases hm' with h | h
                  · exact HP.out m h
                  · omega
                · have := map_set_at (y := zeroLine x j) HM.out (zl_succ hjn x HXF.out)
                  rw [hpl] at this
                  exact this
              case measure => simp [intOf]; omega
          · have hjn' : ¬ ((j : Int) < (f.lines.length : Int)) := by omega
            have HJ : Hid (j = f.lines.length) := (by omega : j = f.lines.length)
            have hGb := htw.row.lt.1
            clear hpos hm htw hx hxf hg hxl hcG htl hxn
            by_cases hn4 : 4096 < f.name.size
            · have hn4' : (4096 : Int) < (f.name.size : Int) := by omega
              go_wp2
              go_ret
              exact ⟨rfl, hB⟩
            · have hn4' : ¬ ((4096 : Int) < (f.name.size : Int)) := by omega
              go_wp2
              go_roundw
              case rel =>
                refine ⟨pre ++ [f], rest, ts.set pre.length (noName x), by rw [e1], by rw [HR.out]; simp, ?_, ?_, TwFns.named HTW.out HX.out, below_set hB (by omega) _⟩
                · intro y hy
                  rcases List.mem_append.1 hy with h | h
                  · exact HN.out y h
                  · simp at h
                    subst h
                    refine ⟨by omega, fun n hn => HP.out n ?_⟩
                    rw [HJ.out, List.take_length]; exact hn
                · have hxz : x.f = zl f f.lines.length := by rw [← HJ.out]; exact HXF.out
                  have := map_set_at (y := noName x) HM.out (zl_all f x hxz)
                  rw [hpl] at this
                  rw [this]
                  simp
              case measure => simp [intOf]; omega
      | nil =>
        have hR' : l = pre := by simpa using hR
        have hq : ¬ ((pre.length : Int) < (l.length : Int)) := by rw [hR']; omega
        have hml : ts.map Ft.f = l.map strip := by rw [hm, hR']; simp
        have hnl : ∀ f ∈ l, Named f := by rw [hR']; exact hN
        have H3 := pcheck_in (w := wr) (fs := l) c (IsFns.below HS.out hB) HSM.out HFIT.out (HT.out.below hB)
        have H4 := fun (W : World) (h : Below wr.heap.size wr W) => pcheck_in (w := W) (fs := l.map strip) C (hml ▸ (htw.below h).isFns) (small_strip HSM.out) (fit_strip HFIT.out) (HT.out.below (hB.trans (h.mono hB.size)))
        rw [strip_check l hnl] at H4
        obtain ⟨r1, r2, r3, hr⟩ : ∃ r1 r2 r3, checkV l = (r1, r2, r3) := ⟨_, _, _, rfl⟩
        rw [hr] at H3 H4
        rw [List.length_map] at H4
        clear hR hR' hN hm hml hnl hr htw
        go_wp2_with (first
          | (go_at_call 8; (with_reducible refine H3.mono ?_); clear H3; rintro e w5 ⟨rfl, hB5⟩)
          | (go_at_call 8; (with_reducible refine (H4 _ hB5).mono ?_); clear H4; rintro e w6 ⟨rfl, hB6⟩))
        go_ret
        have k5 := hB.trans (hB5.mono hB.size)
        exact ⟨rfl, k5.trans (hB6.mono k5.size)⟩

end Go.Proofs.YtpjgdbeekmoedaaDoor
