/- What is asked of the main function's head. -/
import Derived.Test.YtnekcomkochmjaaGreatDoorVfPGuards
import Derived.Test.YtnekcomkochmjaaGreatDoorVbWalk
import Derived.Maps.OwnSet
namespace Go.Proofs.YtnekcomkochmjaaGreatDoor
set_option linter.unusedVariables false
set_option linter.unusedSimpArgs false
open Go.RowKit

variable {w : World}

set_option maxRecDepth 20000 in
theorem mainMayBe_in {b0 o : Nat} {f : Fm} {s : Fs} (h : FnP w b0 o f s) :
    Calls Tryz.prog 24 #[.pointer (some ⟨b0, o, none⟩)] w fun e w' => e = .returned (.bool (decide (f.params = 0) && decide (f.caps.length = 0))) ∧ w' = w := by
  have c1 := h.cell 1 _ rfl
  have c3 := h.cell 3 _ rfl
  clear h
  by_cases q : f.params = 0
  · have e1 : (f.params == 0) = true := by simpa using q
    have e2 : (((f.caps.length : Nat) : Int) == 0) = decide (f.caps.length = 0) := by rw [Bool.eq_iff_iff]; simp
    rw [decide_eq_true q, Bool.true_and, ← e2]
    clear q e2
    go_enter Tryz.func24, Tryz.ntmps24
    go_wp2
    go_ret
    exact ⟨rfl, rfl⟩
  · have e1 : (f.params == 0) = false := by simpa using q
    rw [decide_eq_false q, Bool.false_and]
    clear q
    go_enter Tryz.func24, Tryz.ntmps24
    go_wp2
    go_ret
    exact ⟨rfl, rfl⟩

end Go.Proofs.YtnekcomkochmjaaGreatDoor

namespace Go.Proofs.YtnekcomkochmjaaGreatDoor
set_option linter.unusedVariables false
set_option linter.unusedSimpArgs false
open Go.RowKit Go.Maps

variable {w : World}

theorem lawI : Keyed Tryz.prog 3 := int_keyed Tryz.underlying3

theorem zeroI3 (w : World) : (zeroValue 3).run Tryz.prog w = .ok (.int .i64 0) w := by kernel_rfl

theorem wfI {x : Int} (h : -9223372036854775808 ≤ x ∧ x ≤ 9223372036854775807) : (Lit.int .i64 x).wf = true := by
  exact WalkArith.wf_i64 (by omega)

/-- The map of makers: -1: none. -/
def IsMk (w : World) (bM n : Nat) (mk : List Int) : Prop :=
  ∃ D : DataW Unit, w.ownsMap Tryz.prog 3 (plainElem Tryz.prog 3) bM n D ∧ ∀ p : Nat, Maps.has D (.int .i64 p) = decide (0 ≤ mk.getD p (-1)) ∧ (0 ≤ mk.getD p (-1) → D.atKey (.int .i64 p) (.lit (.int .i64 0)) = .lit (.int .i64 (mk.getD p (-1))))

theorem IsMk.kept {bM n : Nat} {mk : List Int} (h : IsMk w bM n mk) {w' : World} (hk : w'.heap[bM]? = w.heap[bM]?) : IsMk w' bM n mk := by
  obtain ⟨D, ⟨es, cl, h1, h2⟩, h3⟩ := h
  exact ⟨D, ⟨es, cl, hk.trans h1, h2⟩, h3⟩

theorem IsMk.lt {bM n : Nat} {mk : List Int} (h : IsMk w bM n mk) : bM < w.heap.size := by
  obtain ⟨D, h1, _⟩ := h; exact h1.lt

theorem IsMk.isMap {bM n : Nat} {mk : List Int} (h : IsMk w bM n mk) : ∃ es cl, w.heap[bM]? = some (.map es cl) := by
  obtain ⟨D, ⟨es, cl, h1, h2⟩, h3⟩ := h; exact ⟨es, cl, h1⟩

theorem IsMk.look {bM n : Nat} {mk : List Int} (h : IsMk w bM n mk) (p : Nat) (hp : p ≤ 1048576) (hd : mk.getD p (-1) ≤ 1048576) :
    ∃ c : Int, (Instr.lookup 56 (.map (some bM)) (.int .i64 p) true).run Tryz.prog w = .ok (.tuple #[.int .i64 c, .bool (decide (0 ≤ mk.getD p (-1)))]) w ∧ (0 ≤ mk.getD p (-1) → c = mk.getD p (-1)) := by
  obtain ⟨D, h1, h2⟩ := h
  have hkey : keyOf Tryz.prog 3 (.int .i64 (p : Int)) = some (.int .i64 (p : Int)) := keyOf_int_mk Tryz.underlying3 (wfI (by omega))
  obtain ⟨v, ps, hrun, hv⟩ := h1.look_ok lawI Tryz.underlying56 (zeroI3 w) (plainElem_int Tryz.underlying3 (wfI (by omega))) hkey
  obtain ⟨c, rfl, hc, hwc⟩ := plainElem_int_inv Tryz.underlying3 hv
  refine ⟨c, by rw [hrun, (h2 p).1], fun hne => ?_⟩
  have := (h2 p).2 hne
  rw [show D.atKey (.int .i64 (p : Int)) (.lit (.int .i64 0)) = .lit (.int .i64 c) from congrArg Prod.fst hc] at this
  simpa using this

theorem IsMk.put {bM n : Nat} {mk : List Int} {D : DataW Unit} {w1 : World} {q t : Nat} (hm : IsMap D) (h2 : ∀ p : Nat, Maps.has D (.int .i64 p) = decide (0 ≤ mk.getD p (-1)) ∧ (0 ≤ mk.getD p (-1) → D.atKey (.int .i64 p) (.lit (.int .i64 0)) = .lit (.int .i64 (mk.getD p (-1)))))
    (hq : q < mk.length) (h1 : w1.ownsMap Tryz.prog 3 (plainElem Tryz.prog 3) bM n (D.put (.int .i64 q) (.lit (.int .i64 t)))) : IsMk w1 bM n (mk.set q t) := by
  refine ⟨_, h1, fun p => ?_⟩
  rw [getD_set_if' _ _ _ _ hq]
  by_cases hp : p = q
  · subst hp
    rw [has_put_same hm (by simp [WideAt.IsKeyLit]), if_pos rfl]
    refine ⟨by simp, fun _ => ?_⟩
    rw [atKey_put_same hm (by simp [WideAt.IsKeyLit])]
  · have hk : (Lit.int .i64 (p : Int)) ≠ Lit.int .i64 (q : Int) := by
      intro e
      injection e with _ e
      exact hp (by omega)
    rw [has_put_other hk, atKey_put_other hk, if_neg hp]
    exact h2 p

/-- A program's functions, by a pointer to the first. -/
def PrgP (w : World) (b0 off : Nat) (fs : List Fm) : Prop := ∀ j f, fs[j]? = some f → ∃ s, FnP w b0 (off + j * 8) f s

theorem PrgP.below {b0 off : Nat} {fs : List Fm} (h : PrgP w b0 off fs) {w' : World} (hB : Below w.heap.size w w') : PrgP w' b0 off fs := fun j f hj => by
  obtain ⟨s, hs⟩ := h j f hj
  exact ⟨s, hs.below hB⟩

theorem IsFns.prg {b0 off : Nat} {fs : List Fm} (h : IsFns w (some ⟨b0, off, none⟩) fs) : PrgP w b0 off fs := fun j f hj => by
  obtain ⟨b1, o1, s, e, h1, h2, h3⟩ := h j f hj
  simp only [Option.some.injEq, Addr.mk.injEq] at e
  obtain ⟨rfl, rfl, _⟩ := e
  exact ⟨s, h1, h2, h3⟩

/-- The checker in memory. -/
structure Cr (w0 W : World) (bc bm b0 off c : Nat) (fs : List Fm) (nm : Nat) (mk : List Int) : Prop where
  cb : W.heap[bc]? = some (.cells #[.slice (some ⟨b0, off, none⟩) fs.length c, .map (some bm)] 58 (0, 0))
  mm : IsMk W bm nm mk
  bel : Below w0.heap.size w0 W
  bc0 : w0.heap.size ≤ bc
  bm0 : w0.heap.size ≤ bm

theorem Cr.kept {w0 W W' : World} {bc bm b0 off c nm : Nat} {fs : List Fm} {mk : List Int} (h : Cr w0 W bc bm b0 off c fs nm mk) (hB : Below W.heap.size W W') : Cr w0 W' bc bm b0 off c fs nm mk :=
  ⟨(hB.block _ (Array.getElem?_eq_some_iff.1 h.cb).1).trans h.cb, h.mm.kept (hB.block _ h.mm.lt), h.bel.trans (hB.mono h.bel.size), h.bc0, h.bm0⟩

theorem Cr.ne {w0 W : World} {bc bm b0 off c nm : Nat} {fs : List Fm} {mk : List Int} (h : Cr w0 W bc bm b0 off c fs nm mk) : bc ≠ bm := by
  intro e
  obtain ⟨es, cl, h1⟩ := h.mm.isMap
  have := h.cb
  rw [e, h1] at this
  simp at this

/-- Each function that is made may be made there. -/
def MkOk (fs : List Fm) (mk : List Int) : Prop := ∀ m k : Nat, mk.getD m (-1) = (k : Int) → ∃ f g, fs[k]? = some f ∧ fs[m]? = some g ∧ capsP f g = true

theorem MkOk.set {fs : List Fm} {mk : List Int} (h : MkOk fs mk) {m k : Nat} {f g : Fm} (hm : m < mk.length) (hf : fs[k]? = some f) (hg : fs[m]? = some g) (hc : capsP f g = true) : MkOk fs (mk.set m k) := by
  intro x y e
  rw [getD_set_if' _ _ _ _ hm] at e
  split at e
  · rename_i q
    have : y = k := by omega
    subst this q
    exact ⟨f, g, hf, hg, hc⟩
  · exact h x y e

/-- May it be made? -/
def makesB (fs : List Fm) (n : Nat) (f g : Fm) (mk : List Int) (m : Nat) : Bool := decide (mk.getD m (-1) < 0 ∨ mk.getD m (-1) = n) && capsP f g

/-- What makes answers. -/
def MakesR (w0 : World) (bc bm b0 off c : Nat) (fs : List Fm) (nm n m : Nat) (f g : Fm) (mk : List Int) (e : Ending) (w' : World) : Prop :=
  e = .returned (.bool (makesB fs n f g mk m)) ∧ Below w0.heap.size w0 w' ∧ (makesB fs n f g mk m = true → ∃ nm', nm' ≤ nm + 1 ∧ Cr w0 w' bc bm b0 off c fs nm' (mk.set m n) ∧ MkOk fs (mk.set m n))

def HaltP2 (p : Prop) : Prop := p

theorem haltP2 {p : Prop} (h : HaltP2 p) : p := h

set_option maxRecDepth 20000 in
set_option maxHeartbeats 4000000 in
theorem makes_in {w0 : World} {bc bm b0 off c nm n m : Nat} {fs : List Fm} {mk : List Int} {f g : Fm} (h : Cr w0 w bc bm b0 off c fs nm mk) (hp : PrgP w0 b0 off fs) (hok : MkOk fs mk) (hml : mk.length = fs.length) (hl : fs.length ≤ 256) (hn : fs[n]? = some f) (hm : fs[m]? = some g) (hlo : ∀ k, -1 ≤ mk.getD k (-1) ∧ mk.getD k (-1) ≤ 256) (hnm : nm ≤ 1099511627776) (hcl : g.caps.length ≤ 1099511627776) :
    Calls Tryz.prog 50 #[.pointer (some ⟨bc, 0, none⟩), .int .i64 n, .int .i64 m] w fun e w' => MakesR w0 bc bm b0 off c fs nm n m f g mk e w' := by
  have hnl := (List.getElem?_eq_some_iff.1 hn).1
  have hmL := (List.getElem?_eq_some_iff.1 hm).1
  obtain ⟨⟨c0, c1⟩, -⟩ := cell_row2 h.cb
  obtain ⟨cv, hrun, hcv⟩ := h.mm.look m (by omega) (by have := (hlo m).2; omega)
  have HH : Hid _ := h
  by_cases h0 : 0 ≤ mk.getD m (-1)
  · rw [decide_eq_true h0, hcv h0] at hrun
    obtain ⟨k, hk⟩ : ∃ k : Nat, mk.getD m (-1) = (k : Int) := ⟨(mk.getD m (-1)).toNat, by omega⟩
    obtain ⟨f', g', q1, q2, q3⟩ := hok m k hk
    have hset : k = n → mk.set m (n : Int) = mk := fun e => by
      refine List.ext_getElem? (fun j => ?_)
      rw [List.getElem?_set]
      split
      · rename_i q
        subst q
        have hl2 : m < mk.length := by omega
        rw [List.getD_eq_getElem?_getD] at hk
        simp [hl2] at hk ⊢
        rw [hk, e]
      · rfl
    rw [hk] at hrun
    have HOK : Hid _ := And.intro hok (And.intro q1 (And.intro q2 (And.intro q3 (And.intro hn (And.intro hm hset)))))
    have HK : Hid _ := hk
    clear h hok hcv hp hlo hk h0 q1 q2 q3 hn hm hset
    go_enter Tryz.func50, Tryz.ntmps50
    go_wp2
    go_ret
    obtain ⟨hok, q1, q2, q3, hn, hm, hset⟩ := HOK.out
    have eg : g' = g := by rw [hm] at q2; exact (Option.some.inj q2).symm
    subst eg
    have eb : makesB fs n f g' mk m = ((k : Int) == (n : Int)) := by
      unfold makesB
      rw [HK.out]
      by_cases e : k = n
      · subst e
        have ef : f' = f := by rw [hn] at q1; exact (Option.some.inj q1).symm
        subst ef
        rw [q3]
        simp
      · have : ¬ ((k : Int) < 0 ∨ (k : Int) = (n : Int)) := by omega
        rw [decide_eq_false this]
        simp
        omega
    refine ⟨?_, HH.out.bel, fun hb => ⟨nm, by omega, ?_⟩⟩
    · rw [eb]
      rfl
    · rw [eb] at hb
      have : k = n := by have h1 : (k : Int) = (n : Int) := by simpa using hb
                         omega
      rw [hset this]
      exact ⟨HH.out, hok⟩
  · have h0' : mk.getD m (-1) < 0 := by omega
    rw [decide_eq_false h0] at hrun
    obtain ⟨D, g1, g2⟩ := h.mm
    have hkey : keyOf Tryz.prog 3 (.int .i64 (m : Int)) = some (.int .i64 (m : Int)) := keyOf_int_mk Tryz.underlying3 (wfI (by omega))
    have hms := g1.isMap
    have hne := h.ne
    have hbl := (Array.getElem?_eq_some_iff.1 h.cb).1
    have hnl' : (n : Int) < (fs.length : Int) := by omega
    have hml' : (m : Int) < (fs.length : Int) := by omega
    have HP : Hid (PrgP w0 b0 off fs ∧ fs[n]? = some f ∧ fs[m]? = some g ∧ MkOk fs mk ∧ mk.length = fs.length ∧ mk.getD m (-1) < 0) := ⟨hp, hn, hm, hok, hml, h0'⟩
    have HG2 : Hid _ := g2
    have HMS : Hid _ := hms
    clear h hok hcv hp hlo h0 h0' hn hm hml g2 hms
    go_enter Tryz.func50, Tryz.ntmps50
    go_wp2_with (first
      | (at_mapUpdate; refine wpList_mapUpdate_own _ rfl _ _ _ 56 rfl 3 3 lawI Tryz.underlying56 _ bm nm _ rfl g1 (by unfold maxLen; omega) _ _ _ rfl rfl hkey _ [] (plainElem_int Tryz.underlying3 (wfI (by omega))) ?_; intro w1 hown1 hgrow1; refine haltP2 ?_))
    unfold HaltP2
    obtain ⟨hp, hn, hm, hok, hml, h0'⟩ := HP.out
    have CR : Hid (Cr w0 w1 bc bm b0 off c fs (nm + 1) (mk.set m n)) := by
      have h := HH.out
      refine ⟨(hgrow1.block bc hbl (fun e => hne (Option.some.inj e))).trans h.cb, IsMk.put HMS.out HG2.out (by omega) hown1, h.bel.grown hgrow1 h.bel.size (fun j hj => by cases hj; exact h.bm0), h.bc0, h.bm0⟩
    obtain ⟨s1, fp1⟩ := (hp.below CR.out.bel) n f hn
    obtain ⟨s2, fp2⟩ := (hp.below CR.out.bel) m g hm
    obtain ⟨⟨d0, d1⟩, -⟩ := cell_row2 CR.out.cb
    have e3 := fp2.cell 3 _ rfl
    have FC : Hid _ := fun (W : World) (hB : Below w1.heap.size w1 W) => And.intro ((fp1.below hB).cell 2 _ rfl) ((fp1.below hB).cell 3 _ rfl)
    have FR : Hid (∀ (W : World) (j : Nat) (x : Cp), Below w1.heap.size w1 W → g.caps[j]? = some x → ∃ b0 off : Nat, s2.qc = some ⟨b0, off, none⟩ ∧ W.cell? ⟨b0, off + j * 2, none⟩ = some (.bool x.up) ∧ W.cell? ⟨b0, off + j * 2 + 1, none⟩ = some (.int .i64 x.n)) := fun W j x hB hx => fp2.fn.caps.lookC hB hx
    have HX2 : Hid _ := And.intro hn (And.intro hm (And.intro hok (And.intro hml h0')))
    clear hp hn hm hok hml h0' hgrow1 hown1 g1 c0 c1 hrun fp1 fp2
    go_wp2
    go_loopw [47] (fun k wr => ∃ j : Nat, k = .int .i64 j ∧ j ≤ g.caps.length ∧ (g.caps.take j).all (capP f) = true ∧ Below w1.heap.size w1 wr) (fun k _ => g.caps.length - (intOf k).toNat)
    case atStart => exact ⟨0, rfl, by omega, rfl, Below.refl _ _⟩
    case round =>
      obtain ⟨j, rfl, hj, hA, hB⟩ := hrel
      have HA : Hid _ := hA
      have hws := hB.size
      have hBa := fun (o : Obj) => hB.alloc hws o
      by_cases hjl : j < g.caps.length
      · have hjl' : (j : Int) < (g.caps.length : Int) := by omega
        obtain ⟨x, hx⟩ : ∃ x, g.caps[j]? = some x := ⟨g.caps[j], by simp⟩
        obtain ⟨bq, oq, hq, x0, x1⟩ := FR.out _ _ _ hB hx
        rw [hq]
        have y2 := fun (o : Obj) => (FC.out _ (hBa o)).1
        have y3 := fun (o : Obj) => (FC.out _ (hBa o)).2
        have HX : Hid _ := hx
        obtain ⟨up, nn⟩ := x
        simp only at x0 x1
        clear hx
        cases up with
        | true =>
          by_cases q1 : nn < 0
          · have hb : capP f ⟨true, nn⟩ = false := by unfold capP; simp; omega
            have HB : Hid _ := hb
            clear hb hA
            go_wp2
            go_ret
            have hcf : capsP f g = false := by
              unfold capsP
              rw [List.all_eq_false]
              exact ⟨_, List.mem_of_getElem? HX.out, by rw [HB.out]; simp⟩
            have eb : makesB fs n f g mk m = false := by unfold makesB; rw [hcf, Bool.and_false]
            refine ⟨by rw [eb]; rfl, CR.out.bel.trans ((hBa _).mono CR.out.bel.size), fun q => by rw [eb] at q; cases q⟩
          by_cases q2 : (f.caps.length : Int) ≤ nn
          · have hb : capP f ⟨true, nn⟩ = false := by unfold capP; simp; omega
            have hn1 : ¬ (nn < 0) := by omega
            have hn2 : (f.caps.length : Int) ≤ nn := by omega
            have HB : Hid _ := hb
            clear hb hA
            go_wp2
            go_ret
            have hcf : capsP f g = false := by
              unfold capsP
              rw [List.all_eq_false]
              exact ⟨_, List.mem_of_getElem? HX.out, by rw [HB.out]; simp⟩
            have eb : makesB fs n f g mk m = false := by unfold makesB; rw [hcf, Bool.and_false]
            refine ⟨by rw [eb]; rfl, CR.out.bel.trans ((hBa _).mono CR.out.bel.size), fun q => by rw [eb] at q; cases q⟩
          · have hb : capP f ⟨true, nn⟩ = true := by unfold capP; simp; omega
            have hn1 : ¬ (nn < 0) := by omega
            have hn2 : ¬ ((f.caps.length : Int) ≤ nn) := by omega
            have HB : Hid _ := hb
            clear hb hA
            go_wp2
            go_roundw
            case rel =>
              refine ⟨j + 1, by simp, by omega, ?_, hBa _⟩
              rw [List.take_add_one, HX.out, List.all_append, HA.out]
              simp [HB.out]
            case measure => simp [intOf]; omega
        | false =>
          by_cases q1 : nn < 0
          · have hb : capP f ⟨false, nn⟩ = false := by unfold capP; simp; omega
            have HB : Hid _ := hb
            clear hb hA
            go_wp2
            go_ret
            have hcf : capsP f g = false := by
              unfold capsP
              rw [List.all_eq_false]
              exact ⟨_, List.mem_of_getElem? HX.out, by rw [HB.out]; simp⟩
            have eb : makesB fs n f g mk m = false := by unfold makesB; rw [hcf, Bool.and_false]
            refine ⟨by rw [eb]; rfl, CR.out.bel.trans ((hBa _).mono CR.out.bel.size), fun q => by rw [eb] at q; cases q⟩
          by_cases q2 : f.locals ≤ nn
          · have hb : capP f ⟨false, nn⟩ = false := by unfold capP; simp; omega
            have hn1 : ¬ (nn < 0) := by omega
            have hn2 : f.locals ≤ nn := by omega
            have HB : Hid _ := hb
            clear hb hA
            go_wp2
            go_ret
            have hcf : capsP f g = false := by
              unfold capsP
              rw [List.all_eq_false]
              exact ⟨_, List.mem_of_getElem? HX.out, by rw [HB.out]; simp⟩
            have eb : makesB fs n f g mk m = false := by unfold makesB; rw [hcf, Bool.and_false]
            refine ⟨by rw [eb]; rfl, CR.out.bel.trans ((hBa _).mono CR.out.bel.size), fun q => by rw [eb] at q; cases q⟩
          · have hb : capP f ⟨false, nn⟩ = true := by unfold capP; simp; omega
            have hn1 : ¬ (nn < 0) := by omega
            have hn2 : ¬ (f.locals ≤ nn) := by omega
            have HB : Hid _ := hb
            clear hb hA
            go_wp2
            go_roundw
            case rel =>
              refine ⟨j + 1, by simp, by omega, ?_, hBa _⟩
              rw [List.take_add_one, HX.out, List.all_append, HA.out]
              simp [HB.out]
            case measure => simp [intOf]; omega
      · have hjl' : ¬ ((j : Int) < (g.caps.length : Int)) := by omega
        clear hA
        go_wp2
        go_ret
        have hcf : capsP f g = true := by unfold capsP; have := HA.out; rw [List.take_of_length_le (by omega)] at this; exact this
        obtain ⟨hn, hm, hok, hml, h0'⟩ := HX2.out
        have eb : makesB fs n f g mk m = true := by unfold makesB; rw [hcf, decide_eq_true (.inl h0')]; rfl
        refine ⟨by rw [eb]; rfl, CR.out.bel.trans (hB.mono CR.out.bel.size), fun _ => ⟨nm + 1, by omega, CR.out.kept hB, hok.set (by omega) hn hm hcf⟩⟩

end Go.Proofs.YtnekcomkochmjaaGreatDoor
