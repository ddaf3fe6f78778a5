/- VerifyDepths: the walk. -/
import Derived.Test.YtpjgdbeekmoedaaGreatDoorVfProg
import Derived.Test.YtpjgdbeekmoedaaGreatDoorVfFns
import Derived.Test.YtpjgdbeekmoedaaGreatDoorVfRDepths
import Derived.Test.YtpjgdbeekmoedaaGreatDoorVfRunsMath
import Derived.Test.YtpjgdbeekmoedaaGreatDoorIkApart
import Derived.Laws.Tables
namespace Go.Proofs.YtpjgdbeekmoedaaGreatDoor
set_option linter.unusedVariables false
set_option linter.unusedSimpArgs false
open Go.RowKit

variable {w : World}

theorem ftwin_length {ts : List Ft} {l : List Fm} (h : ts.map Ft.f = l) : ts.length = l.length := by rw [← h]; simp

def Halted (p : Prop) : Prop := p

theorem halt_here {p : Prop} (h : Halted p) : p := h

theorem NumRow.rowAtD {base g c : Nat} {l : List Int} (h : NumRow base g c l w) : RowAt linC 1 w (some ⟨g, 0, none⟩) l := by
  intro j x hj
  refine ⟨g, 0, rfl, h.lt.2, fun i u hu => ?_⟩
  have hi : i < 1 := (List.getElem?_eq_some_iff.1 hu).1
  obtain rfl : i = 0 := by omega
  simp [linC] at hu
  subst hu
  have := h.at hj
  simpa using this

set_option maxRecDepth 20000 in
set_option maxHeartbeats 2000000 in
theorem sameIntsD {p q : Option Addr} {l : List Int} (c d : Nat) (h1 : RowAt linC 1 w p l) (h2 : RowAt linC 1 w q l) (hl : l.length ≤ 1048576) :
    Calls Tryz.prog 10 #[.slice p l.length c, .slice q l.length d] w fun e w' => e = .returned (.bool true) ∧ Below w.heap.size w w' := by
  go_enter Tryz.func10, Tryz.ntmps10
  go_wp2
  go_loopw [5] (fun k wr => ∃ j : Nat, k = .int .i64 j ∧ j ≤ l.length ∧ Below w.heap.size w wr) (fun k _ => l.length - (intOf k).toNat)
  case atStart => exact ⟨0, rfl, by omega, Below.refl _ _⟩
  case round =>
    obtain ⟨j, rfl, hj, hB⟩ := hrel
    by_cases hjn : j < l.length
    · obtain ⟨x, hx⟩ : ∃ x, l[j]? = some x := ⟨l[j], by simp⟩
      obtain ⟨b0, off, rfl, c0⟩ := h1.lookL hB hx
      obtain ⟨b1, of1, rfl, c1⟩ := h2.lookL hB hx
      have hjn' : (j : Int) < (l.length : Int) := by omega
      clear hx
      go_wp2
      go_region
      go_wp2
      go_roundw
      case rel => exact ⟨j + 1, by simp, by omega, below_drew hB⟩
      case measure => simp [intOf]; omega
    · have hjn' : ¬ ((j : Int) < (l.length : Int)) := by omega
      go_wp2
      go_ret
      exact ⟨rfl, hB⟩

/-- The zero book, made by one law. -/
theorem wpList_buildBk {ops : Array Oper} {rest : List Oper} {o : Oper} {a : Act} {Q : Exit → Act → World → Prop} {w : World} (hg : o.guard = none) (ho : o.op = .build 53 #[])
    (h : wpList Tryz.prog ops Q rest (a.put o.dst (.agg #[.int .i64 0, .slice none 0 0, .slice none 0 0, .slice none 0 0, .slice none 0 0, .slice none 0 0, .slice none 0 0, .slice none 0 0, .slice none 0 0, .slice none 0 0, .slice none 0 0, .slice none 0 0, .slice none 0 0, .slice none 0 0, .slice none 0 0, .slice none 0 0, .slice none 0 0, .slice none 0 0, .slice none 0 0, .slice none 0 0, .slice none 0 0])) w) : wpList Tryz.prog ops Q (o :: rest) a w := by
  refine wpList_plain hg fun K hK => wp_build 53 #[] ho (by kernel_rfl) ?_
  have e : (Tryz.prog.built 53 ((#[] : Array (Nat × Operand)).map fun (i, x) => (i, a.eval x)).toList).getD #[] = #[.int .i64 0, .slice none 0 0, .slice none 0 0, .slice none 0 0, .slice none 0 0, .slice none 0 0, .slice none 0 0, .slice none 0 0, .slice none 0 0, .slice none 0 0, .slice none 0 0, .slice none 0 0, .slice none 0 0, .slice none 0 0, .slice none 0 0, .slice none 0 0, .slice none 0 0, .slice none 0 0, .slice none 0 0, .slice none 0 0, .slice none 0 0] := by kernel_rfl
  rw [e]
  exact hK _ _ h

theorem infoBk : (Tryz.prog.info? 53).map (fun i => i.size) = some 21 := by kernel_rfl

/-- The world with the zero book. -/
def bkW (w : World) : World := (w.alloc (.cells #[.int .i64 0, .slice none 0 0, .slice none 0 0, .slice none 0 0, .slice none 0 0, .slice none 0 0, .slice none 0 0, .slice none 0 0, .slice none 0 0, .slice none 0 0, .slice none 0 0, .slice none 0 0, .slice none 0 0, .slice none 0 0, .slice none 0 0, .slice none 0 0, .slice none 0 0, .slice none 0 0, .slice none 0 0, .slice none 0 0, .slice none 0 0] 53 (0, 0))).setRow w.heap.size #[.int .i64 0, .slice none 0 0, .slice none 0 0, .slice none 0 0, .slice none 0 0, .slice none 0 0, .slice none 0 0, .slice none 0 0, .slice none 0 0, .slice none 0 0, .slice none 0 0, .slice none 0 0, .slice none 0 0, .slice none 0 0, .slice none 0 0, .slice none 0 0, .slice none 0 0, .slice none 0 0, .slice none 0 0, .slice none 0 0, .slice none 0 0]

theorem book_start {n₀ : Nat} (w : World) (hn : n₀ ≤ w.heap.size) : IsBk n₀ w.heap.size (.slice none 0 0) (bkW w) [] ∧ Below w.heap.size w (bkW w) := by
  have hb := below1 w (.cells #[.int .i64 0, .slice none 0 0, .slice none 0 0, .slice none 0 0, .slice none 0 0, .slice none 0 0, .slice none 0 0, .slice none 0 0, .slice none 0 0, .slice none 0 0, .slice none 0 0, .slice none 0 0, .slice none 0 0, .slice none 0 0, .slice none 0 0, .slice none 0 0, .slice none 0 0, .slice none 0 0, .slice none 0 0, .slice none 0 0, .slice none 0 0] 53 (0, 0))
  refine ⟨⟨hn, setRow_heap _ _ _ _ _ _ (heap_alloc_new w _), World.ownsRow_nil _ _ _ _, by simp, by simp⟩, ⟨hb.os, hb.tape, hb.output, by have := hb.size; simp [bkW, World.setRow] at this ⊢, fun k hk => (setRow_other _ _ k _ (by omega)).trans (hb.block k hk)⟩⟩


/-- What Depths answers, both ways alike: a row of these numbers, and an error. -/
def AnsI (l : List Int) (e : Int) (base : Nat) (E : Ending) (w' : World) : Prop :=
  ∃ p c, E = .returned (.tuple #[.slice p l.length c, .int .i64 e]) ∧ RowAt linC 1 w' p l ∧ w'.ownsRow base 3 1 (.slice p l.length c) l.length (l.map iv)

theorem depths_ans (fs : List Fm) (fn : Int) (hfit : ∀ f ∈ fs, FitF f) : ∃ (l : List Int) (e : Int), l.length ≤ 16384 ∧ ∀ base E w', DepthsR fs fn base E w' → AnsI l e base E w' := by
  cases hdv : depthsV fs fn with
  | error n =>
    refine ⟨[], n, by simp, fun base E w' h => ?_⟩
    unfold DepthsR at h
    rw [hdv] at h
    exact ⟨none, 0, h, RowAt.nil _ _ _ _, World.ownsRow_nil _ _ _ _⟩
  | ok told =>
    refine ⟨told, 0, ?_, fun base E w' h => ?_⟩
    · unfold depthsV at hdv
      split at hdv
      · cases hdv
      · rename_i h0
        split at hdv
        · cases hdv
        · cases hf : fs[fn.toNat]? with
          | none => rw [hf] at hdv; cases hdv
          | some f =>
            rw [hf] at hdv
            simp only at hdv
            obtain ⟨h2, told', h3⟩ := check_ok (by simpa using h0) (fun f hf => (hfit f hf).code) f (List.mem_of_getElem? hf)
            rw [h3] at hdv
            cases hdv
            have := (depths_closed h2 h3).2.2
            have := h2.len
            omega
    · unfold DepthsR at h
      rw [hdv] at h
      obtain ⟨g, c, h1, h2⟩ := h
      exact ⟨_, c, h1, h2.rowAtD, h2⟩

theorem irow_below {base n : Nat} {v : Value} {xs : List Value} (h : w.ownsRow base 3 1 v n xs) {w' : World} (hB : Below w.heap.size w w') : w'.ownsRow base 3 1 v n xs := row_kept h (fun k e => hB.block k (h.lt k e).2)

theorem off_irow {n₀ bk base n : Nat} {vp v : Value} {H : List He} {xs : List Value} (hb : IsBk n₀ bk vp w H) (h : w.ownsRow base 3 1 v n xs) : ∀ k, v.ownBlock = some k → ¬ IsBk.own bk vp k := by
  intro k e ho
  obtain ⟨_, _, cur, t, hc, ht⟩ := hb.blocks ho
  obtain ⟨cur', hc'⟩ := row_obj h e
  rw [hc] at hc'
  rcases ht with rfl | rfl <;> simp at hc'

theorem keep_irow {n₀ bk base n : Nat} {vp v : Value} {H : List He} {xs : List Value} {w' : World} (hb : IsBk n₀ bk vp w H) (h : w.ownsRow base 3 1 v n xs) (hK : KStep (IsBk.own bk vp) w w') : w'.ownsRow base 3 1 v n xs :=
  row_kept h (fun k e => hK.block k (h.lt k e).2 (off_irow hb h k e))

/-- Two lists in the book, and Apart. -/
theorem apart_two {n₀ bk a b n : Nat} {vp v1 v2 : Value} {xs ys : List Value} (hb : IsBk n₀ bk vp w [⟨v1, .slice none 0 0, 1, n⟩, ⟨v2, .slice none 0 0, 2, n⟩]) (h1 : w.ownsRow a 3 1 v1 n xs) (h2 : w.ownsRow b 3 1 v2 n ys) (ha : n₀ ≤ a) (hb' : n₀ ≤ b) (hd : ∀ k, v1.ownBlock = some k → v2.ownBlock ≠ some k) :
    Calls Tryz.prog 13 #[.pointer (some ⟨bk, 0, none⟩)] w fun e w' => e = .returned (.bool true) ∧ Below n₀ w w' := by
  have hA : ∀ x ∈ [(⟨v1, .slice none 0 0, 1, n⟩ : He), ⟨v2, .slice none 0 0, 2, n⟩], HA n₀ w x := by
    intro x hx
    simp at hx
    rcases hx with rfl | rfl
    · exact ⟨rfl, xs, row_mono2 h1 ha⟩
    · exact ⟨rfl, ys, row_mono2 h2 hb'⟩
  refine (apart_all hb hA ?_).mono ?_
  · refine List.pairwise_cons.2 ⟨?_, List.pairwise_cons.2 ⟨by simp, List.Pairwise.nil⟩⟩
    intro y hy k h3 h4
    simp at hy
    subst hy
    rcases h3 with h3 | h3
    · rcases h4 with h4 | h4
      · exact hd k h3 h4
      · simp [Value.ownBlock] at h4
    · simp [Value.ownBlock] at h3
  · rintro e w' ⟨he, hK⟩
    refine ⟨he, hK.below ?_ (Nat.le_trans hb.base (Nat.le_of_lt hb.lt))⟩
    rintro k (⟨x, hx, hk⟩ | hk)
    · exact ((hA x hx).blocks hk).1
    · exact (hb.blocks (.inr hk)).1


set_option maxRecDepth 20000 in
set_option maxHeartbeats 4000000 in
theorem verifyDepths_walk (p : Option Addr) (l : List Fm) (c : Nat) (fn : Int) (w : World) (hs : IsFns w p l) (hlen : l.length ≤ 140737488355328) (hc : ∀ f ∈ l, CameF f ∧ FitF f) (ht : RowsT w) :
    Calls Tryz.prog 3 #[.slice p l.length c, .int .i64 fn] w fun e w' => e = .returned (.bool true) ∧ Below w.heap.size w w' := by
  have H1 := great_in c hs hlen (fun f hf => (hc f hf).1)
  have HFIT : Hid (∀ f ∈ l, FitF f) := fun f hf => (hc f hf).2
  have HS : Hid _ := hs
  have HT : Hid (RowsT w) := ht
  clear hs hc ht
  go_enter Tryz.func3, Tryz.ntmps3
  go_wp2_with (first
    | (go_at_call 6; refine H1.mono ?_; clear H1; rintro e w1 ⟨b, rfl, hsm0, hB1⟩; refine halt_here ?_))
  unfold Halted
  cases b with
  | true =>
    clear hsm0
    go_wp2
    go_ret
    exact ⟨rfl, hB1⟩
  | false =>
    have hsm := hsm0 rfl
    clear hsm0
    have hll := hsm.len
    obtain ⟨dl, de, hdl, HANS⟩ := depths_ans l fn HFIT.out
    have H2 := twinProgram_in c (IsFns.below HS.out hB1) hll hsm.fns
    have H4 := fun (W : World) (G C : Nat) (ts : List Ft) (base : Nat) (hm : ts.map Ft.f = l) (h1 : TwFns base G C ts W) (hW : Below w.heap.size w W) => (pdepths_in (w := W) (fs := l) C fn (hm ▸ h1.isFns) hsm HFIT.out (HT.out.below hW)).mono (R' := fun e w' => AnsI dl de W.heap.size e w' ∧ Below W.heap.size W w') (fun e w' hh => ⟨HANS _ _ _ hh.1, hh.2⟩)
    have H5 := fun (W : World) (h : Below w.heap.size w W) => (rdepths_in (w := W) c fn (IsFns.below HS.out h) hsm HFIT.out).mono (R' := fun e w' => AnsI dl de W.heap.size e w' ∧ Below W.heap.size W w') (fun e w' hh => ⟨HANS _ _ _ hh.1, hh.2⟩)
    have H6 := fun (W : World) (G C : Nat) (ts : List Ft) (base : Nat) (hm : ts.map Ft.f = l) (h1 : TwFns base G C ts W) (h : Below w.heap.size w W) => leftProgram_in (p := p) c h1 (by rw [hm]; exact IsFns.below HS.out h) (by rw [ftwin_length hm]; exact hll) (fun x hx => hsm.fns x.f (by rw [← hm]; exact List.mem_map_of_mem hx))
    clear HANS
    have hdl' : dl.length ≤ 1048576 := by omega
    go_wp2_with (first
      | (refine wpList_buildBk rfl rfl ?_)
      | (go_at_call 7; refine H2.mono ?_; clear H2; rintro e w2 ⟨G, C, rfl, ts, hm, htw, hB2⟩; have k2 := hB1.trans (hB2.mono hB1.size); have a3 := H4 _ _ _ _ _ hm htw k2)
      | (go_at_call 8; (with_reducible refine a3.mono ?_); clear a3; rintro e w3 ⟨⟨p3, c3, rfl, i3, r3⟩, hB3⟩; have k3 := k2.trans (hB3.mono k2.size); have htw3 := htw.below hB3; have a4 := H4 _ _ _ _ _ hm htw3 k3)
      | (go_at_call 8; (with_reducible refine a4.mono ?_); clear a4; rintro e w4 ⟨⟨p4, c4, rfl, i4, r4⟩, hB4⟩; have k4 := k3.trans (hB4.mono k3.size); have htw4 := htw3.below hB4; have i34 := i3.below hB4; have r34 := irow_below r3 hB4)
      | (go_at_call 9; (with_reducible refine (H5 _ k4).mono ?_); clear H5; rintro e w5 ⟨⟨p5, c5, rfl, i5, r5⟩, hB5⟩; have k5 := k4.trans (hB5.mono k4.size); have htw5 := htw4.below hB5; have i35 := i34.below hB5; have r35 := irow_below r34 hB5; have i45 := i4.below hB5; have r45 := irow_below r4 hB5; have a6 := sameIntsD c3 c5 i35 i5 hdl')
      | (go_at_call 10; (with_reducible refine a6.mono ?_); clear a6; rintro e w6 ⟨rfl, hB6⟩; have k6 := k5.trans (hB6.mono k5.size); have htw6 := htw5.below hB6; have r36 := irow_below r35 hB6; have i46 := i45.below hB6; have r46 := irow_below r45 hB6; have a7 := sameIntsD c4 c5 i46 (i5.below hB6) hdl')
      | (go_at_call 10; (with_reducible refine a7.mono ?_); clear a7; rintro e w7 ⟨rfl, hB7⟩; have k7 := k6.trans (hB7.mono k6.size); have htw7 := htw6.below hB7; have r37 := irow_below r36 hB7; have r47 := irow_below r46 hB7; have H6' := H6 _ _ _ _ _ hm htw7 k7; rw [ftwin_length hm] at H6')
      | (go_at_call 11; refine H6'.mono ?_; clear H6'; rintro e w9 ⟨rfl, hB9⟩; have B9 := k7.trans (hB9.mono k7.size); have r19 := irow_below r37 hB9; have r29 := irow_below r47 hB9; obtain ⟨bk0, hB10⟩ := book_start (n₀ := w.heap.size) w9 B9.size)
      | (refine wpList_store_row rfl 53 _ _ rfl w9.heap.size _ rfl rfl 53 _ (heap_alloc_new w9 _) infoBk rfl (by simp [Value.oneCell']) ?_; refine halt_here ?_))
    unfold Halted
    rw [← (show bkW w9 = (w9.alloc (.cells #[.int .i64 0, .slice none 0 0, .slice none 0 0, .slice none 0 0, .slice none 0 0, .slice none 0 0, .slice none 0 0, .slice none 0 0, .slice none 0 0, .slice none 0 0, .slice none 0 0, .slice none 0 0, .slice none 0 0, .slice none 0 0, .slice none 0 0, .slice none 0 0, .slice none 0 0, .slice none 0 0, .slice none 0 0, .slice none 0 0, .slice none 0 0] 53 (0, 0))).setRow w9.heap.size #[.int .i64 0, .slice none 0 0, .slice none 0 0, .slice none 0 0, .slice none 0 0, .slice none 0 0, .slice none 0 0, .slice none 0 0, .slice none 0 0, .slice none 0 0, .slice none 0 0, .slice none 0 0, .slice none 0 0, .slice none 0 0, .slice none 0 0, .slice none 0 0, .slice none 0 0, .slice none 0 0, .slice none 0 0, .slice none 0 0, .slice none 0 0] from rfl)]
    obtain ⟨W, hW⟩ : ∃ W, bkW w9 = W := ⟨_, rfl⟩
    rw [hW] at bk0 hB10 ⊢
    have B10 := B9.trans (hB10.mono B9.size)
    have r1a := irow_below r19 hB10
    have r2a := irow_below r29 hB10
    have hdis : ∀ k, Value.ownBlock (.slice p3 dl.length c3) = some k → Value.ownBlock (.slice p4 dl.length c4) ≠ some k := fun k e e2 => by
      have := (r3.lt k e).2; have := (r4.lt k e2).1; omega
    have n1 : w.heap.size ≤ w2.heap.size := k2.size
    have n2 : w.heap.size ≤ w3.heap.size := k3.size
    clear hW r3 r34 r35 r36 r37 r4 r45 r46 r47 r19 r29 r5 i3 i34 i35 i4 i45 i46 i5 hB2 hB3 hB4 hB5 hB6 hB7 hB9 htw htw3 htw4 htw5 htw6 htw7 H4 H6 k2 k3 k4 k5 k6 k7
    have b1 := ints_keep bk0 (by simp) p3 dl.length c3 hdl'
    go_wp2_with (first
      | (go_at_call 12; refine b1.mono ?_; clear b1; rintro e w11 ⟨rfl, vp1, bk1, hK1, _⟩; have r1b := keep_irow bk0 r1a hK1; have r2b := keep_irow bk0 r2a hK1; have B11 := B10.trans (hK1.below (fun k hk => (bk0.blocks hk).1) B10.size); have b2 := ints_keep bk1 (by simp) p4 dl.length c4 hdl')
      | (go_at_call 12; refine b2.mono ?_; clear b2; rintro e w12 ⟨rfl, vp2, bk2, hK2, _⟩; have r1c := keep_irow bk1 r1b hK2; have r2c := keep_irow bk1 r2b hK2; have B12 := B11.trans (hK2.below (fun k hk => (bk1.blocks hk).1) B11.size); have b4 := apart_two bk2 r1c r2c n1 n2 hdis)
      | (go_at_call 13; refine b4.mono ?_; clear b4; rintro e w14 ⟨rfl, hB14⟩))
    go_ret
    exact ⟨rfl, B12.trans hB14⟩

end Go.Proofs.YtpjgdbeekmoedaaGreatDoor
