/- ShowTexts: the document's Text; the walk. -/
import Derived.Test.YtppjahnahomkeaaDoorShTellR
import Derived.Test.YtppjahnahomkeaaDoorShTwinO
import Derived.Test.YtppjahnahomkeaaDoorShGreat
import Derived.Lib.BufferRead
namespace Go.Proofs.YtppjahnahomkeaaDoor
set_option linter.unusedVariables false
set_option linter.unusedSimpArgs false
open Go.RowKit

variable {w : World}

theorem twin_len {ts : List Ot} {S : List Om} (h : ts.map Ot.o = S) : ts.length = S.length := by rw [← h]; simp

set_option maxRecDepth 20000 in
set_option maxHeartbeats 1000000 in
/-- The document's Text. -/
theorem rText_in {p : Option Addr} {S : List Om} (c : Nat) (hs : IsSt w p S) (hl : S.length ≤ 1048576) (hstr : ∀ o ∈ S, o.s.size ≤ 1048576) (hfit : ∀ o ∈ S, o.fits) (hll : ∀ o ∈ S, o.l.length ≤ 1048576) (v : Vl) (hf : v.fits) (tx : ByteArray) (tb : Bool)
    (h1 : (textB S v).length ≤ 4096 → tx = ⟨(textB S v).toArray⟩ ∧ tb = true) (h2 : 4096 < (textB S v).length → tx = ⟨#[]⟩ ∧ tb = false) :
    Calls Tryd.prog 10 #[.slice p S.length c, .agg #[.int .u8 v.k, .int .i64 v.n]] w fun e w' => e = .returned (.tuple #[.string tx, .bool tb]) ∧ Below w.heap.size w w' := by
  have hA := below2' w (.cells #[.int .u8 v.k, .int .i64 v.n] 26) (.cells #[.slice p S.length c, .slice none 0 0, .bool false] 54)
  have hv0 := (Below.heap_alloc (w.alloc (.cells #[.int .u8 v.k, .int .i64 v.n] 26)) (.cells #[.slice p S.length c, .slice none 0 0, .bool false] 54) w.heap.size (by simp)).trans (heap_alloc_new w (.cells #[.int .u8 v.k, .int .i64 v.n] 26))
  have hp0 := heap_two w (.cells #[.int .u8 v.k, .int .i64 v.n] 26) (.cells #[.slice p S.length c, .slice none 0 0, .bool false] 54)
  have ht : Tl w.heap.size (w.heap.size + 1) (.slice p S.length c) [] false ((w.alloc (.cells #[.int .u8 v.k, .int .i64 v.n] 26)).alloc (.cells #[.slice p S.length c, .slice none 0 0, .bool false] 54)) :=
    ⟨by omega, by simp, _, hp0, World.ownsRow_nil _ _ _ _⟩
  have HV0 := tvalue_all (bt := w.heap.size + 1) (c := c) hs hl hstr hfit hll 9 (by omega) _ [] false v hf hA ht
  have HV : Calls Tryd.prog 21 #[.pointer (some ⟨w.heap.size + 1, 0, none⟩), .agg #[.int .u8 v.k, .int .i64 v.n], .int .i64 0] ((w.alloc (.cells #[.int .u8 v.k, .int .i64 v.n] 26)).alloc (.cells #[.slice p S.length c, .slice none 0 0, .bool false] 54)) fun e w' => TPuts w.heap.size (w.heap.size + 1) (.slice p S.length c) [] false (textB S v) ((w.alloc (.cells #[.int .u8 v.k, .int .i64 v.n] 26)).alloc (.cells #[.slice p S.length c, .slice none 0 0, .bool false] 54)) e w' := HV0
  obtain ⟨v0, v1⟩ := cell_rowV hv0
  have HH : Hid _ := And.intro h1 h2
  clear HV0 hs hstr hfit hll h1 h2
  go_enter Tryd.func10, Tryd.ntmps10
  go_wp2_with (first
    | (go_at_call 21; (with_reducible refine HV.mono ?_); clear HV; rintro e w1 hT; obtain ⟨rfl, l', lg', ht1, hp1, hP1⟩ := hT; refine halt_here ?_))
  unfold Halted
  have hB1 : Below w.heap.size w w1 := hA.trans (hP1.bel)
  obtain ⟨hb0, -, vb, hblk, hown⟩ := ht1
  obtain ⟨⟨t0, t1, t2⟩, -⟩ := cell_row3' hblk
  obtain ⟨e1, e2⟩ := hp1
  simp only [List.length_nil, Nat.zero_add, Bool.false_or, List.nil_append] at e1 e2
  obtain ⟨g1, g2⟩ := HH.out
  by_cases hlong : 4096 < (textB S v).length
  · have hlg : lg' = true := by rw [e1]; simpa using hlong
    subst hlg
    obtain ⟨rfl, rfl⟩ := g2 hlong
    obtain ⟨pv, cv, rfl, -⟩ := row_form hown
    clear e1 e2 g1 g2 HH hown
    go_wp2
    go_ret2
    exact ⟨rfl, hB1⟩
  · have hlg : lg' = false := by rw [e1]; simpa using hlong
    have el := e2 hlg
    subst hlg
    subst el
    obtain ⟨htx, rfl⟩ := g1 (by omega)
    rcases hown.2 with ⟨hv, hn0⟩ | ⟨g, cap, cur, hv, -⟩
    · subst hv
      have hcv : (convert 45 9 (.slice none 0 0)).run Tryd.prog w1 = .ok (.string ⟨(textB S v).toArray⟩) w1 := by
        rw [List.eq_nil_of_length_eq_zero hn0]
        exact Lib.run_convert_nil_bytes (P := Tryd.prog) w1 45 9 5 0 Tryd.underlying45 Tryd.underlying5 Tryd.underlying9
      rw [← htx] at hcv
      clear e1 e2 g1 g2 HH hown hn0 htx
      go_wp2
      go_ret2
      exact ⟨rfl, hB1⟩
    · subst hv
      have hcv := backS_bytes hown
      rw [← htx] at hcv
      clear e1 e2 g1 g2 HH hown htx
      go_wp2
      go_ret2
      exact ⟨rfl, hB1⟩

set_option maxRecDepth 20000 in
set_option maxHeartbeats 4000000 in
theorem showTexts_walk (p : Option Addr) (S : List Om) (c : Nat) (v : Vl) (w : World) (hs : IsSt w p S) (hb : Came S) (hfit : ∀ o ∈ S, o.fits) (hfv : v.fits) (htab : Tab w) :
    Calls Tryd.prog 3 #[.slice p S.length c, .agg #[.int .u8 v.k, .int .i64 v.n]] w fun e w' => e = .returned (.bool true) ∧ Below w.heap.size w w' := by
  have hv0 := heap_alloc_new w (.cells #[.int .u8 v.k, .int .i64 v.n] 26)
  have hA := below1 w (.cells #[.int .u8 v.k, .int .i64 v.n] 26)
  have H1 := great_in c (hs.below hA) hb
  go_enter Tryd.func3, Tryd.ntmps3
  go_wp2_with (first
    | (go_at_call 7; refine H1.mono ?_; clear H1; rintro e w1 ⟨b, rfl, hsm0, hB0⟩; refine halt_here ?_))
  unfold Halted
  have hB1 : Below w.heap.size w w1 := hA.trans (hB0.mono hA.size)
  cases b with
  | true =>
    clear hsm0
    go_wp2
    go_ret
    exact ⟨rfl, hB1⟩
  | false =>
    obtain ⟨hsm, -⟩ := hsm0 rfl
    clear hsm0
    have hsl := hsm.len
    have hls : ∀ o ∈ S, o.l.length ≤ 1000000 := fun o ho => by have := hsm.vals o ho; omega
    have hll : ∀ o ∈ S, o.l.length ≤ 1048576 := fun o ho => by have := hsm.vals o ho; omega
    have hv1 := (hB0.block w.heap.size (by simp)).trans hv0
    have hvl := (Array.getElem?_eq_some_iff.1 hv1).1
    obtain ⟨tx, tb, hx1, hx2⟩ : ∃ (tx : ByteArray) (tb : Bool), ((textB S v).length ≤ 4096 → tx = ⟨(textB S v).toArray⟩ ∧ tb = true) ∧ (4096 < (textB S v).length → tx = ⟨#[]⟩ ∧ tb = false) := by
      by_cases hl : (textB S v).length ≤ 4096
      · exact ⟨_, _, fun _ => ⟨rfl, rfl⟩, fun h => by omega⟩
      · exact ⟨_, _, fun h => absurd h hl, fun _ => ⟨rfl, rfl⟩⟩
    have H2 := twinStore_in c (hs.below hB1) hsl hls
    have H4 : ∀ (W : World) (G C : Nat) (ts : List Ot) (base : Nat), ts.map Ot.o = S → TwinSt base G C ts W → Below w.heap.size w W → Calls Tryd.prog 9 #[.slice (some ⟨G, 0, none⟩) S.length C, .agg #[.int .u8 v.k, .int .i64 v.n]] W fun e w' => e = .returned (.tuple #[.string tx, .bool tb]) ∧ Below W.heap.size W w' := fun W G C ts base hm h1 hBW => by
      have G0 : Given W (some ⟨G, 0, none⟩) S := ⟨hm ▸ h1.isSt, Nat.le_trans hsm.len (by unfold maxLen; decide), hsm.str, hfit, htab.below hBW⟩
      by_cases hl : (textB S v).length ≤ 4096
      · obtain ⟨rfl, rfl⟩ := hx1 hl
        exact Text_fits C G0 hll v hfv hl
      · obtain ⟨rfl, rfl⟩ := hx2 (by omega)
        exact Text_long C G0 hll v hfv (by omega)
    have H5 := fun (W : World) (h : Below w.heap.size w W) => rText_in c (hs.below h) hsl hsm.str hfit hll v hfv tx tb hx1 hx2
    have H6 := fun (W : World) (G C : Nat) (ts : List Ot) (base : Nat) (hm : ts.map Ot.o = S) (h1 : TwinSt base G C ts W) (h : Below w.heap.size w W) => leftStore_in (p := p) c h1 (by rw [hm]; exact hs.below h) (by rw [twin_len hm]; exact hsl) (fun x hx => hls x.o (by rw [← hm]; exact List.mem_map_of_mem hx))
    clear hls hll hs hb hfit hx1 hx2 htab
    go_wp2_with (first
      | (go_at_call 8; refine H2.mono ?_; clear H2; rintro e w2 ⟨G, C, rfl, ts, hm, htw, hB2⟩; refine halt_here ?_))
    unfold Halted
    have hB2' := hB1.trans (hB2.mono hB1.size)
    have hv2 := (hB2.block w.heap.size hvl).trans hv1
    obtain ⟨x0, x1⟩ := cell_rowV hv2
    have H4' := H4 w2 G C ts _ hm htw hB2'
    go_wp2_with (first
      | (go_at_call 9; (with_reducible refine H4'.mono ?_); clear H4'; rintro e w3 ⟨rfl, hB3⟩; refine halt_here ?_))
    unfold Halted
    have hB3' := hB2'.trans (hB3.mono hB2'.size)
    have hv3 := (hB3.block w.heap.size (Array.getElem?_eq_some_iff.1 hv2).1).trans hv2
    obtain ⟨y0, y1⟩ := cell_rowV hv3
    have htw3 := htw.below hB3
    have H5' := H5 w3 hB3'
    go_wp2_with (first
      | (go_at_call 10; (with_reducible refine H5'.mono ?_); clear H5'; rintro e w4 ⟨rfl, hB4⟩; refine halt_here ?_))
    unfold Halted
    have hB4' := hB3'.trans (hB4.mono hB3'.size)
    have htw4 := htw3.below hB4
    have H6' := H6 w4 G C ts _ hm htw4 hB4'
    rw [twin_len hm] at H6'
    clear H4 H5 H6
    go_wp2_with (first
      | (go_at_call 11; (with_reducible refine H6'.mono ?_); clear H6'; rintro e w5 ⟨rfl, hB5⟩))
    go_ret
    exact ⟨rfl, hB4'.trans (hB5.mono hB4'.size)⟩

end Go.Proofs.YtppjahnahomkeaaDoor
