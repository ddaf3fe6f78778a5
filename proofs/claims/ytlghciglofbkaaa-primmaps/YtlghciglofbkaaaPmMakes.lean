/- makes: a new object behind a store. -/
import Derived.Test.YtlghciglofbkaaaPmDid
import Derived.Test.YtlghciglofbkaaaShEachW
import Derived.Deep.AppendLies
import Derived.Deep.Cut
namespace Go.Proofs.Ytlghciglofbkaaa
set_option linter.unusedVariables false
set_option linter.unusedSimpArgs false
open Go.RowKit

variable {w : World}

theorem OwnSt.snoc {base : Nat} {p : Option Addr} {n c : Nat} {v' : Value} {ts : List Po} {x : Po} {W w4 : World} (h : OwnSt base (.slice p n c) ts W) (hx : W.ownsRow base 26 2 x.lv x.o.l.length (vcells x.o.l)) (hne : ∀ y ∈ ts, ∀ k, y.lv.ownBlock = some k → x.lv.ownBlock ≠ some k)
    (hrow : w4.ownsRow base 55 5 v' (ts.length + 1) (pcells ts ++ pcell x)) (hg : W.grownBy w4 (Value.slice p n c).ownBlock) : OwnSt base v' (ts ++ [x]) w4 := by
  have hk : ∀ (k : Nat) {m : Nat} {v : Value} {ys : List Value}, W.ownsRow base 26 2 v m ys → v.ownBlock = some k → w4.heap[k]? = W.heap[k]? := fun k m v ys hr e => by
    refine hg.block k (hr.lt k e).2 (fun e2 => ?_)
    obtain ⟨c1, h1⟩ := row_obj hr e
    obtain ⟨c2, h2⟩ := row_obj h.row e2.symm
    rw [h1] at h2; cases h2
  refine ⟨?_, ?_, ?_⟩
  · rw [pcells_append]
    simpa [pcells] using hrow
  · intro y hy
    rcases List.mem_append.1 hy with hy | hy
    · exact row_kept (h.lst y hy) (fun k e => hk k (h.lst y hy) e)
    · simp at hy; subst hy
      exact row_kept hx (fun k e => hk k hx e)
  · have hcase : ∀ (i : Nat) (y : Po), (ts ++ [x])[i]? = some y → ts[i]? = some y ∨ (i = ts.length ∧ y = x) := fun i y hy => by
      by_cases hi : i < ts.length
      · rw [List.getElem?_append_left hi] at hy; exact .inl hy
      · rw [List.getElem?_append_right (by omega)] at hy
        have := (List.getElem?_eq_some_iff.1 hy).1
        simp at this
        have hi' : i = ts.length := by omega
        subst hi'
        simp at hy
        exact .inr ⟨rfl, hy.symm⟩
    intro i j y z k hy hz h1 h2
    rcases hcase i y hy with hy' | ⟨rfl, e1⟩ <;> rcases hcase j z hz with hz' | ⟨rfl, e2⟩
    · exact h.one i j y z k hy' hz' h1 h2
    · rw [e2] at h2; exact (hne y (List.mem_of_getElem? hy') k h1 h2).elim
    · rw [e1] at h1; exact (hne z (List.mem_of_getElem? hz') k h2 h1).elim
    · rfl

theorem words_alone {o : Om} (h3 : 3 ≤ o.k) (h7 : o.k ≤ 7) : wordsR [o] [⟨o.k, 1⟩] = wordsO o := by
  have hl : leadO [o] ⟨o.k, 1⟩ ≠ none := by
    unfold leadO
    rw [if_pos ⟨h3, h7, by simp, by simp⟩]
    simp
  have hr : Reach [o] [⟨o.k, 1⟩] 1 := Reach.root (v := ⟨o.k, 1⟩) (by simp) hl
  unfold wordsR
  simp [sumIf, hr]

/-- One object in a block of its own is a store. -/
theorem one_st {W : World} {b : Nat} {o : Om} {q : Option Addr} {cq : Nat} (h : W.heap[b]? = some (.cells #[.int .u8 o.k, .string o.s, .slice q o.l.length cq, .int .i64 o.room, .int .i64 o.fn] 55 (0, 0))) (hv : Vals W q o.l) (hq : q = none → cq = 0) : IsSt W (some ⟨b, 0, none⟩) [o] := by
  intro j x hj
  have hj0 : j = 0 := by have := (List.getElem?_eq_some_iff.1 hj).1; simp at this; omega
  subst hj0
  simp at hj; subst hj
  obtain ⟨⟨c0, c1, c2, c3, c4⟩, -⟩ := cell_row5 h
  exact ⟨b, 0, rfl, by simpa using c0, by simpa using c1, ⟨q, cq, by simpa using c2, hv, hq⟩, by simpa using c3, by simpa using c4⟩

theorem one_val {W : World} {b : Nat} {v : Vl} (h : W.heap[b]? = some (.cells #[.int .u8 v.k, .int .i64 v.n] 26 (0, 0))) : Vals W (some ⟨b, 0, none⟩) [v] := by
  intro j x hj
  have hj0 : j = 0 := by have := (List.getElem?_eq_some_iff.1 hj).1; simp at this; omega
  subst hj0
  simp at hj; subst hj
  obtain ⟨c0, c1⟩ := cell_row2 h
  exact ⟨b, 0, rfl, by simpa using c0, by simpa using c1⟩

theorem pcell_news {W : World} {b : Nat} {x : Po} (h : W.heap[b]? = some (.cells #[.int .u8 x.o.k, .string x.o.s, x.lv, .int .i64 x.o.room, .int .i64 x.o.fn] 55 (0, 0))) : ∀ j u, (pcell x)[j]? = some u → W.cell? ((⟨b, 0, none⟩ : Addr).add j) = some u := by
  intro j u hj
  rw [Addr.add_lit, cell_of_row W b _ _ _ _ h]
  simpa [pcell] using hj

theorem pcell_one (o : Om) {q : Option Addr} (cq : Nat) : ∀ u ∈ pcell ⟨o, .slice q o.l.length cq⟩, u.oneCell' = true := by
  intro u hu
  simp [pcell] at hu
  rcases hu with rfl | rfl | rfl | rfl | rfl <;> rfl

theorem mk_row {base base' : Nat} {p1 : Option Addr} {S : List Om} {c1 : Nat} {ts : List Po} {wc wr : World} {X : Obj} (ho : OwnSt base' (.slice p1 S.length c1) ts wc) (hm : ts.map Po.o = S) (hB : Below wc.heap.size wc wr) (hb : base ≤ base') : (wr.alloc X).ownsRow base 55 5 (.slice p1 S.length c1) S.length (pcells ts) := by
  have hl : ts.length = S.length := by rw [← hm]; simp
  have := row_mono2 (row_below (row_below ho.row hB) (below1 wr X)) hb
  rw [hl] at this
  exact this

/-- What stands behind the first part. -/
def MkS (w : World) (S : List Om) (o : Om) (q : Option Addr) (cq : Nat) (s : Value) (W : World) : Prop :=
  ∃ p c ts, s = .slice p (S.length + 1) c ∧ ts.map Po.o = S ++ [o] ∧ OwnSt w.heap.size (.slice p (S.length + 1) c) ts W ∧ Below w.heap.size w W ∧ W.heap[w.heap.size]? = some (.cells #[.int .u8 o.k, .string o.s, .slice q o.l.length cq, .int .i64 o.room, .int .i64 o.fn] 55 (0, 0)) ∧ W.heap[w.heap.size + 1]? = some (.cells #[.slice none 0 0, .int .u8 0, .int .i64 0, .string ⟨#[]⟩, .int .i64 0] 28 (0, 0))

theorem mks_fin {S : List Om} {o : Om} {q : Option Addr} {cq : Nat} {W Wa w4 : World} {p1 : Option Addr} {c1 : Nat} {ts : List Po} {lv : Value} (hm : ts.map Po.o = S) (ho : OwnSt w.heap.size (.slice p1 S.length c1) ts Wa) (hlv : Wa.ownsRow w.heap.size 26 2 lv o.l.length (vcells o.l)) (hne : ∀ y ∈ ts, ∀ k, y.lv.ownBlock = some k → lv.ownBlock ≠ some k)
    (hWa : Below W.heap.size W Wa) (hw : Below w.heap.size w W) (hb0 : W.heap[w.heap.size]? = some (.cells #[.int .u8 o.k, .string o.s, .slice q o.l.length cq, .int .i64 o.room, .int .i64 o.fn] 55 (0, 0))) (hb1 : W.heap[w.heap.size + 1]? = some (.cells #[.slice none 0 0, .int .u8 0, .int .i64 0, .string ⟨#[]⟩, .int .i64 0] 28 (0, 0)))
    (hfar : ∀ g, (Value.slice p1 S.length c1).ownBlock = some g → w.heap.size + 2 ≤ g) {g4 c4 : Nat} (hrow : w4.ownsRow w.heap.size 55 5 (.slice (some ⟨g4, 0, none⟩) (S.length + 1) c4) (S.length + 1) (pcells ts ++ pcell ⟨o, lv⟩)) (hg : Wa.grownBy w4 (Value.slice p1 S.length c1).ownBlock) : MkS w S o q cq (.slice (some ⟨g4, 0, none⟩) (S.length + 1) c4) w4 := by
  have hl : ts.length = S.length := by rw [← hm]; simp
  have hB : Below w.heap.size w Wa := hw.trans (hWa.mono hw.size)
  have hk : ∀ k, k < w.heap.size + 2 → k < W.heap.size → w4.heap[k]? = W.heap[k]? := fun k h1 h2 =>
    (hg.block k (Nat.lt_of_lt_of_le h2 hWa.size) (fun e => by have := hfar k e.symm; omega)).trans (hWa.block k h2)
  refine ⟨_, _, ts ++ [⟨o, lv⟩], rfl, by simp [hm], OwnSt.snoc ho hlv hne (by rw [hl]; exact hrow) hg, ?_, ?_, ?_⟩
  · exact hB.trans (rbelow_grown hg (fun g e => by have := hfar g e; omega) hB.size)
  · rw [hk _ (by omega) (Array.getElem?_eq_some_iff.1 hb0).1]; exact hb0
  · rw [hk _ (by omega) (Array.getElem?_eq_some_iff.1 hb1).1]; exact hb1

set_option maxRecDepth 20000 in
set_option maxHeartbeats 4000000 in
theorem makes_in {p : Option Addr} {S : List Om} (h : Ask w p S) (c : Nat) (o : Om) {q : Option Addr} (cq : Nat) (hv : Vals w q o.l) (hq : q = none → cq = 0) (hl : o.l.length ≤ 100000) (hs : o.s.size ≤ 1048576) (hr : o.room ≤ 1099511627776) (h3 : 3 ≤ o.k) (h7 : o.k ≤ 7) :
    Calls Try.prog 18 #[.slice p S.length c, objV o q cq] w (DidR w (S ++ [o]) ⟨o.k, (S.length : Int) + 1⟩ ⟨#[]⟩ (wordsO o : Nat)) := by
  unfold objV
  have hB0 := below2' w (.cells #[.int .u8 o.k, .string o.s, .slice q o.l.length cq, .int .i64 o.room, .int .i64 o.fn] 55) (.cells #[.slice none 0 0, .int .u8 0, .int .i64 0, .string ⟨#[]⟩, .int .i64 0] 28)
  have hb1 := heap_two w (.cells #[.int .u8 o.k, .string o.s, .slice q o.l.length cq, .int .i64 o.room, .int .i64 o.fn] 55) (.cells #[.slice none 0 0, .int .u8 0, .int .i64 0, .string ⟨#[]⟩, .int .i64 0] 28)
  have hb0 := (Below.heap_alloc _ (.cells #[.slice none 0 0, .int .u8 0, .int .i64 0, .string ⟨#[]⟩, .int .i64 0] 28) w.heap.size (by simp)).trans (heap_alloc_new w (.cells #[.int .u8 o.k, .string o.s, .slice q o.l.length cq, .int .i64 o.room, .int .i64 o.fn] 55))
  have hSl := h.len
  obtain ⟨i0, hi, hz0, hz1, hz2⟩ := info_parts infoO5
  go_enter Try.func18, Try.ntmps18
  go_wp2_with fail
  generalize hW : (w.alloc (.cells #[.int .u8 o.k, .string o.s, .slice q o.l.length cq, .int .i64 o.room, .int .i64 o.fn] 55)).alloc (.cells #[.slice none 0 0, .int .u8 0, .int .i64 0, .string ⟨#[]⟩, .int .i64 0] 28) = W at *
  have hWs : W.heap.size = w.heap.size + 2 := by rw [← hW]; simp
  have HWS : Hid _ := hWs
  clear hW hWs
  have hBd : Below w.heap.size w W.drew := below_drew hB0
  have hWd : Below W.heap.size W W.drew := below_drew (Below.refl _ _)
  have hb1d : W.drew.heap[w.heap.size + 1]? = _ := hb1
  have hb0d : W.drew.heap[w.heap.size]? = _ := hb0
  have hlt0 := (Array.getElem?_eq_some_iff.1 hb0d).1
  have HC := fun (W' : World) (hB : Below w.heap.size w W') => (h.below hB).copyOf c
  have HR := fun (W' : World) (hB : Below w.heap.size w W') => renewed_in o cq (hv.below hB) (Nat.le_trans hl (by decide)) hs
  unfold objV poV at HR
  obtain ⟨⟨x0, x1, x2, x3, x4⟩, -⟩ := cell_row5 hb0
  go_cut [5] from 6 (fun s5 W4 => MkS w S o q cq s5 W4)
  case first =>
    go_region_law (first
      | (go_simp; go_at_call 45; (with_reducible refine (HC W.drew hBd).mono ?_); rintro e wc ⟨v1, rfl, ⟨ts, hm, ho⟩, hBC⟩; obtain ⟨p1, c1, rfl⟩ := own_len ho hm; have hboxc := (hBC.block _ hlt0).trans hb0d; obtain ⟨⟨x0, x1, x2, x3, x4⟩, -⟩ := cell_row5 hboxc; have hBc := hBd.trans (hBC.mono hBd.size); (try dsimp only [Oper.upon]))
      | (go_simp; go_at_call 48; (with_reducible refine (HR wc hBc).mono ?_); rintro e wr ⟨lv, rfl, hown, hBR⟩; obtain ⟨pl, cl, rfl, -⟩ := own_slice hown; (try dsimp only [Oper.upon]))
      | (refine step_append_lies _ (by rfl) _ _ _ (by rfl) w.heap.size 55 i0 (.agg #[.int .u8 0, .string ⟨#[]⟩, .slice none 0 0, .int .i64 0, .int .i64 0]) 5 64 Try.underlying23 hi hz0 hz1 hz2 rfl (by omega) (.slice p1 S.length c1) S.length (pcells ts) (by rfl) (mk_row ho hm hBR hBd.size) ⟨wr.heap.size, 0, none⟩ 1 1 (pcell ⟨o, .slice pl o.l.length cl⟩) (by rfl) rfl (pcell_news (heap_alloc_new wr _)) (pcell_one _ _) (by omega) (by unfold maxLen; omega) (by omega) (by have := hBc.size; have := hBR.size; simp; omega) (wr.heap.size + 1) (by simp) ?_; intro g4 c4 w4 ho4 hg4 hat4 hlt4))
    all_goals
      have hMk : MkS w S o q cq (.slice (some ⟨g4, 0, none⟩) (S.length + 1) c4) w4 := mks_fin (Wa := wr.alloc (.cells #[.int .u8 o.k, .string o.s, .slice pl o.l.length cl, .int .i64 o.room, .int .i64 o.fn] 55)) hm (((ho.mono hBd.size).below hBR).below (below1 _ _)) (row_below (row_mono2 hown hBc.size) (below1 _ _))
        (fun y hy k e1 e2 => by have := ((ho.lst y hy).lt k e1).2; have := (hown.lt k e2).1; omega)
        ((hWd.trans (hBC.mono hWd.size)).trans ((hBR.trans ((below1 wr _).mono hBR.size)).mono (Nat.le_trans hWd.size hBC.size))) hB0 hb0 hb1 (fun g e => by have := (ho.row.lt g e).1; have := HWS.out; have : W.drew.heap.size = W.heap.size := rfl; omega) ho4 hg4
      go_wp2_with fail
      go_meet
      case rel => exact hMk
  case rest =>
    obtain ⟨p5, c5, ts5, rfl, hm5, ho5, hB5, hx5, hd5⟩ := hcut
    have HFIN : Hid _ := And.intro hm5 ho5
    clear hm5 ho5 x0 x1 x2 x3 x4 HC HR
    have HW : ∀ (W' : World) (bX bY : Nat), Below w.heap.size w W' → W'.heap[bX]? = some (.cells #[.int .u8 o.k, .string o.s, .slice q o.l.length cq, .int .i64 o.room, .int .i64 o.fn] 55 (0, 0)) → W'.heap[bY]? = some (.cells #[.int .u8 o.k, .int .i64 1] 26 (0, 0)) → Calls Try.prog 49 #[.slice (some ⟨bX, 0, none⟩) 1 1, .slice (some ⟨bY, 0, none⟩) 1 1] W' fun e w' => e = .returned (.int .i64 (wordsO o : Nat)) ∧ Below W'.heap.size W' w' := fun W' bX bY hB hX hY => by
      have := Words_in (S := [o]) (roots := [⟨o.k, 1⟩]) 1 1 (one_st hX (hv.below hB) hq) ⟨by simp, by simpa using hl, by simpa using hs, by simpa using hr⟩ (one_val (v := ⟨o.k, 1⟩) hY) (by simp)
      rw [words_alone h3 h7] at this
      exact this
    have hd5l := (Array.getElem?_eq_some_iff.1 hd5).1
    have hx5l := (Array.getElem?_eq_some_iff.1 hx5).1
    have FS : ∀ W', Below wc.heap.size wc W' → W'.cell? ⟨w.heap.size, 0, none⟩ = some (.int .u8 o.k) ∧ W'.cell? ⟨w.heap.size, 1, none⟩ = some (.string o.s) ∧ W'.cell? ⟨w.heap.size, 2, none⟩ = some (.slice q o.l.length cq) ∧ W'.cell? ⟨w.heap.size, 3, none⟩ = some (.int .i64 o.room) ∧ W'.cell? ⟨w.heap.size, 4, none⟩ = some (.int .i64 o.fn) := fun W' hB => (cell_row5 ((hB.block _ hx5l).trans hx5)).1
    have hne : w.heap.size ≠ w.heap.size + 1 := by omega
    have hA0 := below_drew (Below.refl wc.heap.size wc)
    have hA1 := below_drew (below1 wc (.cells #[.int .u8 o.k, .string o.s, .slice q o.l.length cq, .int .i64 o.room, .int .i64 o.fn] 55))
    have hA2 := below_drew (below1 wc (.cells #[.int .u8 o.k, .int .i64 1] 26))
    have hA3 := below_drew (below2' wc (.cells #[.int .u8 o.k, .string o.s, .slice q o.l.length cq, .int .i64 o.room, .int .i64 o.fn] 55) (.cells #[.int .u8 o.k, .int .i64 1] 26))
    have hA4 := below_drew (below2' wc (.cells #[.int .u8 o.k, .int .i64 1] 26) (.cells #[.int .u8 o.k, .string o.s, .slice q o.l.length cq, .int .i64 o.room, .int .i64 o.fn] 55))
    have S0 := FS _ hA0
    have S1 := FS _ hA1
    have S2 := FS _ hA2
    have S3 := FS _ hA3
    have S4 := FS _ hA4
    have hboxX := (Below.heap_alloc _ (.cells #[.int .u8 o.k, .int .i64 1] 26) wc.heap.size (by simp)).trans (heap_alloc_new wc (.cells #[.int .u8 o.k, .string o.s, .slice q o.l.length cq, .int .i64 o.room, .int .i64 o.fn] 55))
    have hboxY := (Below.heap_alloc _ (.cells #[.int .u8 o.k, .string o.s, .slice q o.l.length cq, .int .i64 o.room, .int .i64 o.fn] 55) wc.heap.size (by simp)).trans (heap_alloc_new wc (.cells #[.int .u8 o.k, .int .i64 1] 26))
    obtain ⟨x0, x1, x2, x3, x4⟩ := FS wc (Below.refl _ _)
    have hW3 := HW ((wc.alloc (.cells #[.int .u8 o.k, .string o.s, .slice q o.l.length cq, .int .i64 o.room, .int .i64 o.fn] 55)).alloc (.cells #[.int .u8 o.k, .int .i64 1] 26)).drew wc.heap.size (wc.heap.size + 1) (hB5.trans (hA3.mono hB5.size)) hboxX (heap_two wc _ _)
    have hW4 := HW ((wc.alloc (.cells #[.int .u8 o.k, .int .i64 1] 26)).alloc (.cells #[.int .u8 o.k, .string o.s, .slice q o.l.length cq, .int .i64 o.room, .int .i64 o.fn] 55)).drew (wc.heap.size + 1) wc.heap.size (hB5.trans (hA4.mono hB5.size)) (heap_two wc _ _) hboxY
    clear FS
    go_wp2_with fail
    go_region_held3 (fun W => W.cell? ⟨w.heap.size, 0, none⟩ = some (.int .u8 o.k) ∧ W.cell? ⟨w.heap.size, 1, none⟩ = some (.string o.s) ∧ W.cell? ⟨w.heap.size, 2, none⟩ = some (.slice q o.l.length cq) ∧ W.cell? ⟨w.heap.size, 3, none⟩ = some (.int .i64 o.room) ∧ W.cell? ⟨w.heap.size, 4, none⟩ = some (.int .i64 o.fn)) (first | with_reducible exact S0 | with_reducible exact S1 | with_reducible exact S2 | with_reducible exact S3 | with_reducible exact S4 | with_reducible exact ⟨x0, x1, x2, x3, x4⟩ | with_reducible exact ⟨s0, s1, s2, s3, s4⟩ | with_reducible exact ⟨(cell_set5 hne).trans s0, (cell_set5 hne).trans s1, (cell_set5 hne).trans s2, (cell_set5 hne).trans s3, (cell_set5 hne).trans s4⟩ | go_keep)
      (first
        | (go_at_call 49; (with_reducible refine hW3.mono ?_); rintro e w6 ⟨rfl, hB6⟩; have hA6 := hA3.trans (hB6.mono hA3.size); have hd6 := (hA6.block _ hd5l).trans hd5; obtain ⟨⟨s0, s1, s2, s3, s4⟩, -⟩ := cell_row5 ((hA6.block _ hx5l).trans hx5); obtain ⟨⟨z0, z1, z2, z3, z4⟩, y0, y1, y2, y3, y4⟩ := cell_row5 hd6)
        | (go_at_call 49; (with_reducible refine hW4.mono ?_); rintro e w6 ⟨rfl, hB6⟩; have hA6 := hA4.trans (hB6.mono hA4.size); have hd6 := (hA6.block _ hd5l).trans hd5; obtain ⟨⟨s0, s1, s2, s3, s4⟩, -⟩ := cell_row5 ((hA6.block _ hx5l).trans hx5); obtain ⟨⟨z0, z1, z2, z3, z4⟩, y0, y1, y2, y3, y4⟩ := cell_row5 hd6))
    all_goals
      go_wp2
      refine bodyPost_ret (results_cell_row (by rfl) _ _ (w.heap.size + 1) 28 _ _ _ (by rfl) (set5_row hd6) Try.underlying28 (by rfl) infoDid) (by rfl) ?_
      have hsl : (S ++ [o]).length = S.length + 1 := by simp
      have := did_fin (w := w) hd6 (by omega) (S := S ++ [o]) (p := p5) (c := c5) ⟨ts5, HFIN.out.1, by rw [hsl]; exact HFIN.out.2.below hA6⟩ (hB5.trans (hA6.mono hB5.size)) ⟨o.k, (S.length : Int) + 1⟩ ⟨#[]⟩ (wordsO o : Nat)
      rw [hsl] at this
      exact this

end Go.Proofs.Ytlghciglofbkaaa
