/- listing: a line is taken. -/
import Derived.Test.YtnekcomkochmjaaGreatDoorLpAdd2
import Derived.Test.YtnekcomkochmjaaGreatDoorLpAny
namespace Go.Proofs.YtnekcomkochmjaaGreatDoor
set_option linter.unusedVariables false
set_option linter.unusedSimpArgs false
open Go.RowKit

namespace Lp
open Lk

variable {w : World}

/-- The reader. -/
structure Rdr (w0 : World) (v : Value) (ts : List Ft) (last : Nat) (w : World) : Prop where
  cell : w.heap[w0.heap.size]? = some (.cells #[v, .int .u8 last] 63 (0, 0))
  rows : RowsOn (w0.heap.size + 1) w (allR v ts)
  bel : Below w0.heap.size w0 w
  form : ∃ p c, v = .slice p ts.length c
  lt : last < 256
  fits : ∀ x ∈ ts, x.f.caps.length ≤ 1048576 ∧ x.f.consts.length ≤ 1048576 ∧ x.f.code.length ≤ 1048576 ∧ x.f.lines.length ≤ 1048576 ∧ x.f.hs.length ≤ 1048576

def lineOf (text : List UInt8) : Ln := ⟨text, false⟩

theorem rowP_lt (s : List UInt8) : rowP s < 256 := by
  unfold rowP
  repeat' split
  all_goals omega

theorem Rdr.lt0 {w0 : World} {v : Value} {ts : List Ft} {last : Nat} (h : Rdr w0 v ts last w) : w0.heap.size < w.heap.size := (Array.getElem?_eq_some_iff.1 h.cell).1

/-- A line has been begun: its block lies behind all. -/
structure Begun (w0 : World) (v : Value) (ts : List Ft) (last : Nat) (b : Nat) (l : Ln) (w w1 : World) : Prop where
  rdr : Rdr w0 v ts last w1
  line : Rd w0 b l w1
  free : ∀ r ∈ allR v ts, r.v.ownBlock ≠ some b
  bel : Below w.heap.size w w1
  fits : w.heap.size ≤ b

theorem Rdr.begun {w0 : World} {v : Value} {ts : List Ft} {last : Nat} (h : Rdr w0 v ts last w) {text : List UInt8} (ht : text.length ≤ 1048576) {w1 : World}
    (hl : IsLn w.heap.size (lineOf text).behind w1) (hr : Rst w.heap.size (w.alloc (.cells #[.string (bs text), .bool false] 87)) w1) : Begun w0 v ts last w.heap.size (lineOf text).behind w w1 := by
  have hA := below1 w (.cells #[.string (bs text), .bool false] 87)
  have hlt := h.lt0
  have hB : Below w.heap.size w w1 := hA.trans (hr.below (Nat.le_refl _) hA.size)
  refine ⟨⟨(hB.block _ hlt).trans h.cell, h.rows.below hB, h.bel.trans (hB.mono (by omega)), h.form, h.lt, h.fits⟩, ⟨hl, by omega, h.bel.trans (hB.mono (by omega)), ?_⟩, fun r hr e => ?_, hB, Nat.le_refl _⟩
  · show ((text.dropWhile (· != 32)).length : Nat) ≤ 1048576
    exact Nat.le_trans (List.dropWhile_sublist _).length_le ht
  · have := ((h.rows.on r hr).lt _ e).2
    omega

set_option maxRecDepth 20000 in
set_option maxHeartbeats 4000000 in
theorem take_no {w0 : World} {v : Value} {ts : List Ft} {last : Nat} (h : Rdr w0 v ts last w) (text : List UInt8) (ht : text.length ≤ 1048576) (hn : followP (rowP (lineOf text).first) last = false) :
    Calls Tryz.prog 19 #[.pointer (some ⟨w0.heap.size, 0, none⟩), .string (bs text)] w fun e w' => e = .returned (.bool false) ∧ Below w.heap.size w w' := by
  have hI : IsLn w.heap.size (lineOf text) (w.alloc (.cells #[.string (bs text), .bool false] 87)) := heap_alloc_new _ _
  have H1 := first_in hI ht
  have H2 := fun W : World => rowOf_in (lineOf text).first W
  have H3 := fun W : World => mayFollow_in (rowP (lineOf text).first) last (rowP_lt _) h.lt W
  rw [hn] at H3
  have HH : Hid _ := h
  have HT : Hid _ := ht
  clear h hn ht
  go_enter Tryz.func19, Tryz.ntmps19
  go_wp2_with (first
    | (go_at_call 29; (with_reducible refine H1.mono ?_); clear H1; rintro e w1 ⟨rfl, hl1, hr1⟩; have B1 := HH.out.begun HT.out hl1 hr1; obtain ⟨⟨x0, x1⟩, -⟩ := cell_row2 B1.rdr.cell)
    | (go_at_call 30; (with_reducible refine (H2 _).mono ?_); rintro e w2 ⟨rfl, rfl⟩)
    | (go_at_call 31; (with_reducible refine (H3 _).mono ?_); rintro e w2 ⟨rfl, rfl⟩))
  go_ret
  exact ⟨rfl, B1.bel⟩

theorem keepFn_in {base c : Nat} {q : Option Addr} {ts : List Ft} (s : ByteArray) (x y : Int) (h : w.ownsRow base 45 8 (.slice q ts.length c) ts.length (rowC ftC ts)) (hb : base ≤ w.heap.size) (hl : ts.length ≤ 1048576) :
    Calls Tryz.prog 32 #[.slice q ts.length c, .agg #[.string s, .int .i64 x, .int .i64 y, .slice none 0 0, .slice none 0 0, .slice none 0 0, .slice none 0 0, .slice none 0 0], .int .i64 256] w fun E w' => Grown base 45 8 (.slice q ts.length c) (more 256 ts (freshFt s x y)).length (rowC ftC (more 256 ts (freshFt s x y))) w E w' :=
  grown_in ftC h (fun h1 => keepFn_more (limit := 256) h hb s x y h1 (by decide)) (fun h1 => keepFn_full q c s x y h1 hl w)

/-- The row of functions, grown or not. -/
theorem RowsOn.head {base : Nat} {v v' : Value} {ts : List Ft} {w' : World} (h : RowsOn base w (allR v ts)) (s : ByteArray) (x y : Int)
    (hown : w'.ownsRow base 45 8 v' (more 256 ts (freshFt s x y)).length (rowC ftC (more 256 ts (freshFt s x y)))) (hat : v'.ownBlock = v.ownBlock ∨ ∀ g, v'.ownBlock = some g → w.heap.size ≤ g)
    (hk : ∀ q, q < w.heap.size → some q ≠ v.ownBlock → w'.heap[q]? = w.heap[q]?) : RowsOn base w' (allR v' (more 256 ts (freshFt s x y))) := by
  unfold more at hown ⊢
  by_cases hl : ts.length ≤ 256
  · rw [if_pos hl] at hown ⊢
    refine RowsOn.fn (n := 0) h s x y ?_ hat hk
    rw [rowC_append, rowC_one] at hown
    simpa using hown
  · rw [if_neg hl] at hown ⊢
    exact RowsOn.grow (A := []) (B := ts.flatMap five) (r := ⟨45, 8, v, ts.length, rowC ftC ts⟩) (by simpa [allR] using h) hown hat hk

theorem freshFt_fits (s : ByteArray) (x y : Int) : (freshFt s x y).f.caps.length ≤ 1048576 ∧ (freshFt s x y).f.consts.length ≤ 1048576 ∧ (freshFt s x y).f.code.length ≤ 1048576 ∧ (freshFt s x y).f.lines.length ≤ 1048576 ∧ (freshFt s x y).f.hs.length ≤ 1048576 := by
  simp [freshFt]

/-- The reader takes a function's first line. -/
theorem Begun.fn {w0 : World} {v : Value} {ts : List Ft} {last b : Nat} {l l' : Ln} {w1 w2 w3 W : World} (h : Begun w0 v ts last b l w w1) (hB : Below w1.heap.size w1 W) (hd : Rd w0 b l' w2) (hr : Rst b W w2) (s : ByteArray) (x y : Int) {p : Option Addr} {c : Nat}
    (hown : w3.ownsRow (w0.heap.size + 1) 45 8 (.slice p (more 256 ts (freshFt s x y)).length c) (more 256 ts (freshFt s x y)).length (rowC ftC (more 256 ts (freshFt s x y))))
    (hat : (Value.slice p (more 256 ts (freshFt s x y)).length c).ownBlock = v.ownBlock ∨ ∀ g, (Value.slice p (more 256 ts (freshFt s x y)).length c).ownBlock = some g → w2.heap.size ≤ g)
    (o2 : w3.os = w2.os) (t2 : w3.tape = w2.tape) (u2 : w3.output = w2.output) (hs2 : w2.heap.size ≤ w3.heap.size)
    (hk : ∀ q, q < w2.heap.size → some q ≠ v.ownBlock → w3.heap[q]? = w2.heap[q]?) :
    Rdr w0 (.slice p (more 256 ts (freshFt s x y)).length c) (more 256 ts (freshFt s x y)) last (w3.setCell ⟨w0.heap.size, 0, none⟩ (.slice p (more 256 ts (freshFt s x y)).length c)) ∧
      IsLn b l' (w3.setCell ⟨w0.heap.size, 0, none⟩ (.slice p (more 256 ts (freshFt s x y)).length c)) := by
  have hbb := h.line.base
  have hlt1 := h.rdr.lt0
  have hne : b ≠ w0.heap.size := by have := h.fits; have := h.bel.size; have h2 := h.line.ln; intro e; rw [e] at h2; have h3 := h.rdr.cell; unfold IsLn at h2; rw [h2] at h3; simp at h3
  have hR2 := (h.rdr.rows.below hB).rst hr h.free
  have hvl := (hR2.on _ (List.mem_cons_self)).lt
  have hvb : v.ownBlock ≠ some b := h.free _ List.mem_cons_self
  have c2 : w2.heap[w0.heap.size]? = _ := (hr.block _ (Nat.lt_of_lt_of_le hlt1 hB.size) (fun e => hne e.symm)).trans ((hB.block _ hlt1).trans h.rdr.cell)
  have hlt2 := (Array.getElem?_eq_some_iff.1 c2).1
  have c3 : w3.heap[w0.heap.size]? = _ := (hk _ hlt2 (fun e => by have := (hvl _ e.symm).1; omega)).trans c2
  have k23 : Below w0.heap.size w2 w3 := ⟨o2, t2, u2, hs2, fun q hq => hk q (by omega) fun e => by have := (hvl _ e.symm).1; omega⟩
  have k13 : Below w0.heap.size w1 w3 := (hB.mono (by omega)).trans ((hr.below hbb (by have := hB.size; omega)).trans k23)
  have hR3 := hR2.head s x y hown hat hk
  refine ⟨⟨?_, hR3.same fun r hr q hq => heap_setCell_other _ _ _ _ (by simp only; have := ((hR3.on r hr).lt q hq).1; omega), (h.rdr.bel.trans k13).setCell (Nat.le_refl _) _, ⟨p, c, rfl⟩, h.rdr.lt, fun x hx => ?_⟩, ?_⟩
  · have := heap_setCell_same w3 w0.heap.size 0 _ _ (.slice p (more 256 ts (freshFt s x y)).length c) c3
    simpa using this
  · unfold more at hx
    split at hx
    · rcases List.mem_append.1 hx with hx | hx
      · exact h.rdr.fits x hx
      · simp only [List.mem_cons, List.not_mem_nil, or_false] at hx
        subst hx
        exact freshFt_fits _ _ _
    · exact h.rdr.fits x hx
  · exact (heap_setCell_other w3 _ b _ hne).trans ((hk b hd.ln.lt fun e => hvb e.symm).trans hd.ln)

/-- The reader's second cell: of which row the last line was. -/
theorem Rdr.setLast {w0 : World} {v : Value} {ts : List Ft} {last : Nat} (h : Rdr w0 v ts last w) (r : Nat) (hr : r < 256) : Rdr w0 v ts r (w.setCell ⟨w0.heap.size, 1, none⟩ (.int .u8 r)) :=
  ⟨by have := heap_setCell_same w w0.heap.size 1 _ _ (.int .u8 r) h.cell; simpa using this,
   h.rows.same fun a ha q hq => heap_setCell_other _ _ _ _ (by simp only; have := ((h.rows.on a ha).lt q hq).1; omega), h.bel.setCell (Nat.le_refl _) _, h.form, hr, h.fits⟩

theorem Begun.ne {w0 : World} {v : Value} {ts : List Ft} {last b : Nat} {l : Ln} {w1 : World} (h : Begun w0 v ts last b l w w1) : b ≠ w0.heap.size := by
  intro e
  have h2 := h.line.ln
  rw [e] at h2
  have h3 := h.rdr.cell
  unfold IsLn at h2
  rw [h2] at h3
  simp at h3

/-- Begun, and the row is set. -/
theorem Begun.setLast {w0 : World} {v : Value} {ts : List Ft} {last b : Nat} {l : Ln} {w1 : World} (h : Begun w0 v ts last b l w w1) (r : Nat) (hr : r < 256) :
    Begun w0 v ts r b l (w.setCell ⟨w0.heap.size, 1, none⟩ (.int .u8 r)) (w1.setCell ⟨w0.heap.size, 1, none⟩ (.int .u8 r)) := by
  refine ⟨h.rdr.setLast r hr, h.line.put (Nat.le_refl _) h.ne _, h.free, ⟨h.bel.os, h.bel.tape, h.bel.output, by simpa [World.setCell] using h.bel.size, fun k hk => ?_⟩, by simpa [World.setCell] using h.fits⟩
  have hk' : k < w.heap.size := by simpa [World.setCell] using hk
  have hb := h.bel.block k hk'
  by_cases e : k = w0.heap.size
  · subst e
    have h1 := heap_setCell_same w1 w0.heap.size 1 _ _ (.int .u8 r) h.rdr.cell
    have h2 := heap_setCell_same w w0.heap.size 1 _ _ (.int .u8 r) (hb.symm.trans h.rdr.cell)
    rw [h1, h2]
  · rw [heap_setCell_other _ _ _ _ e, heap_setCell_other _ _ _ _ e]
    exact hb

end Lp

end Go.Proofs.YtnekcomkochmjaaGreatDoor

namespace Go.Proofs.YtnekcomkochmjaaGreatDoor
set_option linter.unusedVariables false
set_option linter.unusedSimpArgs false
open Go.RowKit

namespace Lp
open Lk

variable {w : World}

set_option maxRecDepth 20000 in
set_option maxHeartbeats 4000000 in
theorem take_fn (HIA : AnyC) {w0 : World} {v : Value} {ts : List Ft} {last : Nat} (h : Rdr w0 v ts last w) (text : List UInt8) (ht : text.length ≤ 1048576) (hrow : rowP (lineOf text).first = 1) (hts : ts.length ≤ 1048576) (he : ErrT w0) (tab : Tab w0) {l : Ln} (hlq : (lineOf text).behind = l) :
    Calls Tryz.prog 19 #[.pointer (some ⟨w0.heap.size, 0, none⟩), .string (bs text)] w fun e w' => e = .returned (.bool l.headd.right) ∧ ∃ v', Rdr w0 v' (more 256 ts (freshFt (bs l.text.1) l.text.2.num l.text.2.numd.num)) 1 w' := by
  have hI : IsLn w.heap.size (lineOf text) (w.alloc (.cells #[.string (bs text), .bool false] 87)) := heap_alloc_new _ _
  have H1 := first_in hI ht
  have H2 := fun W : World => rowOf_in (lineOf text).first W
  have H3 := fun W : World => mayFollow_in (rowP (lineOf text).first) last (rowP_lt _) h.lt W
  have hf : followP 1 last = true := by simp [followP]
  rw [hrow] at H2 H3
  rw [hf] at H3
  simp only [show ((1 : Nat) : Int) = 1 from rfl] at H2 H3
  have HH : Hid _ := h
  have HT : Hid _ := ht
  obtain ⟨p, c, rfl⟩ := h.form
  rw [hlq] at H1
  have HLQ : Hid ((lineOf text).behind = l) := hlq
  have HE : Hid (ErrT w0) := he
  have HTB : Hid (Tab w0) := tab
  clear h ht hf hrow hlq he tab
  go_enter Tryz.func19, Tryz.ntmps19
  go_wp2_with (first
    | (go_at_call 29; (with_reducible refine H1.mono ?_); clear H1; rintro e w1 ⟨rfl, hl1, hr1⟩; have B0 := HH.out.begun HT.out (HLQ.out ▸ hl1) hr1; rw [HLQ.out] at B0; obtain ⟨⟨x0, x1⟩, ⟨y0, y1⟩⟩ := cell_row2 B0.rdr.cell)
    | (go_at_call 30; (with_reducible refine (H2 _).mono ?_); rintro e w2 ⟨rfl, rfl⟩)
    | (go_at_call 31; (with_reducible refine (H3 _).mono ?_); rintro e w2 ⟨rfl, rfl⟩))
  have B1 := B0.setLast 1 (by decide)
  have hne := B1.ne
  simp only [show ((1 : Nat) : Int) = 1 from rfl] at B1
  obtain ⟨wn, hwn⟩ : ∃ wn : World, wn = w2.setCell ⟨w0.heap.size, 1, none⟩ (.int .u8 1) := ⟨_, rfl⟩
  rw [← hwn] at B1 ⊢
  clear hwn x0 x1 y0 y1 hl1 hr1
  have hr0 := B1.rdr
  have hl0 := B1.line
  have hlt := hr0.lt0
  have Fa : ∀ W : World, Below wn.heap.size wn W → W.cell? ⟨w0.heap.size, 0, none⟩ = some (.slice p ts.length c) ∧ W.frozen? ⟨w0.heap.size, 0, none⟩ = false := fun W hB => by
    obtain ⟨⟨a1, _⟩, a2, _⟩ := cell_row2 ((hB.block _ hlt).trans hr0.cell)
    exact ⟨a1, a2⟩
  have Cb : ∀ W W1 : World, Below wn.heap.size wn W → Rst w.heap.size W W1 → W1.heap[w0.heap.size]? = some (.cells #[.slice p ts.length c, .int .u8 1] 63 (0, 0)) := fun W W1 hB hr =>
    (hr.block _ (Nat.lt_of_lt_of_le hlt hB.size) (fun e => hne e.symm)).trans ((hB.block _ hlt).trans hr0.cell)
  have Fb : ∀ W W1 : World, Below wn.heap.size wn W → Rst w.heap.size W W1 → W1.cell? ⟨w0.heap.size, 0, none⟩ = some (.slice p ts.length c) ∧ W1.frozen? ⟨w0.heap.size, 0, none⟩ = false := fun W W1 hB hr => by
    obtain ⟨⟨a1, _⟩, a2, _⟩ := cell_row2 (Cb W W1 hB hr)
    exact ⟨a1, a2⟩
  have Rb : ∀ W W1 : World, Below wn.heap.size wn W → Rst w.heap.size W W1 → W1.ownsRow (w0.heap.size + 1) 45 8 (.slice p ts.length c) ts.length (rowC ftC ts) := fun W W1 hB hr =>
    ((hr0.rows.below hB).rst hr B1.free).on _ List.mem_cons_self
  have Fc : ∀ W W1 W2 : World, Below wn.heap.size wn W → Rst w.heap.size W W1 → (∀ q, q < W1.heap.size → some q ≠ (Value.slice p ts.length c).ownBlock → W2.heap[q]? = W1.heap[q]?) → W2.cell? ⟨w0.heap.size, 0, none⟩ = some (.slice p ts.length c) ∧ W2.frozen? ⟨w0.heap.size, 0, none⟩ = false := fun W W1 W2 hB hr hk => by
    have hc := Cb W W1 hB hr
    have h3 := (hk _ (Array.getElem?_eq_some_iff.1 hc).1 (fun e => by have := ((Rb W W1 hB hr).lt _ e.symm).1; omega)).trans hc
    obtain ⟨⟨a1, _⟩, a2, _⟩ := cell_row2 h3
    exact ⟨a1, a2⟩
  have HN := fun (W : World) (hB : Below wn.heap.size wn W) => head_in HIA (hl0.below hB) HE.out HTB.out
  have K : ∀ W W1 : World, Below wn.heap.size wn W → Rst w.heap.size W W1 → Calls Tryz.prog 32 #[.slice p ts.length c, .agg #[.string (bs l.text.1), .int .i64 l.text.2.num, .int .i64 l.text.2.numd.num, .slice none 0 0, .slice none 0 0, .slice none 0 0, .slice none 0 0, .slice none 0 0], .int .i64 256] W1 fun E w' => Grown (w0.heap.size + 1) 45 8 (.slice p ts.length c) (more 256 ts (freshFt (bs l.text.1) l.text.2.num l.text.2.numd.num)).length (rowC ftC (more 256 ts (freshFt (bs l.text.1) l.text.2.num l.text.2.numd.num))) W1 E w' :=
    fun W W1 hB hr => keepFn_in _ _ _ (Rb W W1 hB hr) (Nat.le_trans (Nat.le_trans hlt hB.size) hr.size) hts
  obtain ⟨z0, q0⟩ := Fa wn (Below.refl _ _)
  obtain ⟨z1, q1⟩ := Fa wn.drew (Below.refl _ _).drew
  go_region_law (first
    | (go_simp; go_at_call 33; (with_reducible refine (HN _ (Below.refl _ _).drew).mono ?_); rintro e w4 ⟨rfl, hd4, hr4⟩; obtain ⟨z4, q4⟩ := Fb _ _ (Below.refl _ _).drew hr4; (try dsimp only [Oper.upon]))
    | (go_simp; go_at_call 32; (with_reducible refine (K _ _ (Below.refl _ _).drew hr4).mono ?_); rintro e w5 ⟨p5, c5, rfl, hown5, hat5, o5, t5, u5, hs5, hk5⟩; obtain ⟨z5, q5⟩ := Fc _ _ w5 (Below.refl _ _).drew hr4 hk5; (try dsimp only [Oper.upon])))
  all_goals
    obtain ⟨hR, hL⟩ := B1.fn (Below.refl _ _).drew hd4 hr4 _ _ _ hown5 hat5 o5 t5 u5 hs5 hk5
    have HIR := isRight_in hL
    go_wp2_with (first
      | (go_at_call 35; (with_reducible refine HIR.mono ?_); rintro e w6 ⟨rfl, rfl⟩))
    go_ret
    exact ⟨rfl, _, hR⟩

end Lp

end Go.Proofs.YtnekcomkochmjaaGreatDoor

namespace Go.Proofs.YtnekcomkochmjaaGreatDoor
set_option linter.unusedVariables false
set_option linter.unusedSimpArgs false
open Go.RowKit

namespace Lp
open Lk

variable {w : World}

/-- Behind addTo the reader is as told. -/
theorem Begun.told {w0 : World} {init : List Ft} {t t' : Ft} {last b g c : Nat} {l l' : Ln} {wn W W' : World} (h : Begun w0 (.slice (some ⟨g, 0, none⟩) (init.length + 1) c) (init ++ [t]) last b l w wn) (hB : Below wn.heap.size wn W)
    (T : Told (w0.heap.size + 1) g c b init t' w0 l' W W') (hf : t'.f.caps.length ≤ 1048576 ∧ t'.f.consts.length ≤ 1048576 ∧ t'.f.code.length ≤ 1048576 ∧ t'.f.lines.length ≤ 1048576 ∧ t'.f.hs.length ≤ 1048576) :
    Rdr w0 (.slice (some ⟨g, 0, none⟩) (init.length + 1) c) (init ++ [t']) last W' := by
  have hlt := h.rdr.lt0
  refine ⟨(T.bel.block _ (by omega)).trans ((hB.block _ hlt).trans h.rdr.cell), T.rows, (h.rdr.bel.trans (hB.mono (by omega))).trans (T.bel.mono (by omega)), ⟨some ⟨g, 0, none⟩, c, by simp⟩, h.rdr.lt, fun x hx => ?_⟩
  rcases List.mem_append.1 hx with hx | hx
  · exact h.rdr.fits x (by simp [hx])
  · simp only [List.mem_cons, List.not_mem_nil, or_false] at hx
    subst hx
    exact hf

set_option maxRecDepth 20000 in
set_option maxHeartbeats 4000000 in
theorem take_add {w0 : World} {g c r : Nat} {init : List Ft} {t : Ft} {f' : Fm} {last : Nat} (h : Rdr w0 (.slice (some ⟨g, 0, none⟩) (init.length + 1) c) (init ++ [t]) last w) (text : List UInt8) (ht : text.length ≤ 1048576) (hrow : rowP (lineOf text).first = r) (hr2 : 2 ≤ r) (hr5 : r ≤ 5) (hfl : followP r last = true)
    (hin : init.length ≤ 1048576) (hf : f'.caps.length ≤ 1048576 ∧ f'.consts.length ≤ 1048576 ∧ f'.code.length ≤ 1048576 ∧ f'.lines.length ≤ 1048576 ∧ f'.hs.length ≤ 1048576) {l l' : Ln} (hlq : (lineOf text).behind = l)
    (HA : ∀ (b : Nat) (W : World), RowsOn (w0.heap.size + 1) W (allR (.slice (some ⟨g, 0, none⟩) (init.length + 1) c) (init ++ [t])) → (∀ r ∈ allR (.slice (some ⟨g, 0, none⟩) (init.length + 1) c) (init ++ [t]), r.v.ownBlock ≠ some b) → w0.heap.size + 1 ≤ W.heap.size → w0.heap.size + 1 ≤ b → Rd w0 b l W →
      Calls Tryz.prog 34 #[.pointer (some ⟨g, init.length * 8, none⟩), .int .u8 r, .string (bs (lineOf text).first), .pointer (some ⟨b, 0, none⟩)] W fun e w' => e = .returned (.tuple #[]) ∧ ∃ s', Told (w0.heap.size + 1) g c b init ⟨f', s'⟩ w0 l' W w') :
    Calls Tryz.prog 19 #[.pointer (some ⟨w0.heap.size, 0, none⟩), .string (bs text)] w fun e w' => e = .returned (.bool l'.right) ∧ ∃ s', Rdr w0 (.slice (some ⟨g, 0, none⟩) (init.length + 1) c) (init ++ [⟨f', s'⟩]) r w' := by
  have hI : IsLn w.heap.size (lineOf text) (w.alloc (.cells #[.string (bs text), .bool false] 87)) := heap_alloc_new _ _
  have H1 := first_in hI ht
  have H2 := fun W : World => rowOf_in (lineOf text).first W
  have H3 := fun W : World => mayFollow_in (rowP (lineOf text).first) last (rowP_lt _) h.lt W
  rw [hrow] at H2 H3
  rw [hfl] at H3
  have HH : Hid _ := h
  have HT : Hid _ := ht
  rw [hlq] at H1
  have HLQ : Hid ((lineOf text).behind = l) := hlq
  have hr1 : ¬ ((r : Int) = 1) := by omega
  have hrl : r < 256 := by omega
  clear h ht hfl hrow hlq hr2 hr5
  go_enter Tryz.func19, Tryz.ntmps19
  go_wp2_with (first
    | (go_at_call 29; (with_reducible refine H1.mono ?_); clear H1; rintro e w1 ⟨rfl, hl1, hrs1⟩; have B0 := HH.out.begun HT.out (HLQ.out ▸ hl1) hrs1; rw [HLQ.out] at B0; obtain ⟨⟨x0, x1⟩, ⟨y0, y1⟩⟩ := cell_row2 B0.rdr.cell)
    | (go_at_call 30; (with_reducible refine (H2 _).mono ?_); rintro e w2 ⟨rfl, rfl⟩)
    | (go_at_call 31; (with_reducible refine (H3 _).mono ?_); rintro e w2 ⟨rfl, rfl⟩))
  have B1 := B0.setLast r hrl
  have hne := B1.ne
  obtain ⟨wn, hwn⟩ : ∃ wn : World, wn = w2.setCell ⟨w0.heap.size, 1, none⟩ (.int .u8 r) := ⟨_, rfl⟩
  rw [← hwn] at B1 ⊢
  clear hwn x0 x1 y0 y1 hl1 hrs1
  obtain ⟨⟨z0, z1⟩, ⟨q0, q1⟩⟩ := cell_row2 B1.rdr.cell
  have hlt := B1.rdr.lt0
  have hbb : w0.heap.size + 1 ≤ w.heap.size := HH.out.lt0
  have hd0 : Below wn.heap.size wn wn.drew := (Below.refl _ _).drew
  have HA1 := HA w.heap.size wn.drew (B1.rdr.rows.below hd0) B1.free (by have := hd0.size; omega) hbb (B1.line.below hd0)
  obtain ⟨⟨z2, z3⟩, ⟨q2, q3⟩⟩ := cell_row2 ((hd0.block _ hlt).trans B1.rdr.cell)
  have hwr : IntKind.i64.wrap (init.length : Int) = (init.length : Int) := by
    simp [IntKind.wrap, IntKind.bits, IntKind.signed]; omega
  have hil : (init.length : Int) < (init.length : Int) + 1 := by omega
  go_region_law (first
    | (go_simp; go_at_call 34; (with_reducible refine HA1.mono ?_); rintro e w4 ⟨rfl, s4, T4⟩; (try dsimp only [Oper.upon])))
  all_goals
    have hR := B1.told hd0 T4 hf
    have HIR := isRight_in T4.line.ln
    go_wp2_with (first
      | (go_at_call 35; (with_reducible refine HIR.mono ?_); rintro e w6 ⟨rfl, rfl⟩))
    go_ret
    exact ⟨rfl, _, hR⟩

end Lp

end Go.Proofs.YtnekcomkochmjaaGreatDoor

namespace Go.Proofs.YtnekcomkochmjaaGreatDoor
set_option linter.unusedVariables false
set_option linter.unusedSimpArgs false
open Go.RowKit

namespace Lp
open Lk

variable {w : World}

/-- What a line tells of a function. -/
def addP (t : Fm) (r : Nat) (f1 : List UInt8) (l : Ln) : Fm × Ln :=
  if r = 2 then ({ t with caps := more 4096 t.caps ⟨(bs f1).toList == [117, 112], l.num⟩ }, l.numd)
  else if r = 3 then ({ t with consts := more 16384 t.consts (l.conV f1) }, l.cond f1)
  else if r = 4 then ({ t with lines := more 16384 t.lines (numP f1).1, code := more 16384 t.code (l.lined f1).insV }, (l.lined f1).insd)
  else ({ t with hs := more 16384 t.hs l.hanV }, l.hand)

/-- The lists keep their bounds. -/
structure Bnd (f : Fm) : Prop where
  caps : f.caps.length ≤ 4097
  consts : f.consts.length ≤ 16385
  code : f.code.length ≤ 16385
  lines : f.lines.length ≤ 16385
  hs : f.hs.length ≤ 16385

theorem Bnd.fits {f : Fm} (h : Bnd f) : f.caps.length ≤ 1048576 ∧ f.consts.length ≤ 1048576 ∧ f.code.length ≤ 1048576 ∧ f.lines.length ≤ 1048576 ∧ f.hs.length ≤ 1048576 :=
  ⟨Nat.le_trans h.caps (by decide), Nat.le_trans h.consts (by decide), Nat.le_trans h.code (by decide), Nat.le_trans h.lines (by decide), Nat.le_trans h.hs (by decide)⟩

theorem addP_bnd {t : Fm} (h : Bnd t) (r : Nat) (f1 : List UInt8) (l : Ln) : Bnd (addP t r f1 l).1 := by
  unfold addP
  split
  · exact ⟨more_len (limit := 4096) h.caps, h.consts, h.code, h.lines, h.hs⟩
  · split
    · exact ⟨h.caps, more_len (limit := 16384) h.consts, h.code, h.lines, h.hs⟩
    · split
      · exact ⟨h.caps, h.consts, more_len (limit := 16384) h.code, more_len (limit := 16384) h.lines, h.hs⟩
      · exact ⟨h.caps, h.consts, h.code, h.lines, more_len (limit := 16384) h.hs⟩

theorem addTo_in {base g c b r : Nat} {init : List Ft} {t : Ft} (f1 : List UInt8) (hf1 : f1.length ≤ 1048576) (hr2 : 2 ≤ r) (hr5 : r ≤ 5) (hbd : Bnd t.f)
    (h : RowsOn base w (allR (.slice (some ⟨g, 0, none⟩) (init.length + 1) c) (init ++ [t]))) (hf : ∀ r ∈ allR (.slice (some ⟨g, 0, none⟩) (init.length + 1) c) (init ++ [t]), r.v.ownBlock ≠ some b)
    (hbw : base ≤ w.heap.size) (hbb : base ≤ b) {w0 : World} {l : Ln} (hd : Rd w0 b l w) (hb0 : w0.heap.size ≤ base) (he : ErrT w0) (tab : Tab w0) (hw : WordsT w0) :
    Calls Tryz.prog 34 #[.pointer (some ⟨g, init.length * 8, none⟩), .int .u8 r, .string (bs f1), .pointer (some ⟨b, 0, none⟩)] w fun e w' => e = .returned (.tuple #[]) ∧
      ∃ s', Told base g c b init ⟨(addP t.f r f1 l).1, s'⟩ w0 (addP t.f r f1 l).2 w w' := by
  obtain ⟨b1, b2, b3, b4, b5⟩ := hbd.fits
  rcases (show r = 2 ∨ r = 3 ∨ r = 4 ∨ r = 5 by omega) with rfl | rfl | rfl | rfl
  · exact addCap_in f1 h hf hbw hbb b1 hd hb0 he tab
  · exact addConst_in any_in f1 h hf hbw hbb b2 hd hb0 he tab
  · exact addIns_in f1 hf1 h hf hbw hbb b4 b3 hd hb0 he tab hw
  · exact addCatch_in f1 h hf hbw hbb b5 hd hb0 he tab

/-- The last of a list, changed. -/
def lastP (g : Fm → Fm) : List Fm → List Fm
  | [] => []
  | [t] => [g t]
  | x :: y :: r => x :: lastP g (y :: r)

theorem lastP_snoc (g : Fm → Fm) : ∀ (l : List Fm) (t : Fm), lastP g (l ++ [t]) = l ++ [g t]
  | [], _ => rfl
  | [x], _ => rfl
  | x :: y :: r, t => by
    show x :: lastP g ((y :: r) ++ [t]) = _
    rw [lastP_snoc g (y :: r) t]
    rfl

theorem addP_line (t t' : Fm) (r : Nat) (f1 : List UInt8) (l : Ln) : (addP t r f1 l).2 = (addP t' r f1 l).2 := by
  unfold addP
  repeat' split
  all_goals rfl

def noFm : Fm := ⟨⟨#[]⟩, 0, 0, [], [], [], [], []⟩

/-- A line is taken: the functions, the line's row, whether all was right; nothing where it may not stand. -/
def takeP (fs : List Fm) (last : Nat) (text : List UInt8) : Option (List Fm × Nat × Bool) :=
  if followP (rowP (lineOf text).first) last = false then none
  else if rowP (lineOf text).first = 1 then some (more 256 fs ⟨bs (lineOf text).behind.text.1, (lineOf text).behind.text.2.num, (lineOf text).behind.text.2.numd.num, [], [], [], [], []⟩, 1, (lineOf text).behind.headd.right)
  else some (lastP (fun t => (addP t (rowP (lineOf text).first) (lineOf text).first (lineOf text).behind).1) fs, rowP (lineOf text).first, (addP noFm (rowP (lineOf text).first) (lineOf text).first (lineOf text).behind).2.right)

theorem more_map (limit : Nat) (l : List Ft) (x : Ft) : (more limit l x).map Ft.f = more limit (l.map Ft.f) x.f := by
  unfold more
  rw [List.length_map]
  split <;> simp

theorem rowP_le (s : List UInt8) : 1 ≤ rowP s ∧ rowP s ≤ 5 := by
  unfold rowP
  repeat' split
  all_goals omega

/-- What holds between two lines. -/
structure Rok (w0 : World) (v : Value) (ts : List Ft) (last : Nat) (w : World) : Prop where
  rdr : Rdr w0 v ts last w
  bnd : ∀ x ∈ ts, Bnd x.f
  len : ts.length ≤ 257
  some : last ≠ 0 → ts ≠ []

theorem take_in {w0 : World} {v : Value} {ts : List Ft} {last : Nat} (h : Rok w0 v ts last w) (text : List UInt8) (ht : text.length ≤ 1048576) (he : ErrT w0) (tab : Tab w0) (hw : WordsT w0) :
    Calls Tryz.prog 19 #[.pointer (some ⟨w0.heap.size, 0, none⟩), .string (bs text)] w fun e w' => match takeP (ts.map Ft.f) last text with
      | none => e = .returned (.bool false) ∧ Below w0.heap.size w w'
      | some (fs, r, ok) => e = .returned (.bool ok) ∧ ∃ v' ts', ts'.map Ft.f = fs ∧ Rok w0 v' ts' r w' := by
  unfold takeP
  by_cases h1 : followP (rowP (lineOf text).first) last = false
  · rw [if_pos h1]
    refine (take_no h.rdr text ht h1).mono ?_
    rintro e w' ⟨rfl, hB⟩
    exact ⟨rfl, hB.mono (Nat.le_of_lt h.rdr.lt0)⟩
  · rw [if_neg h1]
    by_cases h2 : rowP (lineOf text).first = 1
    · rw [if_pos h2]
      refine (take_fn any_in h.rdr text ht h2 (Nat.le_trans h.len (by decide)) he tab rfl).mono ?_
      rintro e w' ⟨rfl, v', hR⟩
      refine ⟨rfl, v', _, more_map _ _ _, hR, fun x hx => ?_, more_len (limit := 256) h.len, fun _ => ?_⟩
      · unfold more at hx
        split at hx
        · rcases List.mem_append.1 hx with hx | hx
          · exact h.bnd x hx
          · simp only [List.mem_cons, List.not_mem_nil, or_false] at hx
            subst hx
            exact ⟨Nat.zero_le _, Nat.zero_le _, Nat.zero_le _, Nat.zero_le _, Nat.zero_le _⟩
        · exact h.bnd x hx
      · unfold more
        split
        · simp
        · rename_i hgt
          intro e
          rw [e] at hgt
          simp at hgt
    · rw [if_neg h2]
      have hle := rowP_le (lineOf text).first
      have hfl : followP (rowP (lineOf text).first) last = true := by simpa using h1
      have hl0 : last ≠ 0 := by
        unfold followP at hfl
        intro e
        simp [h2, e] at hfl
      have hne := h.some hl0
      obtain ⟨init, t, rfl⟩ : ∃ init t, ts = init ++ [t] := ⟨ts.dropLast, ts.getLast hne, (List.dropLast_concat_getLast hne).symm⟩
      have hrow := h.rdr.rows.on _ List.mem_cons_self
      obtain ⟨p, c, rfl⟩ := h.rdr.form
      have hlen : (init ++ [t]).length = init.length + 1 := by simp
      have hR0 := h.rdr
      rw [hlen] at hR0
      have hrow2 : w.ownsRow (w0.heap.size + 1) 45 8 (.slice p (init.length + 1) c) (init.length + 1) (rowC ftC (init ++ [t])) := by simpa using hrow
      obtain ⟨g, c', e⟩ := ownsRow_succ2 hrow2
      cases e
      have hf1 : (lineOf text).first.length ≤ 1048576 := Nat.le_trans (List.takeWhile_sublist _).length_le ht
      have hbt := h.bnd t (by simp)
      have hin : init.length ≤ 1048576 := by have := h.len; rw [hlen] at this; omega
      refine (take_add (f' := (addP t.f (rowP (lineOf text).first) (lineOf text).first (lineOf text).behind).1) hR0 text ht rfl (by omega) hle.2 hfl hin (addP_bnd hbt _ _ _).fits rfl
        (fun b W a1 a2 a3 a4 a5 => addTo_in (lineOf text).first hf1 (by omega) hle.2 hbt a1 a2 a3 a4 a5 (Nat.le_succ _) he tab hw)).mono ?_
      rintro e w' ⟨rfl, s', hR⟩
      rw [addP_line noFm t.f]
      refine ⟨rfl, _, init ++ [⟨(addP t.f (rowP (lineOf text).first) (lineOf text).first (lineOf text).behind).1, s'⟩], ?_, hR, fun x hx => ?_, ?_, fun _ => by simp⟩
      · rw [List.map_append, List.map_append, List.map_cons, List.map_nil, List.map_cons, List.map_nil, lastP_snoc]
      · rcases List.mem_append.1 hx with hx | hx
        · exact h.bnd x (by simp [hx])
        · simp only [List.mem_cons, List.not_mem_nil, or_false] at hx
          subst hx
          exact addP_bnd hbt _ _ _
      · have := h.len; simpa using this

end Lp

end Go.Proofs.YtnekcomkochmjaaGreatDoor

namespace Go.Proofs.YtnekcomkochmjaaGreatDoor
set_option linter.unusedVariables false
set_option linter.unusedSimpArgs false
open Go.RowKit

namespace Lp
open Lk

variable {w : World}

/-- A text's lines, read: the functions, the number of lines, whether all was right. -/
def parseP : Nat → List UInt8 → List Fm → Nat → Nat → List Fm × Nat × Bool
  | 0, _, fs, _, k => (fs, k, false)
  | n + 1, s, fs, last, k => if s = [] then (fs, k, true) else if (Lib.cut s [10]).2.2 = false then (fs, k, false) else match takeP fs last (Lib.cut s [10]).1 with
    | none => (fs, k, false)
    | some (fs', r, ok) => if ok then parseP n (Lib.cut s [10]).2.1 fs' r (k + 1) else (fs, k, false)

end Lp

end Go.Proofs.YtnekcomkochmjaaGreatDoor
