/- ObjectLists: the walk. -/
import Derived.Test.YtkombdkhodjckaaGreatLsMath
import Derived.Test.YtkombdkhodjckaaGreatPlStore
import Derived.Test.YtkombdkhodjckaaGreatObTexts
import Derived.Test.YtkombdkhodjckaaGreatGcAlive
import Derived.Deep.RegionLaw
import Derived.Deep.AppendLies
namespace Go.Proofs.YtkombdkhodjckaaGreat
set_option linter.unusedVariables false
set_option linter.unusedSimpArgs false
open Go.RowKit

variable {n₀ bh b lim used : Nat} {vw vb : Value} {w : World} {M : List Ob}

/-- Numbers in memory. -/
def RngI (x : Int) : Prop := -9223372036854775808 ≤ x ∧ x ≤ 9223372036854775807

def IntsT (w : World) (p : Option Addr) (xs : List Int) : Prop := ∀ (j : Nat) (x : Int), xs[j]? = some x → RngI x ∧ ∃ g off, p = some ⟨g, off, none⟩ ∧ g < w.heap.size ∧ w.cell? ⟨g, off + j, none⟩ = some (.int .i64 x)

def nums (xs : List Int) : List Vl := xs.map (fun x => ⟨2, x⟩)

theorem nums_len (xs : List Int) : (nums xs).length = xs.length := by simp [nums]

theorem nums_snoc (xs : List Int) (x : Int) : nums (xs ++ [x]) = nums xs ++ [⟨2, x⟩] := by simp [nums]

theorem nums_plain {M : List Ob} {xs : List Int} : ∀ v ∈ nums xs, v.k < 3 ∧ MayHeld M v.k v.n := fun v hv => by
  simp only [nums, List.mem_map] at hv
  obtain ⟨x, _, rfl⟩ := hv
  exact ⟨by simp, .inr (.inr (.inl rfl))⟩

/-- A row of values grows; the heap is as it was. -/
theorem Hp.grownV (h : Hp n₀ bh b vw vb w lim used M) {t : Value} {n base : Nat} {zs : List Value} (hr : w.ownsRow base 29 2 t n zs) {Wa w' : World} (hA : Below w.heap.size w Wa) (hg : Wa.grownBy w' t.ownBlock) : Hp n₀ bh b vw vb w' lim used M := h.kept (fun k hk => by
  obtain ⟨_, hlt, cur, ty, hc, hty⟩ := h.blocks k hk
  have hs := hA.size
  refine (hg.block k (by omega) (fun e => ?_)).trans (hA.block k hlt)
  obtain ⟨cur', hc'⟩ := row_obj hr e.symm
  rw [hc] at hc'
  cases hc'
  rcases hty with h | h | h | h <;> exact absurd h (by decide))

/-- The first list. -/
theorem newList_first (h : Hp n₀ bh b vw vb w 20000 0 []) {base c : Nat} {p : Option Addr} {xs : List Int} (hx : ∀ x ∈ xs, RngI x) (hrow : w.ownsRow base 29 2 (.slice p xs.length c) xs.length (vcells (nums xs))) (hl : xs.length ≤ 300) :
    Calls Tryz.prog 7 #[.pointer (some ⟨bh, 0, none⟩), .slice p xs.length c] w fun e w' => e = .returned (.tuple #[.agg #[.int .u8 4, .int .i64 0], .int .i64 0]) ∧
      ∃ vw' vb' used' M' inn, Hp n₀ bh b vw' vb' w' 20000 used' M' ∧ Step b vw vb w vw' vb' w' ∧ Rw M' 0 4 (nums xs) xs.length inn ∧ (∀ x ∈ M', x.kind = 8 ∨ x.at_ = 0) ∧ (xs.length = 0 → ⟨0, 4, [0, 0]⟩ ∈ M') ∧ used' ≤ 700 + 5 * xs.length := by
  by_cases h0 : xs.length = 0
  · have hxs : xs = [] := List.length_eq_zero_iff.1 h0
    subst hxs
    have := NewList_none h (by omega) p c (by omega)
    simp only [show ((0 : Nat) : Int) = 0 from rfl] at this
    refine this.mono ?_
    rintro e w' ⟨he, vw', vb', hp, hS⟩
    exact ⟨he, vw', vb', _, _, 0, hp, hS, .inr ⟨by simp, rfl, rfl, rfl⟩, fun x hx => by simp at hx; exact .inr (by rw [hx]), fun _ => by simp, by omega⟩
  · have hl2 := nums_len xs
    obtain ⟨p', c', e, hv⟩ := vals_of_row hrow
    simp only [Value.slice.injEq, true_and] at e
    obtain ⟨rfl, rfl⟩ := e
    have hfit : ∀ v ∈ nums xs, Fit v := fun v hv => by
      simp only [nums, List.mem_map] at hv
      obtain ⟨x, hx', rfl⟩ := hv
      exact ⟨by simp, hx x hx'⟩
    have H := NewList_ok h (by omega) c hv (fun v hv => (hfit v hv).1) (by omega) (fun v hv => (nums_plain v hv).2) (by omega) (by omega)
    simp only [show ((0 : Nat) : Int) = 0 from rfl, hl2] at H
    refine H.mono ?_
    rintro e w' ⟨he, vw', vb', hp, hS⟩
    refine ⟨he, vw', vb', _, _, 3, hp, hS, .inl ⟨⟨0, 4, [xs.length, 0 + 4]⟩, ⟨0 + 3, 8, lays (List.replicate (2 * xs.length) 0) 0 (nums xs)⟩, ⟨by simp, by simp, by rw [hl2], rfl, by simp [lays_len], by rw [hl2]; exact Nat.le_refl _⟩, rfl, rfl, rfl, by omega, ?_⟩, fun x hx => ?_, fun e => (h0 e).elim, by omega⟩
    · have := lays_zero xs.length (nums xs) (by omega) hfit
      rw [hl2] at this ⊢
      exact this
    · simp at hx
      rcases hx with rfl | rfl
      · exact .inr rfl
      · exact .inl rfl

/-- The heap's part alone. -/
def Lh (n₀ bh b : Nat) (w : World) (vs : List Vl) (room : Nat) : Prop := ∃ vw vb used M inn, Hp n₀ bh b vw vb w 20000 used M ∧ Rw M 0 4 vs room inn ∧ (∀ x ∈ M, x.kind = 8 ∨ x.at_ = 0) ∧ (room = 0 → ⟨0, 4, [0, 0]⟩ ∈ M) ∧ used ≤ 700 + 5 * room

theorem Lh.below {vs : List Vl} {room : Nat} (h : Lh n₀ bh b w vs room) {w' : World} (hB : Below w.heap.size w w') : Lh n₀ bh b w' vs room := by
  obtain ⟨vw, vb, used, M, inn, h1, h2⟩ := h
  exact ⟨vw, vb, used, M, inn, h1.below hB, h2⟩

theorem Lh.grownV {vs : List Vl} {room : Nat} (h : Lh n₀ bh b w vs room) {t : Value} {n base : Nat} {zs : List Value} (hr : w.ownsRow base 29 2 t n zs) {Wa w' : World} (hA : Below w.heap.size w Wa) (hg : Wa.grownBy w' t.ownBlock) : Lh n₀ bh b w' vs room := by
  obtain ⟨vw, vb, used, M, inn, h1, h2⟩ := h
  exact ⟨vw, vb, used, M, inn, h1.grownV hr hA hg, h2⟩

theorem Lh.n₀le {vs : List Vl} {room : Nat} (h : Lh n₀ bh b w vs room) : n₀ ≤ w.heap.size := by
  obtain ⟨vw, vb, used, M, inn, h1, h2⟩ := h
  have := h1.blocks bh (.inl rfl)
  omega

/-- What stands while values are put: values' blocks are as they were. -/
def KpV (n₀ : Nat) (w w' : World) : Prop := Below n₀ w w' ∧ ∀ (k : Nat) (cur : Array Value), w.heap[k]? = some (.cells cur 29 (0, 0)) → w'.heap[k]? = w.heap[k]?

theorem KpV.row {n₀ base n : Nat} {w w' : World} (h : KpV n₀ w w') {t : Value} {xs : List Value} (hr : w.ownsRow base 29 2 t n xs) : w'.ownsRow base 29 2 t n xs := row_kept hr (fun k e => by
  obtain ⟨cur, hc⟩ := row_obj hr e
  exact h.2 k cur hc)

theorem KpV.bx {n₀ g k : Nat} {n : Int} {w w' : World} (h : KpV n₀ w w') (hb : Bx w g k n) : Bx w' g k n := (h.2 _ _ hb).trans hb

theorem KpV.pre {w w' W : World} (hB : Below w.heap.size w W) (hn : n₀ ≤ w.heap.size) (h : KpV n₀ W w') : KpV n₀ w w' := ⟨(hB.mono hn).trans h.1, fun k cur hk => by
  have e := hB.block k (Array.getElem?_eq_some_iff.1 hk).1
  exact (h.2 k cur (e.trans hk)).trans e⟩

def nextRoom (n room : Nat) : Nat := if n + 1 ≤ room then room else max 4 (2 * room)

theorem Lh.put {xs : List Int} {room : Nat} (h : Lh n₀ bh b w (nums xs) room) {y : Int} (hy : RngI y) (hl : xs.length ≤ 600) (hle : xs.length ≤ room) (hm : room ≤ 1300) (W : World) (hB : Below w.heap.size w W) :
    Calls Tryz.prog 8 #[.pointer (some ⟨bh, 0, none⟩), .agg #[.int .u8 4, .int .i64 0], .agg #[.int .u8 2, .int .i64 xs.length], .agg #[.int .u8 2, .int .i64 y]] W fun e w' => e = .returned (.int .i64 0) ∧ Lh n₀ bh b w' (nums (xs ++ [y])) (nextRoom xs.length room) ∧ KpV n₀ w w' := by
  have hn0 := h.n₀le
  obtain ⟨vw, vb, used, M, inn, h1, h2, h3, h4, h5⟩ := h.below hB
  have hl2 := nums_len xs
  have H := h2.putList h1 (by omega) (by omega) (by omega) ⟨2, y⟩ (.inr (.inr (.inl rfl))) ⟨by simp, hy⟩ (by omega) (by
    by_cases e : (nums xs).length + 1 ≤ room
    · exact .inl e
    · refine .inr ?_
      have : room ≤ 600 := by omega
      omega)
  simp only [show ((0 : Nat) : Int) = 0 from rfl, show ((2 : Nat) : Int) = 2 from rfl, hl2] at H
  refine H.mono ?_
  rintro e w' ⟨he, vw', vb', hS, used', M', room', inn', g1, g2, g3, g4, g5, g6⟩
  rw [hl2] at g4 g5
  have hroom : room' = nextRoom xs.length room ∧ used' ≤ 700 + 5 * room' ∧ 0 < room' := by
    unfold nextRoom
    by_cases e : xs.length + 1 ≤ room
    · obtain ⟨e1, e2⟩ := g4 e
      rw [if_pos e, e1, e2]
      exact ⟨rfl, h5, by omega⟩
    · obtain ⟨e1, e2⟩ := g5 (by omega)
      rw [if_neg e]
      refine ⟨e1, ?_, by omega⟩
      omega
  obtain ⟨e1, e2, e3⟩ := hroom
  refine ⟨he, ⟨vw', vb', used', M', inn', g1, ?_, fun x hx => ?_, fun e => by omega, by rw [← e1]; exact e2⟩, KpV.pre hB hn0 ⟨h1.stepBelow hS, fun k cur hk => h1.stays hS hk (fun cur' t' e => by cases e; decide)⟩⟩
  · rw [nums_snoc, ← e1]; exact g2
  · rcases g6 x hx with e | ⟨y', hy', e4, e5⟩
    · exact .inl e
    · rcases h3 y' hy' with e | e
      · exact .inl (by rw [← e5]; exact e)
      · exact .inr (by rw [← e4]; exact e)

theorem Rw.inn_le {at_ kind room inn : Nat} {vs : List Vl} (r : Rw M at_ kind vs room inn) (h : Hp n₀ bh b vw vb w lim used M) : inn ≤ 1048576 := by
  rcases r with ⟨o, q, hr, _, _, e, _⟩ | ⟨_, _, _, e⟩
  · have := at_lt h hr.memq
    omega
  · omega

theorem vals_row {base n c : Nat} {p : Option Addr} {vs : List Vl} (h : w.ownsRow base 29 2 (.slice p n c) n (vcells vs)) : Vals w p vs := by
  obtain ⟨p', c', e, hv⟩ := vals_of_row h
  simp only [Value.slice.injEq, true_and] at e
  rw [e.1]
  exact hv.vals

set_option maxRecDepth 20000 in
set_option maxHeartbeats 4000000 in
theorem objectLists_short {xs ys : List Int} {pa pb : Option Addr} (ca cb : Nat) (ha : IntsT w pa xs) (hb : IntsT w pb ys) (h300 : xs.length ≤ 300) (h301 : ys.length ≤ 300) :
    Calls Tryz.prog 3 #[.slice pa xs.length ca, .slice pb ys.length cb] w fun e w' => e = .returned (.bool true) ∧ Below w.heap.size w w' := by
  have hx' : ¬ (300 : Int) < (xs.length : Int) := by omega
  have hy' : ¬ (300 : Int) < (ys.length : Int) := by omega
  have AL := alive_in w
  go_enter Tryz.func3, Tryz.ntmps3
  go_wp2_with (first
    | (go_at_call 4; (with_reducible refine AL.mono ?_); clear AL; rintro e w1 ⟨rfl, hB1⟩; have a1 := great_in 20000 w1 (by omega) (by omega))
    | (go_at_call 5; refine a1.mono ?_; clear a1; rintro e w2 ⟨bh, b, vw2, vb2, rfl, hp2, hB2⟩))
  have hs12 := hB2.size
  have hBw : Below w.heap.size w w2 := hB1.trans (hB2.mono hB1.size)
  obtain ⟨n₀, hn⟩ : ∃ n, w1.heap.size = n := ⟨_, rfl⟩
  rw [hn] at hp2 hB2 hs12
  have hn0 : w.heap.size ≤ n₀ := by rw [← hn]; exact hB1.size
  have HB2 : Hid (Below w.heap.size w w2) := hBw
  clear hn hB1 hB2 hBw
  go_loopw [6, 7] (fun av iv wr => ∃ (t : Value) (i : Nat), t = av ∧ iv = .int .i64 i ∧ i ≤ xs.length ∧ wr.ownsRow n₀ 29 2 t i (vcells (nums (xs.take i))) ∧ Hp n₀ bh b vw2 vb2 wr 20000 0 [] ∧ Below n₀ w2 wr) (fun _ iv _ => xs.length - (intOf iv).toNat)
  case atStart => exact ⟨_, 0, rfl, rfl, by omega, ⟨rfl, .inl ⟨rfl, rfl⟩⟩, hp2, Below.refl _ _⟩
  case round =>
    clear hp2
    obtain ⟨t, i, rfl, rfl, hi, hrow, hp, hB⟩ := hrel
    have hn1 : n₀ ≤ wr.heap.size := by have := hB.size; omega
    by_cases hil : i < xs.length
    · have hil' : (i : Int) < (xs.length : Int) := by omega
      obtain ⟨x, hq⟩ : ∃ x, xs[i]? = some x := ⟨xs[i], by simp⟩
      obtain ⟨hr1, g, off, rfl, hg, ca0⟩ := ha i x hq
      have hBr : Below w.heap.size w wr := HB2.out.trans (hB.mono hn0)
      have d0 : wr.cell? ⟨g, off + i, none⟩ = some (.int .i64 x) := (World.cell?_of_block (a := ⟨g, off + i, none⟩) (hBr.block g hg)).trans ca0
      obtain ⟨i0, hi0, hz0, hz1, hz2⟩ := info_parts infoV
      have HR : Hid (wr.ownsRow n₀ 29 2 t i (vcells (nums (xs.take i)))) := hrow
      clear hrow
      go_wp2_with (first
        | (go_at_call 6; refine (number_in _ _).mono ?_; rintro e w3 ⟨rfl, hB3⟩; have hrow3 := row_kept HR.out (fun k e => hB3.block k (HR.out.lt k e).2); have hs3 := hB3.size)
        | (at_builtin; refine wpList_append_lies _ rfl _ _ 26 rfl n₀ 29 i0 _ 2 16 Tryz.underlying26 hi0 hz0 hz1 hz2 rfl (by decide) t i _ rfl (hrow3.alloc _) ⟨w3.heap.size, 0, none⟩ 1 1 [.int .u8 2, .int .i64 x] rfl rfl (World.news_of_block (cs := #[.int .u8 2, .int .i64 x]) (t := 29) (fr := (0, 0)) (heap_alloc_new w3 _)) (by simp [Value.oneCell']) (by omega) (by unfold maxLen; omega) (by omega) (by simp; omega) (w3.heap.size + 1) (by simp) ?_; intro g6 c6 w6 ho6 hg6 hat6 hlt6))
      refine ⟨⟨_, i + 1, rfl, by simp, by omega, ?_, (hp.below hB3).grownV hrow3 (below1 w3 (.cells #[.int .u8 2, .int .i64 x] 29)) hg6, ?_⟩, by simp [intOf]; omega⟩
      · have e1 : vcells (nums (xs.take (i + 1))) = vcells (nums (xs.take i)) ++ [.int .u8 2, .int .i64 x] := by
          rw [List.take_add_one, hq]
          simp only [Option.toList_some]
          rw [nums_snoc, vcells_append]
          rfl
        rw [e1]
        exact ho6
      · have hb3 := (below1 w3 (.cells #[.int .u8 2, .int .i64 x] 29)).mono (Nat.le_trans hn1 hs3)
        exact hB.trans ((hB3.mono hn1).trans (hb3.trans (rbelow_grown hg6 (fun q e => (hrow3.lt q e).1) (by simp; omega))))
    · have hil' : ¬ (i : Int) < (xs.length : Int) := by omega
      obtain rfl : i = xs.length := by omega
      rw [List.take_length] at hrow
      obtain ⟨p6, c6, rfl, -⟩ := vals_of_row hrow
      have H1 := newList_first hp (fun x hx => by
        obtain ⟨j, hj⟩ := List.mem_iff_getElem?.1 hx
        exact (ha j x hj).1) hrow h300
      go_wp2_with (first
        | (go_at_call 7; (with_reducible refine H1.mono ?_); clear H1; rintro e w3 ⟨rfl, vw3, vb3, used3, M3, inn3, hp3, hS3, hr3, ho3, hz3, hu3⟩))
      have b8 : Bx (w3.alloc (.cells #[.int .u8 4, .int .i64 0] 29)) w3.heap.size 4 0 := heap_alloc_new w3 _
      have hbA := below1 w3 (.cells #[.int .u8 4, .int .i64 0] 29)
      have hLh : Lh n₀ bh b (w3.alloc (.cells #[.int .u8 4, .int .i64 0] 29)) (nums xs) xs.length := ⟨vw3, vb3, used3, M3, inn3, hp3.below hbA, hr3, ho3, hz3, hu3⟩
      have hn3 := hLh.n₀le
      have hrow3 := (row_kept hrow (fun k e => by
        obtain ⟨cur, hc⟩ := row_obj hrow e
        exact hp.stays hS3 hc (fun cur' t' e => by cases e; decide))).alloc (.cells #[.int .u8 4, .int .i64 0] 29)
      have hB3 : Below n₀ w2 (w3.alloc (.cells #[.int .u8 4, .int .i64 0] 29)) := hB.trans ((hp.stepBelow hS3).trans (hbA.mono (by have := hp3.blocks bh (.inl rfl); omega)))
      have hne0 : (Value.slice p6 xs.length c6).ownBlock ≠ some w3.heap.size := fun e => by
        have h1 := (hrow.lt _ e).2
        have h2 := (hp.stepBelow hS3).size
        omega
      clear hp hrow hp3 hS3 hr3 ho3 hz3 hu3 hbA hB hn1
      generalize (w3.alloc (.cells #[.int .u8 4, .int .i64 0] 29)) = W4 at b8 hLh hrow3 hB3 hn3 ⊢
      generalize w3.heap.size = B8 at b8 hne0 ⊢
      clear w3 ha
      go_loopw [6, 9, 10, 11] (fun av ev rv iv wr => ∃ (t : Value) (j room : Nat), t = av ∧ ev = .int .i64 0 ∧ rv = .int .i64 room ∧ iv = .int .i64 j ∧ j ≤ ys.length ∧ Lh n₀ bh b wr (nums (xs ++ ys.take j)) room ∧ wr.ownsRow n₀ 29 2 t (xs.length + j) (vcells (nums (xs ++ ys.take j))) ∧ xs.length + j ≤ room ∧ room ≤ 1300 ∧ Bx wr B8 4 0 ∧ t.ownBlock ≠ some B8 ∧ Below n₀ w2 wr) (fun _ _ _ iv _ => ys.length - (intOf iv).toNat)
      case atStart => exact ⟨_, 0, xs.length, rfl, rfl, rfl, rfl, by omega, by simpa using hLh, by simpa using hrow3, by omega, by omega, b8, hne0, hB3⟩
      case round =>
        clear hLh hrow3 b8 hB3 hn3 W4 hne0
        obtain ⟨t, j, room, rfl, rfl, rfl, rfl, hj, hLh, hrow, hle, hmo, b8, hne, hB⟩ := hrel
        have hn1 := hLh.n₀le
        obtain ⟨p, c, rfl, -, -⟩ := row_form2 hrow
        by_cases hjl : j < ys.length
        · have hjl' : (j : Int) < (ys.length : Int) := by omega
          obtain ⟨y, hq⟩ : ∃ y, ys[j]? = some y := ⟨ys[j], by simp⟩
          obtain ⟨hr1, g, off, rfl, hg, ca0⟩ := hb j y hq
          have hBr : Below w.heap.size w wr := HB2.out.trans (hB.mono hn0)
          have hlen : (xs ++ ys.take j).length = xs.length + j := by rw [List.length_append, List.length_take]; omega
          have HP := hLh.put hr1 (by omega) (by omega) hmo
          rw [hlen] at HP
          have FCS : ∀ W : World, Below w.heap.size wr W → Bx W B8 4 0 → W.cell? ⟨g, off + j, none⟩ = some (.int .i64 y) ∧ W.cell? ⟨B8, 0, none⟩ = some (.int .u8 4) ∧ W.cell? ⟨B8, 1, none⟩ = some (.int .i64 0) := fun W h1 h2 => ⟨(World.cell?_of_block (a := ⟨g, off + j, none⟩) ((h1.block g hg).trans (hBr.block g hg))).trans ca0, h2.cells.1.1, h2.cells.1.2⟩
          obtain ⟨N, hN⟩ : ∃ N, xs.length + j = N := ⟨_, rfl⟩
          have HN : Hid (xs.length + j = N) := hN
          have hN6 : N ≤ 600 := by omega
          rw [hN] at hrow HP hle hne ⊢
          clear hN
          have hsw : w.heap.size ≤ wr.heap.size := Nat.le_trans hn0 hn1
          have hDa := below_drew (Below.refl wr.heap.size wr)
          have S0 := FCS wr.drew (hDa.mono hsw) (b8.below hDa)
          have HQ : Hid (ys[j]? = some y) := hq
          clear hq ca0 hlen
          go_wp2_with (first | fail)
          go_region_held3 (fun W => W.cell? ⟨g, off + j, none⟩ = some (.int .i64 y) ∧ W.cell? ⟨B8, 0, none⟩ = some (.int .u8 4) ∧ W.cell? ⟨B8, 1, none⟩ = some (.int .i64 0)) (first | with_reducible exact S0 | with_reducible exact S3 | with_reducible exact S4 | with_reducible exact S5 | go_keep) ((first
            | (go_at_call 6; (with_reducible refine (number_in _ wr.drew).mono ?_); rintro e w3 ⟨rfl, hB3⟩; have hBm := hDa.trans (hB3.mono hDa.size); have S3 := FCS w3 (hBm.mono hsw) (b8.below hBm))
            | (go_at_call 6; (with_reducible refine (number_in _ w3).mono ?_); rintro e w4 ⟨rfl, hB4⟩; have hBn := hBm.trans (hB4.mono hBm.size); have S4 := FCS w4 (hBn.mono hsw) (b8.below hBn))
            | (go_at_call 8; (with_reducible refine (HP w4 hBn).mono ?_); rintro e w5 ⟨rfl, hLh5, hK5⟩; have S5 := FCS w5 (hK5.1.mono hn0) (hK5.bx b8))))
          all_goals
            have row5 := hK5.row hrow
            have b85 := hK5.bx b8
            have hB5 : Below n₀ w2 w5 := hB.trans hK5.1
            have hn5 := hLh5.n₀le
            obtain ⟨d0, -, -⟩ := S5
            obtain ⟨i0, hi0, hz0, hz1, hz2⟩ := info_parts infoV
            have HR : Hid (w5.ownsRow n₀ 29 2 (.slice p N c) N (vcells (nums (xs ++ ys.take j)))) := row5
            clear row5 S0 S3 S4 FCS HP hrow hLh
            by_cases hgr : N + 1 ≤ room
            · have hgr' : ¬ (room : Int) < (N : Int) + 1 := by omega
              go_wp2_with (first
                | (go_at_call 6; refine (number_in _ _).mono ?_; rintro e w7 ⟨rfl, hB7⟩; have row7 := row_kept HR.out (fun k e => hB7.block k (HR.out.lt k e).2); have hs7 := hB7.size)
                | (at_builtin; refine wpList_append_lies _ rfl _ _ 26 rfl n₀ 29 i0 _ 2 16 Tryz.underlying26 hi0 hz0 hz1 hz2 rfl (by decide) (.slice p N c) N _ rfl (row7.alloc _) ⟨w7.heap.size, 0, none⟩ 1 1 [.int .u8 2, .int .i64 y] rfl rfl (World.news_of_block (cs := #[.int .u8 2, .int .i64 y]) (t := 29) (fr := (0, 0)) (heap_alloc_new w7 _)) (by simp [Value.oneCell']) (by omega) (by unfold maxLen; omega) (by omega) (by simp; omega) (w7.heap.size + 1) (by simp) ?_; intro g8 c8 w8 ho8 hg8 hat8 hlt8))
              have hLh8 := (hLh5.below hB7).grownV row7 (below1 w7 (.cells #[.int .u8 2, .int .i64 y] 29)) hg8
              have hb7 := (below1 w7 (.cells #[.int .u8 2, .int .i64 y] 29)).mono (Nat.le_trans hn5 hs7)
              have hB8' : Below n₀ w2 w8 := hB5.trans ((hB7.mono hn5).trans (hb7.trans (rbelow_grown hg8 (fun q e => (row7.lt q e).1) (by simp; omega))))
              have e1 : xs ++ ys.take (j + 1) = (xs ++ ys.take j) ++ [y] := by rw [List.take_add_one, HQ.out, List.append_assoc]; rfl
              have b88 : Bx w8 B8 4 0 := by
                have b87 := b85.below hB7
                have hlt := b87.lt
                refine (hg8.block B8 (by simp; omega) (fun e => ?_)).trans ((below1 w7 (.cells #[.int .u8 2, .int .i64 y] 29)).block B8 hlt |>.trans b87)
                exact hne e.symm
              have hne9 : (Value.slice (some ⟨g8, 0, none⟩) (N + 1) c8).ownBlock ≠ some B8 := fun e => by
                simp [Value.ownBlock] at e
                rcases hat8 with h | h
                · exact hne (by rw [h, e])
                · have := b85.lt
                  omega
              refine ⟨⟨_, j + 1, room, rfl, rfl, rfl, by simp, by omega, ?_, ?_, by have := HN.out; omega, by omega, b88, hne9, hB8'⟩, by simp [intOf]; omega⟩
              · rw [e1]
                have := hLh8
                unfold nextRoom at this
                rw [if_pos hgr] at this
                exact this
              · rw [e1, nums_snoc, vcells_append, show xs.length + (j + 1) = N + 1 by have := HN.out; omega]
                exact ho8
            · have hgr' : (room : Int) < (N : Int) + 1 := by omega
              go_wp2_with (first
                | (go_at_call 6; refine (number_in _ _).mono ?_; rintro e w7 ⟨rfl, hB7⟩; have row7 := row_kept HR.out (fun k e => hB7.block k (HR.out.lt k e).2); have hs7 := hB7.size)
                | (at_builtin; refine wpList_append_lies _ rfl _ _ 26 rfl n₀ 29 i0 _ 2 16 Tryz.underlying26 hi0 hz0 hz1 hz2 rfl (by decide) (.slice p N c) N _ rfl (row7.alloc _) ⟨w7.heap.size, 0, none⟩ 1 1 [.int .u8 2, .int .i64 y] rfl rfl (World.news_of_block (cs := #[.int .u8 2, .int .i64 y]) (t := 29) (fr := (0, 0)) (heap_alloc_new w7 _)) (by simp [Value.oneCell']) (by omega) (by unfold maxLen; omega) (by omega) (by simp; omega) (w7.heap.size + 1) (by simp) ?_; intro g8 c8 w8 ho8 hg8 hat8 hlt8))
              have hLh8 := (hLh5.below hB7).grownV row7 (below1 w7 (.cells #[.int .u8 2, .int .i64 y] 29)) hg8
              have hb7 := (below1 w7 (.cells #[.int .u8 2, .int .i64 y] 29)).mono (Nat.le_trans hn5 hs7)
              have hB8' : Below n₀ w2 w8 := hB5.trans ((hB7.mono hn5).trans (hb7.trans (rbelow_grown hg8 (fun q e => (row7.lt q e).1) (by simp; omega))))
              have e1 : xs ++ ys.take (j + 1) = (xs ++ ys.take j) ++ [y] := by rw [List.take_add_one, HQ.out, List.append_assoc]; rfl
              have b88 : Bx w8 B8 4 0 := by
                have b87 := b85.below hB7
                have hlt := b87.lt
                refine (hg8.block B8 (by simp; omega) (fun e => ?_)).trans ((below1 w7 (.cells #[.int .u8 2, .int .i64 y] 29)).block B8 hlt |>.trans b87)
                exact hne e.symm
              have hne9 : (Value.slice (some ⟨g8, 0, none⟩) (N + 1) c8).ownBlock ≠ some B8 := fun e => by
                simp [Value.ownBlock] at e
                rcases hat8 with h | h
                · exact hne (by rw [h, e])
                · have := b85.lt
                  omega
              refine ⟨⟨_, j + 1, max 4 (2 * room), rfl, rfl, by congr 1; omega, by simp, by omega, ?_, ?_, by have := HN.out; omega, by omega, b88, hne9, hB8'⟩, by simp [intOf]; omega⟩
              · rw [e1]
                have := hLh8
                unfold nextRoom at this
                rw [if_neg hgr] at this
                exact this
              · rw [e1, nums_snoc, vcells_append, show xs.length + (j + 1) = N + 1 by have := HN.out; omega]
                exact ho8
        · have hjl' : ¬ (j : Int) < (ys.length : Int) := by omega
          obtain rfl : j = ys.length := by omega
          rw [List.take_length] at hLh hrow
          obtain ⟨vw, vb, used, M, inn, hp, hr, ho, hz, hu⟩ := hLh
          obtain ⟨L, hL⟩ : ∃ L, xs ++ ys = L := ⟨_, rfl⟩
          rw [hL] at hr hrow
          have hLl : L.length = xs.length + ys.length := by rw [← hL]; simp
          have hl2 := nums_len L
          obtain ⟨N, hN⟩ : ∃ N, xs.length + ys.length = N := ⟨_, rfl⟩
          rw [hN] at hrow hle hLl hne ⊢
          have hN6 : N ≤ 600 := by omega
          have hinn := hr.inn_le hp
          have HI := hr.items4 hp (by omega) (by omega)
          have HPl := fun W (hB : Below wr.heap.size wr W) => plain_row hr (hp.below hB) (by omega) (by omega) (by omega) (by unfold Bd.fits; simp only; omega) nums_plain
          rw [hl2, hLl] at HI
          simp only [show ((0 : Nat) : Int) = 0 from rfl] at HI HPl
          obtain ⟨e80, e81⟩ := b8.cells.1
          have HP : Hid (Hp n₀ bh b vw vb wr 20000 used M) := hp
          have HRw : Hid (Rw M 0 4 (nums L) room inn) := hr
          have HRow : Hid (wr.ownsRow n₀ 29 2 (.slice p N c) N (vcells (nums L))) := hrow
          have HL : Hid ((nums L).length = N) := hl2.trans hLl
          clear hp hr hrow hL hLl hl2 hN hb
          go_wp2_with (first
            | (go_at_call 9; (with_reducible refine HI.mono ?_); clear HI; rintro e w10 ⟨p10, c10, rfl, row10, hB10⟩
               have b810 := b8.below hB10
               obtain ⟨e82, e83⟩ := b810.cells.1
               have HPl' := HPl w10 hB10
               clear HPl)
            | (go_at_call 10; (with_reducible refine HPl'.mono ?_); clear HPl'; rintro e w11 ⟨gs, cs, rfl, cell11, hB11⟩; refine halt_here ?_))
          unfold Halted
          have hBw := hB10.trans (hB11.mono hB10.size)
          have hbA := below1 w11 (.cells #[.int .u8 4, .int .i64 1] 29)
          have hB12 := hBw.trans (hbA.mono hBw.size)
          have v1 : Vals (w11.alloc (.cells #[.int .u8 4, .int .i64 1] 29)) p10 (nums L) := ((vals_row row10).below hB11).below hbA
          have v2 : Vals (w11.alloc (.cells #[.int .u8 4, .int .i64 1] 29)) p (nums L) := (vals_row HRow.out).below hB12
          have HS := same_vals (n := N) (c1 := c10) (c2 := c) HL.out.symm (by omega) v1 v2
          have bA : Bx (w11.alloc (.cells #[.int .u8 4, .int .i64 1] 29)) w11.heap.size 4 1 := heap_alloc_new w11 _
          have hgs := World.block_lt_of_cell? w11 ⟨gs, 3, none⟩ cell11
          clear v1 v2 row10 e80 e81 e82 e83 b810
          go_wp2_with (first
            | (go_at_call 11; (with_reducible refine HS.mono ?_); clear HS; rintro e w13 ⟨rfl, hB13⟩; refine halt_here ?_))
          unfold Halted
          have hBz := hB12.trans (hB13.mono hB12.size)
          have c13 : w13.cell? ⟨gs, 3, none⟩ = some (.int .i64 room) := (World.cell?_of_block (a := ⟨gs, 3, none⟩) ((hB13.block gs (Nat.lt_of_lt_of_le hgs hbA.size)).trans (hbA.block gs hgs))).trans cell11
          obtain ⟨a0, a1⟩ := (bA.below hB13).cells.1
          obtain ⟨d0, d1⟩ := (b8.below hBz).cells.1
          have hbC := below1 w13 (.cells #[.int .u8 4, .int .i64 0] 29)
          have hB14 := hBz.trans (hbC.mono hBz.size)
          have bC : Bx (w13.alloc (.cells #[.int .u8 4, .int .i64 0] 29)) w13.heap.size 4 0 := heap_alloc_new w13 _
          have hp14 := HP.out.below hB14
          have hvC : ∀ W, Bx W w13.heap.size 4 0 → Vals W (some ⟨w13.heap.size, 0, none⟩) [⟨4, 0⟩] := fun W h j v hj => by
            cases j with
            | zero =>
              simp at hj
              subst hj
              exact ⟨w13.heap.size, 0, rfl, by simpa using h.cells.1.1, by simpa using h.cells.1.2⟩
            | succ j => simp at hj
          have hmay : May M [⟨4, 0⟩] := fun v hv => by
            simp at hv
            subst hv
            refine ⟨by simp, fun _ => ?_⟩
            obtain ⟨o, h1, h2, h3⟩ := HRw.out.ob
            exact ⟨by simp, by simp, o, h1, by rw [h2]; rfl, h3⟩
          have HC := collect_ok hp14 (by omega) 1 (hvC _ bC) (by simp) (by simp) (by simp) (fun vw' vb' w' hS => hvC _ (bC.step hp14 hS)) hmay
          simp only [List.length_cons, List.length_nil, Nat.zero_add] at HC
          clear hvC hmay bC
          by_cases hr0 : room = 0
          · subst hr0
            simp only [show ((0 : Nat) : Int) = 0 from rfl] at c13 ⊢
            go_wp2_with (first
              | (go_at_call 12; (with_reducible refine HC.mono ?_); clear HC; rintro e w15 ⟨v15, rfl, f, vw15, vb15, hf, hv15, hp15, hS15⟩
                 have hus := left_words HP.out.srt.1 HRw.out ho hz hf HP.out.srt.1.filter
                 rw [if_pos rfl] at hus
                 rw [hus] at hp15
                 have HU := usedM hp15)
              | (go_at_call 13; (with_reducible refine HU.mono ?_); clear HU; rintro e w16 ⟨rfl, hw16⟩; obtain rfl := hw16.symm))
            go_ret
            exact ⟨rfl, HB2.out.trans ((hB.trans ((hB14.mono hn1).trans (hp14.stepBelow hS15))).mono hn0)⟩
          · have hr0' : (0 : Int) < (room : Int) := by omega
            have hmo' : (room : Int) ≤ 1300 := by omega
            go_wp2_with (first
              | (go_at_call 12; (with_reducible refine HC.mono ?_); clear HC; rintro e w15 ⟨v15, rfl, f, vw15, vb15, hf, hv15, hp15, hS15⟩
                 have hus := left_words HP.out.srt.1 HRw.out ho hz hf HP.out.srt.1.filter
                 rw [if_neg hr0] at hus
                 rw [hus] at hp15
                 have HU := usedM hp15
                 simp only [Int.natCast_add, Int.natCast_mul, show ((4 : Nat) : Int) = 4 from rfl, show ((2 : Nat) : Int) = 2 from rfl] at HU
                 clear hus)
              | (go_at_call 13; (with_reducible refine HU.mono ?_); clear HU; rintro e w16 ⟨rfl, hw16⟩; obtain rfl := hw16.symm))
            go_ret
            exact ⟨rfl, HB2.out.trans ((hB.trans ((hB14.mono hn1).trans (hp14.stepBelow hS15))).mono hn0)⟩

end Go.Proofs.YtkombdkhodjckaaGreat
