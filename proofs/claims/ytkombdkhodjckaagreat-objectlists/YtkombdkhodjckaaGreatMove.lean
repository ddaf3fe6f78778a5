/- back: the iterator over an arena's objects, from one on towards the first. -/
import Derived.RangeFuncNested
import Derived.RangeFuncBound
import Derived.RangeFuncCalls
import Derived.RangeFuncLeaves
import Derived.RangeFuncBox
import Derived.Shelf.Abstract
import Derived.Shelf.RegionOpen
import Derived.WalkKit
import Derived.OwnWalkIn
import Derived.TacticsInMore
import Derived.LoopNIn
import Derived.LoopIn
import Derived.Test.YtkombdkhodjckaaGreatRead
import Derived.Deep.RegionHeld3
import Derived.Laws.CopyRow
namespace Go.Proofs.YtkombdkhodjckaaGreat
open Go.RowKit Go.Shelf

attribute [local go_sem] Oper.semAt_some

/-- The arena's words alone. -/
structure IsW (n₀ b : Nat) (vw : Value) (w : World) (ws : List Nat) : Prop where
  c1 : w.cell? ⟨b, 1, none⟩ = some vw
  rw : w.ownsRow n₀ 98 1 vw ws.length (ws.map wv)
  le : ws.length ≤ 1048576
  val : ∀ x ∈ ws, x < 18446744073709551616

theorem IsAr.toW {n₀ b : Nat} {vw vb : Value} {w : World} {A : Ar} (h : IsAr n₀ b vw vb w A) : IsW n₀ b vw w A.ws := ⟨h.c1, h.rw, Nat.le_trans h.le h.lim, h.val⟩

/-- What the iterator wants kept: the arena's block, its words' row, the two captured variables. -/
structure KpW (b : Nat) (vw : Value) (Ba Bx : Nat) (W W' : World) : Prop where
  blk : W'.heap[b]? = W.heap[b]?
  row : ∀ k, vw.ownBlock = some k → W'.heap[k]? = W.heap[k]?
  ba : W'.heap[Ba]? = W.heap[Ba]?
  bx : W'.heap[Bx]? = W.heap[Bx]?

theorem KpW.trans {b : Nat} {vw : Value} {Ba Bx : Nat} {A B C : World} (h : KpW b vw Ba Bx A B) (k : KpW b vw Ba Bx B C) : KpW b vw Ba Bx A C :=
  ⟨k.blk.trans h.blk, fun i e => (k.row i e).trans (h.row i e), k.ba.trans h.ba, k.bx.trans h.bx⟩

theorem KpW.refl (b : Nat) (vw : Value) (Ba Bx : Nat) (A : World) : KpW b vw Ba Bx A A := ⟨rfl, fun _ _ => rfl, rfl, rfl⟩

variable {n₀ b : Nat} {vw vb : Value} {w : World} {ws : List Nat}

theorem IsW.kept (h : IsW n₀ b vw w ws) {w' : World} {Ba Bx : Nat} (k : KpW b vw Ba Bx w w') : IsW n₀ b vw w' ws := by
  refine ⟨(World.cell?_of_block (a := ⟨b, 1, none⟩) k.blk).trans h.c1, ⟨h.rw.1, ?_⟩, h.le, h.val⟩
  rcases h.rw.2 with hn | ⟨g, cap, cur, rfl, hb, hgg, rest⟩
  · exact .inl hn
  · exact .inr ⟨g, cap, cur, rfl, hb, by rw [k.row g rfl]; exact hgg, rest⟩

theorem IsW.word (h : IsW n₀ b vw w ws) {i x : Nat} (hi : ws[i]? = some x) : ∃ g c, vw = .slice (some ⟨g, 0, none⟩) ws.length c ∧ w.cell? ⟨g, i, none⟩ = some (.int .u64 x) := by
  have hlt : i < ws.length := (List.getElem?_eq_some_iff.1 hi).1
  obtain ⟨g, c, rfl, _, _⟩ := IsAr.row_some h.rw (by omega)
  refine ⟨g, c, rfl, ?_⟩
  rw [h.rw.cellAt i (by omega)]
  simp [hi, wv]

set_option maxHeartbeats 400000 in
theorem field_w (h : IsW n₀ b vw w ws) (i x f : Nat) (hi : ws[i]? = some x) (hf : f ≤ 3) :
    Calls Tryz.prog 112 #[.pointer (some ⟨b, 0, none⟩), .int .i64 i, .int .i64 f] w fun e w' => e = .returned (.int .i64 (fld x f)) ∧ w' = w := by
  have hc := h.c1
  have hle := h.le
  have hx := h.val x (List.mem_of_getElem? hi)
  have hlt : i < ws.length := (List.getElem?_eq_some_iff.1 hi).1
  obtain ⟨g, c, rfl, hcell⟩ := h.word hi
  clear h hi
  go_enter Tryz.func112, Tryz.ntmps112
  go_wp2
  go_ret
  exact ⟨ret_int (field_val x f hx), rfl⟩

set_option maxHeartbeats 400000 in
theorem ahead_w (h : IsW n₀ b vw w ws) (i x : Nat) (hi : ws[i]? = some x) :
    Calls Tryz.prog 129 #[.pointer (some ⟨b, 0, none⟩), .int .i64 i] w fun e w' => e = .returned (.int .i64 (optI (ahd x))) ∧ w' = w := by
  have hl := fld_lt x 1
  have hc := (field_w h i x 1 hi (by omega))
  clear hi h
  go_enter Tryz.func129, Tryz.ntmps129
  go_wp2_with (go_at_call 112; refine hc.mono ?_; clear hc; rintro e w' ⟨rfl, rfl⟩)
  go_ret
  exact ⟨ret_int (optI_ahd x), rfl⟩

/-- The places of the objects from one on towards the first. -/
def BackOf (ws : List Nat) : Option Nat → List Nat → Prop
  | o, [] => o = none
  | o, i :: r => o = some i ∧ ∃ x, ws[i]? = some x ∧ (∀ j, ahd x = some j → j < i) ∧ BackOf ws (ahd x) r

theorem BackOf.lt : ∀ {o : Option Nat} {xs : List Nat}, BackOf ws o xs → ∀ i ∈ xs, i < ws.length
  | _, [], _, _, h => by cases h
  | _, i :: r, ⟨_, x, hx, _, hr⟩, j, hj => by
    rcases List.mem_cons.1 hj with rfl | hj
    · exact (List.getElem?_eq_some_iff.1 hx).1
    · exact hr.lt j hj

set_option maxRecDepth 100000 in
set_option maxHeartbeats 2000000 in
theorem back1_in (n l Ba Bx M : Nat) (hn : 1 ≤ n) (at_ : Option Nat) (xs : List (Fin M)) (hxs : BackOf ws at_ (xs.map (·.val))) (J Jx : List (Fin M) → World → Prop)
    (hY : ∀ pre x W, J pre W → pre.length < xs.length → YieldAt Fence.wide (n - 1) Tryz.prog l #[.int .i64 x.val] W fun e W' =>
      (e = .returned (.bool true) ∧ J (pre ++ [x]) W' ∧ KpW b vw Ba Bx W W') ∨ (e = .returned (.bool false) ∧ Jx (pre ++ [x]) W'))
    (W : World) (hW : IsW n₀ b vw W ws) (hBx : W.cell? ⟨Bx, 0, none⟩ = some (.int .i64 (optI at_))) (hBa : W.cell? ⟨Ba, 0, none⟩ = some (.pointer (some ⟨b, 0, none⟩))) (h0 : J [] W) :
    CallsIn Fence.wide n Tryz.prog 128 #[.func (.yield l) #[] #[], .pointer (some ⟨Bx, 0, none⟩), .pointer (some ⟨Ba, 0, none⟩)] W fun e W' => (∃ v, e = .returned v) ∧
      ((∃ ys, ys = xs ∧ J ys W') ∨ (∃ pre, pre <+: xs ∧ Jx pre W')) := by
  refine callsIn_of_wp Tryz.func128 rfl trivial ?_ rfl
  simp only [Tryz.ntmps128, List.size_toArray, List.length_cons, List.length_nil, Nat.reduceAdd, Nat.reduceSub, Array.replicate_succ, Array.replicate_zero, List.push_toArray, List.append_toArray, List.nil_append, List.cons_append]
  gi_wp2
  gi_loopw [4] (fun p wr => ∃ (pre rest : List (Fin M)) (q : Option Nat), p = .int .i64 (optI q) ∧ xs = pre ++ rest ∧ BackOf ws q (rest.map (·.val)) ∧ J pre wr ∧ KpW b vw Ba Bx W wr)
    (fun p _ => (intOf p + 1).toNat)
  case atStart =>
    exact ⟨[], xs, at_, rfl, rfl, hxs, h0, KpW.refl _ _ _ _ _⟩
  case round =>
    obtain ⟨pre, rest, q, rfl, hx, hl, hJs, hk⟩ := hrel
    cases rest with
    | nil =>
      obtain rfl : q = none := hl
      rw [show optI none = -1 from rfl]
      gi_wp2
      refine ⟨fun _ h => (by cases h), ?_⟩
      gi_wp2
      go_end0
      exact ⟨⟨_, rfl⟩, .inl ⟨pre, by simp [hx], hJs⟩⟩
    | cons x rest =>
      obtain ⟨rfl, y, hy, hlt, hr⟩ := hl
      obtain ⟨fn, tmps, assign, body, hy', hR⟩ := hY pre x wr hJs (by rw [hx]; simp)
      rw [show optI (some x.val) = ((x.val : Nat) : Int) from rfl]
      have hxx : (((x.val : Nat) : Int) != -1) = true := by simp
      gi_wp2
      refine hR.mono ?_
      rintro e W3 (⟨rfl, hJ3, hk3⟩ | ⟨rfl, hJx3⟩)
      · have hk4 := hk.trans hk3
        have hba : W3.cell? ⟨Ba, 0, none⟩ = some (.pointer (some ⟨b, 0, none⟩)) := (World.cell?_of_block (a := ⟨Ba, 0, none⟩) hk4.ba).trans hBa
        have hq := ahead_w (hW.kept hk4) x.val y hy
        gi_wp2_with (refine ⟨trivial, ?_⟩; gi_at_call 129; refine (callsIn_wide.2 hq).mono ?_; clear hq; rintro e w' ⟨rfl, rfl⟩)
        go_roundw
        case rel => exact ⟨pre ++ [x], rest, ahd y, rfl, by simp [hx], hr, hJ3, hk4⟩
        case measure =>
          cases hah : ahd y with
          | none => simp [intOf, optI]
          | some j => have := hlt j hah; simp [intOf, optI]; omega
      · gi_wp2
        go_end0
        exact ⟨⟨_, rfl⟩, .inr ⟨pre ++ [x], ⟨rest, by simp [hx]⟩, hJx3⟩⟩

theorem back1_stops (n Ba Bx M : Nat) (hn : 1 ≤ n) (at_ : Option Nat) (xs : List (Fin M)) (hxs : BackOf ws at_ (xs.map (·.val)))
    (hW : IsW n₀ b vw w ws) (hb : b < w.heap.size) (hBx : w.cell? ⟨Bx, 0, none⟩ = some (.int .i64 (optI at_))) (hBa : w.cell? ⟨Ba, 0, none⟩ = some (.pointer (some ⟨b, 0, none⟩))) :
    SeqStopsK Fence.wide n Tryz.prog 128 #[.pointer (some ⟨Bx, 0, none⟩), .pointer (some ⟨Ba, 0, none⟩)] (fun x : Fin M => #[.int .i64 x.val]) (KpW b vw Ba Bx) (fun ys => ys = xs) (fun pre => pre <+: xs) xs.length w := by
  intro l J Jx W hBl hJ hJx hY h0
  have hk : KpW b vw Ba Bx w W := ⟨hBl.block b hb, fun k e => hBl.block k (hW.rw.lt k e).2, hBl.block Ba (World.block_lt_of_cell? w _ hBa), hBl.block Bx (World.block_lt_of_cell? w _ hBx)⟩
  exact back1_in n l Ba Bx M hn at_ xs hxs J Jx hY W (hW.kept hk) ((World.cell?_of_block (a := ⟨Bx, 0, none⟩) hk.bx).trans hBx) ((World.cell?_of_block (a := ⟨Ba, 0, none⟩) hk.ba).trans hBa) h0

set_option maxHeartbeats 400000 in
theorem back_in (at_ : Int) (w : World) : Calls Tryz.prog 111 #[.pointer (some ⟨b, 0, none⟩), .int .i64 at_] w fun e w' =>
    e = .returned (.func (.func 128) #[] #[.pointer (some ⟨w.heap.size + 1, 0, none⟩), .pointer (some ⟨w.heap.size, 0, none⟩)]) ∧ w' = (w.alloc (.cells #[.pointer (some ⟨b, 0, none⟩)] 83)).alloc (.cells #[.int .i64 at_] 2) := by
  go_enter Tryz.func111, Tryz.ntmps111
  go_wp2
  go_ret
  exact ⟨rfl, rfl⟩

end Go.Proofs.YtkombdkhodjckaaGreat

namespace Go.Proofs.YtkombdkhodjckaaGreat
open Go.RowKit Go.Shelf

attribute [local go_sem] Oper.semAt_some

variable {n₀ b : Nat} {vw vb : Value} {w : World} {A : Ar}

theorem cell_new_l (w : World) (v : Value) (t : TypeId) : (w.alloc (.cells #[v] t)).cell? ⟨w.heap.size, 0, none⟩ = some v ∧ (w.alloc (.cells #[v] t)).frozen? ⟨w.heap.size, 0, none⟩ = false :=
  ⟨by rw [cell_of_row _ w.heap.size 0 _ _ _ (heap_alloc_new w _)]; rfl, frozen_of_row _ w.heap.size 0 _ _ (heap_alloc_new w _)⟩

theorem cell_alloc_l {w : World} {a : Addr} {v : Value} (o : Obj) (h : w.cell? a = some v) : (w.alloc o).cell? a = some v :=
  (World.cell?_of_block (Below.heap_alloc w o a.block (World.block_lt_of_cell? w a h))).trans h

theorem frozen_alloc_l {w : World} {a : Addr} {v : Value} (o : Obj) (h : w.cell? a = some v) (hf : w.frozen? a = false) : (w.alloc o).frozen? a = false :=
  (World.frozen?_of_block (Below.heap_alloc w o a.block (World.block_lt_of_cell? w a h))).trans hf

theorem fins {M : Nat} : ∀ (L : List Nat), (∀ i ∈ L, i < M) → ∃ xs : List (Fin M), xs.map (·.val) = L
  | [], _ => ⟨[], rfl⟩
  | i :: r, h => by
    obtain ⟨xs, hx⟩ := fins r (fun j hj => h j (List.mem_cons_of_mem _ hj))
    exact ⟨⟨i, h i (by simp)⟩ :: xs, by simp [hx]⟩

theorem KpW.putObj {Ba Bx : Nat} {S : Nat} (hb : b < S) (hv : ∀ k, vw.ownBlock = some k → k < S) (ha : Ba < S) (hx : Bx < S) (W : World) (l : Nat) (o' : Obj) (hl : S ≤ l) : KpW b vw Ba Bx W (W.putObj l o') :=
  ⟨World.putObj_heap_other (by omega), fun k e => World.putObj_heap_other (by have := hv k e; omega), World.putObj_heap_other (by omega), World.putObj_heap_other (by omega)⟩

theorem find_none {L : List Nat} {p : Nat} (h : ∀ y ∈ L, ¬ y < p) : L.find? (fun y => decide (y < p)) = none := by
  rw [List.find?_eq_none]; intro y hy; simpa using h y hy

theorem find_pre {L q : List Nat} {x p : Nat} (hL : q ++ [x] <+: L) (hq : ∀ y ∈ q, ¬ y < p) (hx : x < p) : L.find? (fun y => decide (y < p)) = some x := by
  obtain ⟨r, rfl⟩ := hL
  rw [List.append_assoc, List.find?_append, find_none hq]
  simp [hx]

set_option maxRecDepth 100000 in
set_option maxHeartbeats 2000000 in
theorem lastAhead_in (h : IsAr n₀ b vw vb w A) (at_ : Option Nat) (L : List Nat) (hL : BackOf A.ws at_ L) (place : Nat) :
    Calls Tryz.prog 82 #[.pointer (some ⟨b, 0, none⟩), .int .i64 (optI at_), .int .i64 place] w fun e W' => e = .returned (.int .i64 (optI (L.find? (fun y => decide (y < place))))) ∧ Below w.heap.size w W' := by
  obtain ⟨xs, rfl⟩ := fins (M := A.ws.length) L hL.lt
  refine (callsIn_wide (n := 3)).1 ?_
  have h1 : 1 ≤ 3 := by omega
  refine callsIn_of_wp_marks Tryz.func82 rfl trivial ?_ rfl
  simp only [Tryz.ntmps82, List.size_toArray, List.length_cons, List.length_nil, Nat.reduceAdd, Nat.reduceSub, Array.replicate_succ, Array.replicate_zero, List.push_toArray, List.append_toArray, List.nil_append, List.cons_append]
  gi_wp2_with (refine ⟨trivial, ?_⟩; gi_at_call 111; refine (callsIn_wide.2 (back_in _ _)).mono ?_; rintro e w' ⟨rfl, rfl⟩)
  have c0 := cell_new_l w (.int .i64 place) 2
  have c1 := cell_new_l (w.alloc (.cells #[.int .i64 place] 2)) (.int .i64 0) 2
  have c2 := cell_new_l ((w.alloc (.cells #[.int .i64 place] 2)).alloc (.cells #[.int .i64 0] 2)) (.pointer (some ⟨b, 0, none⟩)) 83
  have c3 := cell_new_l (((w.alloc (.cells #[.int .i64 place] 2)).alloc (.cells #[.int .i64 0] 2)).alloc (.cells #[.pointer (some ⟨b, 0, none⟩)] 83)) (.int .i64 (optI at_)) 2
  simp only [World.size_alloc] at c1 c2 c3
  have hB0 : Below w.heap.size w ((((w.alloc (.cells #[.int .i64 place] 2)).alloc (.cells #[.int .i64 0] 2)).alloc (.cells #[.pointer (some ⟨b, 0, none⟩)] 83)).alloc (.cells #[.int .i64 (optI at_)] 2)) :=
    ((((Below.refl _ w).alloc (Nat.le_refl _) _).alloc (by simp) _).alloc (by simp; omega) _).alloc (by simp; omega) _
  have hW := (h.below hB0).toW
  have hbl := h.lt
  have hvl := fun k e => (h.rw.lt k e).2
  refine wpIn_rangeFunc_ownF rfl h1 (gf := 128) (lb := #[.pointer (some ⟨w.heap.size + 1 + 1 + 1, 0, none⟩), .pointer (some ⟨w.heap.size + 1 + 1, 0, none⟩)]) rfl trivial (enters_of Tryz.func128 (by kernel_rfl) rfl)
    (back1_stops 2 (w.heap.size + 1 + 1) (w.heap.size + 1 + 1 + 1) A.ws.length (by omega) at_ xs hL hW (by simp; omega) c3.1 (cell_alloc_l _ c2.1)) (fun h k => h.trans k) (fun W l o o' hl _ _ _ => KpW.putObj (S := w.heap.size + 1 + 1 + 1 + 1) (by omega) (fun k e => by have := hvl k e; omega) (by omega) (by omega) W l o' (by simpa using hl)) (Below.refl _ _) (fun _ => rfl)
    (fun pre W => ((∀ y ∈ pre, ¬ y.val < place) ∧ W.cell? ⟨w.heap.size, 0, none⟩ = some (.int .i64 place) ∧ W.cell? ⟨w.heap.size + 1, 0, none⟩ = some (.int .i64 0) ∧ W.frozen? ⟨w.heap.size + 1, 0, none⟩ = false) ∧ Below w.heap.size w W)
    (fun c pre W => (c = .ret ∧ ∃ (q : List (Fin A.ws.length)) (x : Fin A.ws.length), pre = q ++ [x] ∧ (∀ y ∈ q, ¬ y.val < place) ∧ x.val < place ∧ W.cell? ⟨w.heap.size + 1, 0, none⟩ = some (.int .i64 x.val)) ∧ Below w.heap.size w W)
    (OwnFrom.and (Own.from (fun s A B row hs hg hr => ⟨hs.1, cell_kept hs.2.1 hg hr, cell_kept hs.2.2.1 hg hr, (frozen_kept hs.2.2.1 hg hr).trans hs.2.2.2⟩) _) (ownFrom_below (Nat.le_refl _) (by simp; omega)))
    (fun c => OwnFrom.and (Own.from (fun s A B row hs hg hr => by obtain ⟨e, q, x, e2, h3, h4, h5⟩ := hs; exact ⟨e, q, x, e2, h3, h4, cell_kept h5 hg hr⟩) _) (ownFrom_below (Nat.le_refl _) (by simp; omega)))
    ⟨⟨by simp, cell_alloc_l _ (cell_alloc_l _ (cell_alloc_l _ c0.1)), cell_alloc_l _ (cell_alloc_l _ c1.1), frozen_alloc_l _ (cell_alloc_l _ c1.1) (frozen_alloc_l _ c1.1 c1.2)⟩, hB0⟩
    (fun x => { tmps := #[.pointer (some ⟨b, 0, none⟩), .int .i64 (optI at_), .int .i64 place, undef, undef, .pointer (some ⟨w.heap.size, 0, none⟩), .pointer (some ⟨w.heap.size + 1, 0, none⟩), .int .i64 x.val, .pointer (some ⟨b, 0, none⟩), .int .i64 (optI at_), .func (.func 128) #[] #[.pointer (some ⟨w.heap.size + 1 + 1 + 1, 0, none⟩), .pointer (some ⟨w.heap.size + 1 + 1, 0, none⟩)], .int .i64 x.val, undef, undef, undef, undef], defers := [] }) ?assign ?body ?done ?stop
  case assign =>
    intro l x W K hK
    gi_wp2
    exact hK
  case body =>
    rintro l pre x W ⟨⟨hp, hcw, hcr, hfr⟩, hB⟩ _
    by_cases hx : x.val < place
    · gi_wp2
      exact ⟨KeepsOthers.setCell _ _ _, ⟨rfl, pre, x, rfl, hp, hx, World.cell?_setCell_same' _ _ _ (by rw [hcr]; rfl)⟩, hB.setCell (p := ⟨w.heap.size + 1, 0, none⟩) (by simp) _⟩
    · gi_wp2
      exact ⟨KeepsOthers.refl _, KpW.refl _ _ _ _ _, ⟨fun y hy => (List.mem_append.1 hy).elim (hp y) (fun e => by simp at e; subst e; exact hx), hcw, hcr, hfr⟩, hB⟩
  case done =>
    rintro D ys W hD rfl ⟨⟨hne, _, hcr, hfr⟩, hB⟩ hK
    gi_wp2
    have hK' := (KeepsOthers.setCell W ⟨w.heap.size + 1, 0, none⟩ (.int .i64 (-1))).same D _ hK rfl
    refine ⟨by simp, .inl ⟨_, _, rfl, run_takeDeferred hK', ?_⟩⟩
    have hc5 := cell_kept (World.cell?_setCell_same' W ⟨w.heap.size + 1, 0, none⟩ (.int .i64 (-1)) (by rw [hcr]; rfl)) (grownBy_putObj' _ D (.deferred none)) (fun r e => by cases e; exact ⟨_, hK', rfl⟩)
    refine ⟨.int .i64 (-1), ?_, ?_, (hB.setCell (p := ⟨w.heap.size + 1, 0, none⟩) (by simp) _).trans (belowK_b (w := w) (Nat.le_refl _) _ D _ _ (by simp at hD; omega) hK' rfl rfl)⟩
    · simp [results, Tryz.f82, go_sem, hc5]
    · rw [find_none (by intro y hy; obtain ⟨z, hz, rfl⟩ := List.mem_map.1 hy; exact hne z hz)]; rfl
  case stop =>
    rintro D c pre W hD hpre ⟨⟨rfl, q, x, rfl, hq, hx, hcr⟩, hB⟩ hK
    gi_wp2
    refine ⟨by simp, .inl ⟨_, _, rfl, run_takeDeferred hK, ?_⟩⟩
    have hc5 := cell_kept hcr (grownBy_putObj' _ D (.deferred none)) (fun r e => by cases e; exact ⟨_, hK, rfl⟩)
    refine ⟨.int .i64 x.val, ?_, ?_, hB.trans (belowK_b (w := w) (Nat.le_refl _) W D _ _ (by simp at hD; omega) hK rfl rfl)⟩
    · simp [results, Tryz.f82, go_sem, hc5]
    · rw [find_pre (q := q.map (·.val)) (x := x.val) (by obtain ⟨r, hr⟩ := hpre; exact ⟨r.map (·.val), by rw [← hr]; simp⟩) (by intro y hy; obtain ⟨z, hz, rfl⟩ := List.mem_map.1 hy; exact hq z hz) hx]; rfl

end Go.Proofs.YtkombdkhodjckaaGreat

namespace Go.Proofs.YtkombdkhodjckaaGreat
open Go.RowKit Go.Shelf

attribute [local go_sem] Oper.semAt_some

variable {n₀ b : Nat} {vw vb : Value} {w : World} {A : Ar}

def clr (bs : List Bool) (L : List Nat) : List Bool := L.foldl (fun s i => s.set i false) bs

@[simp] theorem clr_length : ∀ (L : List Nat) (bs : List Bool), (clr bs L).length = bs.length
  | [], _ => rfl
  | i :: r, bs => by rw [show clr bs (i :: r) = clr (bs.set i false) r from rfl, clr_length r]; simp
theorem clr_snoc (bs : List Bool) (L : List Nat) (i : Nat) : clr bs (L ++ [i]) = (clr bs L).set i false := by simp [clr, List.foldl_append]

theorem IsAr.abides (h : IsAr n₀ b vw vb w A) {w' : World} {row : Option Nat} (hg : w.grownBy w' row) (hr : ∀ r, row = some r → ∃ o : Obj, w.heap[r]? = some o ∧ o.isCells = false) : IsAr n₀ b vw vb w' A := by
  have key : ∀ (k : Nat) (cur : Array Value) (t : TypeId) (fr : Nat × Nat), w.heap[k]? = some (Obj.cells cur t fr) → w'.heap[k]? = w.heap[k]? := by
    intro k cur t fr hk
    refine hg.block k (Array.getElem?_eq_some_iff.1 hk).1 (fun e => ?_)
    obtain ⟨o, ho, hn⟩ := hr k e.symm
    rw [hk] at ho; cases ho; simp [Obj.isCells] at hn
  refine h.kept (key b _ _ _ h.blk) (fun k e => ?_) (fun k e => ?_)
  · obtain ⟨cur, hc⟩ := IsAr.row_type h.rw e; exact key k _ _ _ hc
  · obtain ⟨cur, hc⟩ := IsAr.row_type h.rb e; exact key k _ _ _ hc

theorem Step.abides {vw' vb' : Value} {w1 w2 : World} (h : Step b vw vb w vw' vb' w1) {row : Option Nat} (hg : w1.grownBy w2 row) (hr : ∀ r, row = some r → w.heap.size ≤ r) : Step b vw vb w vw' vb' w2 :=
  ⟨hg.os.trans h.os, hg.tape.trans h.tape, hg.output.trans h.output, Nat.le_trans h.size hg.size,
   fun k hk hb hw hv => (hg.block k (Nat.lt_of_lt_of_le hk h.size) (fun e => by have := hr k e.symm; omega)).trans (h.block k hk hb hw hv), h.fw, h.fb⟩

theorem take_all {L : List Nat} {s : Option Nat} (h : ∀ y ∈ L, some y ≠ s) : L.takeWhile (fun y => decide (some y ≠ s)) = L := by
  induction L with
  | nil => rfl
  | cons a r ih =>
    have ha : decide (some a ≠ s) = true := by simpa using h a (by simp)
    rw [List.takeWhile_cons, ha, if_pos rfl, ih (fun y hy => h y (List.mem_cons_of_mem _ hy))]

theorem take_pre {L q : List Nat} {x : Nat} {s : Option Nat} (hL : q ++ [x] <+: L) (hq : ∀ y ∈ q, some y ≠ s) (hx : some x = s) : L.takeWhile (fun y => decide (some y ≠ s)) = q := by
  obtain ⟨r, rfl⟩ := hL
  rw [List.append_assoc, List.takeWhile_append, take_all hq]
  simp [hx]

set_option maxRecDepth 100000 in
set_option maxHeartbeats 2000000 in
theorem drop_in (h : IsAr n₀ b vw vb w A) (hl : A.bs.length = A.ws.length) (at_ stays : Option Nat) (L : List Nat) (hL : BackOf A.ws at_ L) :
    Calls Tryz.prog 127 #[.pointer (some ⟨b, 0, none⟩), .int .i64 (optI at_), .int .i64 (optI stays)] w fun e W' => e = .returned (.tuple #[]) ∧
      IsAr n₀ b vw vb W' { A with bs := clr A.bs (L.takeWhile (fun y => decide (some y ≠ stays))) } ∧ Step b vw vb w vw vb W' := by
  obtain ⟨xs, rfl⟩ := fins (M := A.ws.length) L hL.lt
  refine (callsIn_wide (n := 3)).1 ?_
  have h1 : 1 ≤ 3 := by omega
  refine callsIn_of_wp_marks Tryz.func127 rfl trivial ?_ rfl
  simp only [Tryz.ntmps127, List.size_toArray, List.length_cons, List.length_nil, Nat.reduceAdd, Nat.reduceSub, Array.replicate_succ, Array.replicate_zero, List.push_toArray, List.append_toArray, List.nil_append, List.cons_append]
  gi_wp2_with (refine ⟨trivial, ?_⟩; gi_at_call 111; refine (callsIn_wide.2 (back_in _ _)).mono ?_; rintro e w' ⟨rfl, rfl⟩)
  have c0 := cell_new_l w (.pointer (some ⟨b, 0, none⟩)) 83
  have c1 := cell_new_l (w.alloc (.cells #[.pointer (some ⟨b, 0, none⟩)] 83)) (.int .i64 (optI stays)) 2
  have c2 := cell_new_l ((w.alloc (.cells #[.pointer (some ⟨b, 0, none⟩)] 83)).alloc (.cells #[.int .i64 (optI stays)] 2)) (.pointer (some ⟨b, 0, none⟩)) 83
  have c3 := cell_new_l (((w.alloc (.cells #[.pointer (some ⟨b, 0, none⟩)] 83)).alloc (.cells #[.int .i64 (optI stays)] 2)).alloc (.cells #[.pointer (some ⟨b, 0, none⟩)] 83)) (.int .i64 (optI at_)) 2
  simp only [World.size_alloc] at c1 c2 c3
  have hB0 : Below w.heap.size w ((((w.alloc (.cells #[.pointer (some ⟨b, 0, none⟩)] 83)).alloc (.cells #[.int .i64 (optI stays)] 2)).alloc (.cells #[.pointer (some ⟨b, 0, none⟩)] 83)).alloc (.cells #[.int .i64 (optI at_)] 2)) :=
    ((((Below.refl _ w).alloc (Nat.le_refl _) _).alloc (by simp) _).alloc (by simp; omega) _).alloc (by simp; omega) _
  have hA0 := h.below hB0
  have hbl := h.lt
  have hvl := fun k e => (h.rw.lt k e).2
  have hml := fun k e => (h.rb.lt k e).2
  refine wpIn_rangeFunc_ownF rfl h1 (gf := 128) (lb := #[.pointer (some ⟨w.heap.size + 1 + 1 + 1, 0, none⟩), .pointer (some ⟨w.heap.size + 1 + 1, 0, none⟩)]) rfl trivial (enters_of Tryz.func128 (by kernel_rfl) rfl)
    (back1_stops 2 (w.heap.size + 1 + 1) (w.heap.size + 1 + 1 + 1) A.ws.length (by omega) at_ xs hL hA0.toW (by simp; omega) c3.1 (cell_alloc_l _ c2.1)) (fun h k => h.trans k) (fun W l o o' hl _ _ _ => KpW.putObj (S := w.heap.size + 1 + 1 + 1 + 1) (by omega) (fun k e => by have := hvl k e; omega) (by omega) (by omega) W l o' (by simpa using hl)) (Below.refl _ _) (fun _ => rfl)
    (fun pre W => ((∀ y ∈ pre, some y.val ≠ stays) ∧ W.cell? ⟨w.heap.size, 0, none⟩ = some (.pointer (some ⟨b, 0, none⟩)) ∧ W.cell? ⟨w.heap.size + 1, 0, none⟩ = some (.int .i64 (optI stays))) ∧ IsAr n₀ b vw vb W { A with bs := clr A.bs (pre.map (·.val)) } ∧ Step b vw vb w vw vb W)
    (fun c pre W => (c = .ret ∧ ∃ (q : List (Fin A.ws.length)) (x : Fin A.ws.length), pre = q ++ [x] ∧ (∀ y ∈ q, some y.val ≠ stays) ∧ some x.val = stays ∧ IsAr n₀ b vw vb W { A with bs := clr A.bs (q.map (·.val)) }) ∧ Step b vw vb w vw vb W)
    (fun s W W' row hs hg hr => ⟨⟨hs.1.1, cell_kept hs.1.2.1 hg (fun r e => (hr r e).2), cell_kept hs.1.2.2 hg (fun r e => (hr r e).2)⟩, hs.2.1.abides hg (fun r e => (hr r e).2), hs.2.2.abides hg (fun r e => by have := (hr r e).1; simp at this; omega)⟩)
    (fun c s W W' row hs hg hr => by obtain ⟨⟨e, q, x, e2, h3, h4, h5⟩, h6⟩ := hs; exact ⟨⟨e, q, x, e2, h3, h4, h5.abides hg (fun r e => (hr r e).2)⟩, h6.abides hg (fun r e => by have := (hr r e).1; simp at this; omega)⟩)
    ⟨⟨by simp, cell_alloc_l _ (cell_alloc_l _ (cell_alloc_l _ c0.1)), cell_alloc_l _ (cell_alloc_l _ c1.1)⟩, hA0, Step.of_below hB0⟩
    (fun x => { tmps := #[.pointer (some ⟨b, 0, none⟩), .int .i64 (optI at_), .int .i64 (optI stays), .pointer (some ⟨w.heap.size, 0, none⟩), undef, .pointer (some ⟨w.heap.size + 1, 0, none⟩), .int .i64 x.val, .pointer (some ⟨b, 0, none⟩), .int .i64 (optI at_), .func (.func 128) #[] #[.pointer (some ⟨w.heap.size + 1 + 1 + 1, 0, none⟩), .pointer (some ⟨w.heap.size + 1 + 1, 0, none⟩)], .int .i64 x.val, undef, undef, undef, undef, undef, undef, undef, undef, undef], defers := [] }) ?assign ?body ?done ?stop
  case assign =>
    intro l x W K hK
    gi_wp2
    exact hK
  case body =>
    rintro l pre x W ⟨⟨hp, hca, hcs⟩, hA, hS⟩ _
    by_cases hx : some x.val = stays
    · have ht : ((x.val : Int) == optI stays) = true := by rw [← hx]; simp [optI]
      gi_wp2
      exact ⟨KeepsOthers.refl _, ⟨rfl, pre, x, rfl, hp, hx, hA⟩, hS⟩
    · have ht : ((x.val : Int) == optI stays) = false := by
        cases stays with
        | none => simp [optI]
        | some s => simp [optI]; intro e; exact hx (by rw [show s = x.val by omega])
      have hlen : (clr A.bs (pre.map (·.val))).length = A.ws.length := by simp [hl]
      obtain ⟨g, c, hv, hcell, hfr⟩ := hA.mark (i := x.val) (x := (clr A.bs (pre.map (·.val)))[x.val]'(by rw [hlen]; exact x.isLt)) (by simp)
      have hgl : g < w.heap.size := hml g (by rw [hv]; rfl)
      have hc2 := hA.c2
      have hnb := hA.nb
      have hx2 : x.val < A.bs.length := by rw [hl]; exact x.isLt
      obtain ⟨hA', hS'⟩ := hA.setMark (i := x.val) (y := false) hv
      have hnw : ∀ k, vw.ownBlock = some k → k ≠ g := fun k e e' => hA.nwb e (by rw [hv, e']; rfl)
      have hgb : g ≠ b := fun e => hnb (by rw [hv, e]; rfl)
      rw [show ({ A with bs := clr A.bs (pre.map (·.val)) } : Ar).bs.length = A.bs.length by simp] at hv
      rw [hv] at hc2
      have hlim := Nat.le_trans h.leb h.lim
      obtain ⟨old, hold⟩ : ∃ old, W.cell? ⟨g, x.val, none⟩ = some (.bool old) := ⟨_, hcell⟩
      clear hcell hv hl hlen
      gi_wp2
      refine ⟨KeepsOthers.setCell _ _ _, ⟨heap_setCell_other W ⟨g, x.val, none⟩ b _ hgb.symm, fun k e => heap_setCell_other W ⟨g, x.val, none⟩ k _ (hnw k e), heap_setCell_other W ⟨g, x.val, none⟩ _ _ (by show _ ≠ g; omega), heap_setCell_other W ⟨g, x.val, none⟩ _ _ (by show _ ≠ g; omega)⟩, ⟨fun y hy => (List.mem_append.1 hy).elim (hp y) (fun e => by simp at e; subst e; exact hx), ?_, ?_⟩, ?_, hS.trans hS'⟩
      · rw [World.cell?_of_block (a := ⟨w.heap.size, 0, none⟩) (heap_setCell_other W ⟨g, x.val, none⟩ _ _ (by show w.heap.size ≠ g; omega))]; exact hca
      · rw [World.cell?_of_block (a := ⟨w.heap.size + 1, 0, none⟩) (heap_setCell_other W ⟨g, x.val, none⟩ _ _ (by show w.heap.size + 1 ≠ g; omega))]; exact hcs
      · rw [List.map_append, List.map_cons, List.map_nil, clr_snoc]; exact hA'
  case done =>
    rintro D ys W hD rfl ⟨⟨hne, _, _⟩, hA, hS⟩ hK
    gi_wp2
    refine ⟨by simp, .inl ⟨_, _, rfl, run_takeDeferred hK, ?_⟩⟩
    rw [take_all (by intro y hy; obtain ⟨z, hz, rfl⟩ := List.mem_map.1 hy; exact hne z hz)]
    exact ⟨_, results_none rfl _ _ _, rfl, hA.abides (grownBy_putObj' _ D (.deferred none)) (fun r e => by cases e; exact ⟨_, hK, rfl⟩), hS.abides (grownBy_putObj' _ D (.deferred none)) (fun r e => by cases e; simp at hD; omega)⟩
  case stop =>
    rintro D c pre W hD hpre ⟨⟨rfl, q, x, rfl, hq, hx, hA⟩, hS⟩ hK
    gi_wp2
    refine ⟨by simp, .inl ⟨_, _, rfl, run_takeDeferred hK, ?_⟩⟩
    rw [take_pre (q := q.map (·.val)) (x := x.val) (by obtain ⟨r, hr⟩ := hpre; exact ⟨r.map (·.val), by rw [← hr]; simp⟩) (by intro y hy; obtain ⟨z, hz, rfl⟩ := List.mem_map.1 hy; exact hq z hz) hx]
    exact ⟨_, results_none rfl _ _ _, rfl, hA.abides (grownBy_putObj' _ D (.deferred none)) (fun r e => by cases e; exact ⟨_, hK, rfl⟩), hS.abides (grownBy_putObj' _ D (.deferred none)) (fun r e => by cases e; simp at hD; omega)⟩

end Go.Proofs.YtkombdkhodjckaaGreat

namespace Go.Proofs.YtkombdkhodjckaaGreat
open Go.RowKit

variable {n₀ b : Nat} {vw vb : Value} {w : World} {A : Ar}

/-- n words from 'from' on are laid over those from 'to' on. -/
def slide (ws : List Nat) (to from_ n : Nat) : List Nat := ws.take to ++ ((ws.drop from_).take n ++ ws.drop (to + n))

theorem slide_length (ws : List Nat) (to from_ n : Nat) (h1 : to ≤ from_) (h2 : from_ + n ≤ ws.length) : (slide ws to from_ n).length = ws.length := by
  simp [slide]; omega

theorem step_copy_at {P : Program} {ops : Array Oper} {o : Oper} {a : Act} {w : World} {K : Act → World → Prop} {Q : Exit → Act → World → Prop} {E : Prop} (hgd : o.guard = none) (d s : Operand) (dT sT : TypeId)
    (ho : o.op = .call { callee := .builtin .copy, args := #[d, s], argTypes := #[dT, sT] }) (elem : TypeId) (hu : P.underlying dT = some (.slice elem)) (hsz : (P.info? elem).map (·.size) = some 1)
    (g off : Nat) (ad : Addr) (dLen dCap sLen sCap : Nat) (hd : a.eval d = .slice (some ⟨g, off, none⟩) dLen dCap) (hs : a.eval s = .slice (some ad) sLen sCap)
    (cur : Array Value) (t : TypeId) (hg : w.heap[g]? = some (.cells cur t (0, 0))) (cs : List Value) (hn : cs.length = Nat.min sLen dLen)
    (hsrc : ∀ j v, cs[j]? = some v → w.cell? (ad.add j) = some v)
    (hfit : off + cs.length ≤ cur.size) (h1 : ∀ v ∈ cs, v.oneCell' = true)
    (h : ∀ w', Hid (w' = w.setRow g (cur.toList.take off ++ cs ++ cur.toList.drop (off + cs.length)).toArray) → K (a.put o.dst (goInt cs.length)) w') :
    if Region.wanted o (yielded ops a.tmps) = true then Oper.wp P o a w K Q else E := by
  have hw : Region.wanted o (yielded ops a.tmps) = true := by simp [Region.wanted, hgd]
  rw [if_pos hw]
  have hrun := run_copy_row (P := P) w dT sT o.type elem g off dLen dCap ad sLen sCap cur t cs hu hsz hg hn hsrc hfit h1
  have hK := h _ rfl
  simp only [List.append_assoc] at hrun hK
  unfold Oper.wp
  simp [execOp, ho, resolve, invoke, builtin, hd, hs, hrun, Result.andThen]
  exact hK

theorem IsAr.copied {g c to from_ n : Nat} (h : IsAr n₀ b (.slice (some ⟨g, 0, none⟩) A.ws.length c) vb w A) {cur : Array Value} (hg : w.heap[g]? = some (.cells cur 98 (0, 0))) (h1 : to ≤ from_) (h2 : from_ + n ≤ A.ws.length) {w' : World}
    (hw : w' = w.setRow g (cur.toList.take to ++ (A.ws.map wv |>.drop from_ |>.take n) ++ cur.toList.drop (to + (A.ws.map wv |>.drop from_ |>.take n).length)).toArray) :
    IsAr n₀ b (.slice (some ⟨g, 0, none⟩) A.ws.length c) vb w' { A with ws := slide A.ws to from_ n } ∧ Step b (.slice (some ⟨g, 0, none⟩) A.ws.length c) vb w (.slice (some ⟨g, 0, none⟩) A.ws.length c) vb w' := by
  have hgb : g ≠ b := fun e => h.nw (by rw [e]; rfl)
  have hgr : w.grownBy w' (some g) := by
    rw [hw]; exact ⟨rfl, rfl, rfl, by simp [World.setRow], fun k _ hk => setRow_other w g k _ (fun e => hk (by rw [e]))⟩
  have hl := slide_length A.ws to from_ n h1 h2
  refine ⟨⟨h.base, (hgr.block b h.lt (fun e => hgb (by simpa using e.symm))).trans h.blk, ?_, ?_, h.leb, ?_, h.lim, ?_⟩, ⟨hgr.os, hgr.tape, hgr.output, hgr.size, fun k hk _ hwk _ => hgr.block k hk hwk, fun _ h => .inl h, fun _ h => .inl h⟩⟩
  · rcases h.rw.2 with ⟨h', _⟩ | ⟨g', cap, cur', h', hb, hg', hc1, hc2, hc3, hc4⟩
    · simp at h'
    · simp only [Value.slice.injEq, Option.some.injEq, Addr.mk.injEq, and_true, true_and] at h'
      obtain ⟨rfl, rfl⟩ := h'
      rw [hg] at hg'
      simp only [Option.some.injEq, Obj.cells.injEq, and_true] at hg'
      subst hg'
      simp only [Nat.mul_one] at hc3 hc4
      dsimp only
      rw [hl]
      refine ⟨by simp [hl], .inr ⟨g, c, _, rfl, hb, by rw [hw]; exact setRow_heap w g cur _ 98 _ hg, hc1, hc2, ?_, ?_⟩⟩
      · simp; omega
      · have e1 : cur.toList.take to = (A.ws.map wv).take to := by rw [← hc4, List.take_take]; congr 1; omega
        have e2 : ((cur.toList.drop (to + ((A.ws.map wv).drop from_ |>.take n).length))).take (A.ws.length - (to + n)) = (A.ws.map wv).drop (to + n) := by
          rw [show (to + ((A.ws.map wv).drop from_ |>.take n).length) = to + n by simp; omega]
          rw [← hc4, List.drop_take]
        simp only [Nat.mul_one]
        rw [e1, List.append_assoc]
        simp only [slide, List.map_append, List.map_take, List.map_drop]
        rw [List.take_append, List.take_append]
        have l1 : ((A.ws.map wv).take to).length = to := by simp; omega
        have l2 : (((A.ws.map wv).drop from_).take n).length = n := by simp; omega
        rw [l1, l2, List.take_of_length_le (by rw [l1]; omega), List.take_of_length_le (l := ((A.ws.map wv).drop from_).take n) (by rw [l2]; omega)]
        rw [l2] at e2
        rw [show A.ws.length - to - n = A.ws.length - (to + n) by omega, e2]
  · exact h.rb.kept hgr (.inr (h.nwb (k := g) rfl))
  · dsimp only; rw [hl]; exact h.le
  · intro x hx
    refine h.val x ?_
    simp only [slide] at hx
    rcases List.mem_append.1 hx with h' | h'
    · exact List.mem_of_mem_take h'
    · rcases List.mem_append.1 h' with h' | h'
      · exact List.mem_of_mem_drop (List.mem_of_mem_take h')
      · exact List.mem_of_mem_drop h'

theorem IsAr.rowW {g c : Nat} (h : IsAr n₀ b (.slice (some ⟨g, 0, none⟩) A.ws.length c) vb w A) : ∃ cur, w.heap[g]? = some (.cells cur 98 (0, 0)) ∧ cur.size = c := by
  rcases h.rw.2 with ⟨h', _⟩ | ⟨g', cap, cur', h', hb, hg', hc1, hc2, hc3, hc4⟩
  · simp at h'
  · simp only [Value.slice.injEq, Option.some.injEq, Addr.mk.injEq, and_true, true_and] at h'
    obtain ⟨rfl, rfl⟩ := h'
    exact ⟨cur', hg', by simpa using hc3⟩

theorem IsAr.capW {g c : Nat} (h : IsAr n₀ b (.slice (some ⟨g, 0, none⟩) A.ws.length c) vb w A) : A.ws.length ≤ c := by
  obtain ⟨_, _, hcc, h1, _⟩ := IsAr.row_form h.rw
  simp only [Value.slice.injEq] at hcc
  omega

/-- The arena behind 'move'. -/
def moveA (A : Ar) (L : List Nat) (stays : Option Nat) (from_ to : Nat) (x : Nat) : Ar :=
  let A3 : Ar := { A with ws := slide A.ws to from_ (fld x 0 + 1), bs := (clr A.bs (L.takeWhile (fun y => decide (some y ≠ stays)))).set to true }
  tieA (tieA A3 stays (some to)) (some to) (bhd x)

set_option maxRecDepth 20000 in
set_option maxHeartbeats 4000000 in
theorem move_in (h : IsAr n₀ b vw vb w A) (hl : A.bs.length = A.ws.length) (stays : Option Nat) (from_ to x : Nat) (L : List Nat) (hx : A.ws[from_]? = some x) (hL : BackOf A.ws (some from_) L)
    (hto : to ≤ from_) (hend : from_ + 1 + fld x 0 ≤ A.ws.length) (hst : ∀ i, stays = some i → i < to) (hnx : ∀ j, bhd x = some j → from_ < j ∧ j < A.ws.length) :
    Calls Tryz.prog 110 #[.pointer (some ⟨b, 0, none⟩), .int .i64 (optI stays), .int .i64 from_, .int .i64 to] w fun e w' => e = .returned (.tuple #[]) ∧
      IsAr n₀ b vw vb w' (moveA A L stays from_ to x) ∧ Step b vw vb w vw vb w' := by
  have hbeh := behind_in h from_ x hx
  have hdr := drop_in h hl (some from_) stays L hL
  have hlt : from_ < A.ws.length := (List.getElem?_eq_some_iff.1 hx).1
  have hle := h.le
  have hlim := h.lim
  obtain ⟨g, c, rfl, _, _⟩ := h.word hx
  have hc1 := h.capW
  have hinf : (Tryz.prog.info? 98).map (·.size) = some 1 := by kernel_rfl
  obtain ⟨D, hD⟩ : ∃ D, clr A.bs (L.takeWhile (fun y => decide (some y ≠ stays))) = D := ⟨_, rfl⟩
  have hDl : D.length = A.bs.length := by rw [← hD]; simp
  rw [hD] at hdr
  have e0 : fld (A.ws.getD from_ 0) 0 = fld x 0 := by simp [List.getD, hx]
  obtain ⟨sz, hsz⟩ : ∃ sz, fld x 0 = sz := ⟨_, rfl⟩
  unfold moveA
  rw [hD]
  rw [hsz] at hend e0 ⊢
  obtain ⟨nx, hnxx⟩ : ∃ nx, bhd x = nx := ⟨_, rfl⟩
  rw [hnxx] at hbeh hnx ⊢
  clear hD hL hnxx hsz
  go_enter Tryz.func110, Tryz.ntmps110
  go_wp2_with (first
    | (go_at_call 126; refine hbeh.mono ?_; clear hbeh; rintro e w' ⟨rfl, rfl⟩)
    | (go_at_call 127; refine hdr.mono ?_; clear hdr; rintro e w1 ⟨rfl, hA1, hS1⟩))
  have hcell := hA1.c1
  have he := endOf_in hA1.drew (some from_) (fun i hi => by cases hi; exact hlt)
  rw [show endAt { A with bs := D } (some from_) = from_ + 1 + sz from by simp only [endAt]; rw [e0]] at he
  obtain ⟨E, hE⟩ : ∃ E, from_ + 1 + sz = E := ⟨_, rfl⟩
  rw [hE] at he
  have HE : Hid (from_ + 1 + sz = E) := hE
  have r1 : from_ < E := by omega
  have r2 : E ≤ A.ws.length := by omega
  have r3 : to ≤ A.ws.length := by omega
  have r4 : from_ ≤ E := by omega
  have r5 : E ≤ c := by omega
  have r6 : to ≤ c := by omega
  clear hE e0 hend
  obtain ⟨cur, hcur, hcsz⟩ := IsAr.rowW (A := { A with bs := D }) hA1
  have hbg : b ≠ g := fun e => hA1.nw (by rw [e]; rfl)
  obtain ⟨cs, hcs⟩ : ∃ cs, ((A.ws.map wv).drop from_).take (sz + 1) = cs := ⟨_, rfl⟩
  have hcl : cs.length = sz + 1 := by have := HE.out; rw [← hcs]; simp; omega
  have s1 : cs.length = Nat.min (E - from_) (A.ws.length - to) := by have := HE.out; show cs.length = min (E - from_) (A.ws.length - to); rw [hcl, Nat.min_def]; split <;> omega
  have s2 : ∀ j v, cs[j]? = some v → w1.drew.cell? ((⟨g, from_, none⟩ : Addr).add j) = some v := by
    intro j v hv
    have hj : j < sz + 1 := by rw [← hcl]; exact (List.getElem?_eq_some_iff.1 hv).1
    rw [Addr.add_lit]
    show w1.cell? ⟨g, from_ + j, none⟩ = some v
    rw [hA1.rw.cellAt (from_ + j) (by have := HE.out; simp only [Nat.mul_one]; omega), ← hv, ← hcs]
    simp [hj]
  have s3 : to + cs.length ≤ cur.size := by have := HE.out; omega
  have s4 : ∀ v ∈ cs, v.oneCell' = true := by
    intro v hv; rw [← hcs] at hv
    obtain ⟨y, _, rfl⟩ := List.mem_map.1 (List.mem_of_mem_drop (List.mem_of_mem_take hv)); rfl
  have hcd : w1.drew.heap[g]? = some (.cells cur 98 (0, 0)) := hcur
  have SS : Hid _ := And.intro s1 (And.intro s2 (And.intro s3 (And.intro s4 (And.intro hcd (And.intro hcl hcs)))))
  clear s1 s2 s3 s4 hcd hcl hcs hcur hcsz
  have q0 : ¬ c = to := by omega
  have q1 : ¬ c = from_ := by omega
  go_region_held3 (fun w' => w'.cell? ⟨b, 1, none⟩ = some (.slice (some ⟨g, 0, none⟩) A.ws.length c)) (first | go_keep | (rw [hw2.out, World.cell?_of_block (a := ⟨b, 1, none⟩) (setRow_other w1.drew g b _ hbg)]; exact hcell))
    ((first
      | (go_at_call 83; refine he.mono ?_; rintro e w' ⟨rfl, rfl⟩)
      | (refine step_copy_at (by rfl) (.tmp 21) (.tmp 30) 136 136 (by rfl) 98 Tryz.underlying136 hinf g to ⟨g, from_, none⟩ _ _ _ _ (by rfl) (by rfl) cur 98 SS.out.2.2.2.2.1 cs SS.out.1 SS.out.2.1 SS.out.2.2.1 SS.out.2.2.2.1 ?_; intro w2 hw2)))
  obtain ⟨_, _, _, _, hcd, hcl, hcs⟩ := SS.out
  obtain ⟨hA2, hS2⟩ := IsAr.copied (A := { A with bs := D }) (w := w1.drew) (to := to) (from_ := from_) (n := sz + 1) hA1.drew hcd hto (by have := HE.out; show from_ + (sz + 1) ≤ A.ws.length; omega) (w' := w2) (by show w2 = _; rw [hcs]; exact hw2.out)
  dsimp only at hA2 hS2
  have hS12 := (show Step b _ vb _ _ vb w1.drew from hS1.drew).trans hS2
  have hsl : (slide A.ws to from_ (sz + 1)).length = A.ws.length := slide_length _ _ _ _ hto (by have := HE.out; omega)
  have htl : to < D.length := by omega
  obtain ⟨g3, c3, hvb, hm1, hm2⟩ := hA2.mark (i := to) (x := D[to]) (by simp)
  obtain ⟨hA3, hS3⟩ := hA2.setMark (i := to) (y := true) hvb
  have hc2 := hA2.c2
  rw [hvb] at hc2
  dsimp only at hc2 hA3
  obtain ⟨old, hold⟩ : ∃ old, w2.cell? ⟨g3, to, none⟩ = some (.bool old) := ⟨_, hm1⟩
  have ht1 := tie_in hA3 stays (some to) (fun i hi => ⟨by have := hst i hi; dsimp only; omega, fun _ => by have := hst i hi; omega⟩) (fun i hi => by cases hi; dsimp only; omega)
  have HS : Hid _ := hS12.trans hS3
  have HW : Hid _ := hsl
  have hlimD : D.length ≤ 1048576 := by omega
  clear hA1 hA2 hA3 hS1 hS2 hS3 hS12 hw2 hcd hcl hcs SS HE he hcell hm1 hvb hsl hl hDl
  go_wp2_with (first
    | (go_at_call 113; refine ht1.mono ?_; clear ht1; rintro e w4 ⟨rfl, hA4, hS4⟩; have ht2 := tie_in hA4 (some to) nx (fun i hi => ⟨by cases hi; rw [tieA_len]; dsimp only; rw [HW.out]; omega, fun hne => by cases hi; cases nx with
        | none => exact (hne rfl).elim
        | some j => have := hnx j rfl; omega⟩) (fun i hi => by have := hnx i hi; rw [tieA_len]; dsimp only; rw [HW.out]; omega))
    | (go_at_call 113; refine ht2.mono ?_; clear ht2; rintro e w5 ⟨rfl, hA5, hS5⟩))
  go_end0
  exact ⟨rfl, hA5, HS.out.trans (hS4.trans hS5)⟩

end Go.Proofs.YtkombdkhodjckaaGreat
