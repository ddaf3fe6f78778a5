/- back: the iterator over an arena's objects, from one on towards the first. -/
import Derived.RangeFuncNested
import Derived.RangeFuncBound
import Derived.RangeFuncCalls
import Derived.RangeFuncLeaves
import Derived.RangeFuncBox
import Derived.Shelf.Abstract
import Derived.Shelf.RegionOpen
import Derived.WalkKit
import Derived.OwnWalkIn
import Derived.TacticsInMore
import Derived.LoopNIn
import Derived.LoopIn
import Derived.Test.YtampilfebmfhaaaGreatDoorRead
namespace Go.Proofs.YtampilfebmfhaaaGreatDoor
open Go.RowKit Go.Shelf

attribute [local go_sem] Oper.semAt_some

/-- The arena's words alone. -/
structure IsW (n₀ b : Nat) (vw : Value) (w : World) (ws : List Nat) : Prop where
  c1 : w.cell? ⟨b, 1, none⟩ = some vw
  rw : w.ownsRow n₀ 71 1 vw ws.length (ws.map wv)
  le : ws.length ≤ 1048576
  val : ∀ x ∈ ws, x < 18446744073709551616

theorem IsAr.toW {n₀ b : Nat} {vw vb : Value} {w : World} {A : Ar} (h : IsAr n₀ b vw vb w A) : IsW n₀ b vw w A.ws := ⟨h.c1, h.rw, Nat.le_trans h.le h.lim, h.val⟩

/-- What the iterator wants kept: the arena's block, its words' row, the two captured variables. -/
structure KpW (b : Nat) (vw : Value) (Ba Bx : Nat) (W W' : World) : Prop where
  blk : W'.heap[b]? = W.heap[b]?
  row : ∀ k, vw.ownBlock = some k → W'.heap[k]? = W.heap[k]?
  ba : W'.heap[Ba]? = W.heap[Ba]?
  bx : W'.heap[Bx]? = W.heap[Bx]?

theorem KpW.trans {b : Nat} {vw : Value} {Ba Bx : Nat} {A B C : World} (h : KpW b vw Ba Bx A B) (k : KpW b vw Ba Bx B C) : KpW b vw Ba Bx A C :=
  ⟨k.blk.trans h.blk, fun i e => (k.row i e).trans (h.row i e), k.ba.trans h.ba, k.bx.trans h.bx⟩

theorem KpW.refl (b : Nat) (vw : Value) (Ba Bx : Nat) (A : World) : KpW b vw Ba Bx A A := ⟨rfl, fun _ _ => rfl, rfl, rfl⟩

variable {n₀ b : Nat} {vw vb : Value} {w : World} {ws : List Nat}

theorem IsW.kept (h : IsW n₀ b vw w ws) {w' : World} {Ba Bx : Nat} (k : KpW b vw Ba Bx w w') : IsW n₀ b vw w' ws := by
  refine ⟨(World.cell?_of_block (a := ⟨b, 1, none⟩) k.blk).trans h.c1, ⟨h.rw.1, ?_⟩, h.le, h.val⟩
  rcases h.rw.2 with hn | ⟨g, cap, cur, rfl, hb, hgg, rest⟩
  · exact .inl hn
  · exact .inr ⟨g, cap, cur, rfl, hb, by rw [k.row g rfl]; exact hgg, rest⟩

theorem IsW.word (h : IsW n₀ b vw w ws) {i x : Nat} (hi : ws[i]? = some x) : ∃ g c, vw = .slice (some ⟨g, 0, none⟩) ws.length c ∧ w.cell? ⟨g, i, none⟩ = some (.int .u64 x) := by
  have hlt : i < ws.length := (List.getElem?_eq_some_iff.1 hi).1
  obtain ⟨g, c, rfl, _, _⟩ := IsAr.row_some h.rw (by omega)
  refine ⟨g, c, rfl, ?_⟩
  rw [h.rw.cellAt i (by omega)]
  simp [hi, wv]

set_option maxHeartbeats 400000 in
theorem field_w (h : IsW n₀ b vw w ws) (i x f : Nat) (hi : ws[i]? = some x) (hf : f ≤ 3) :
    Calls Tryz.prog 130 #[.pointer (some ⟨b, 0, none⟩), .int .i64 i, .int .i64 f] w fun e w' => e = .returned (.int .i64 (fld x f)) ∧ w' = w := by
  have hc := h.c1
  have hle := h.le
  have hx := h.val x (List.mem_of_getElem? hi)
  have hlt : i < ws.length := (List.getElem?_eq_some_iff.1 hi).1
  obtain ⟨g, c, rfl, hcell⟩ := h.word hi
  clear h hi
  go_enter Tryz.func130, Tryz.ntmps130
  go_wp2
  go_ret
  exact ⟨ret_int (field_val x f hx), rfl⟩

set_option maxHeartbeats 400000 in
theorem ahead_w (h : IsW n₀ b vw w ws) (i x : Nat) (hi : ws[i]? = some x) :
    Calls Tryz.prog 188 #[.pointer (some ⟨b, 0, none⟩), .int .i64 i] w fun e w' => e = .returned (.int .i64 (optI (ahd x))) ∧ w' = w := by
  have hl := fld_lt x 1
  have hc := (field_w h i x 1 hi (by omega))
  clear hi h
  go_enter Tryz.func188, Tryz.ntmps188
  go_wp2_with (go_at_call 130; refine hc.mono ?_; clear hc; rintro e w' ⟨rfl, rfl⟩)
  go_ret
  exact ⟨ret_int (optI_ahd x), rfl⟩

/-- The places of the objects from one on towards the first. -/
def BackOf (ws : List Nat) : Option Nat → List Nat → Prop
  | o, [] => o = none
  | o, i :: r => o = some i ∧ ∃ x, ws[i]? = some x ∧ (∀ j, ahd x = some j → j < i) ∧ BackOf ws (ahd x) r

theorem BackOf.lt : ∀ {o : Option Nat} {xs : List Nat}, BackOf ws o xs → ∀ i ∈ xs, i < ws.length
  | _, [], _, _, h => by cases h
  | _, i :: r, ⟨_, x, hx, _, hr⟩, j, hj => by
    rcases List.mem_cons.1 hj with rfl | hj
    · exact (List.getElem?_eq_some_iff.1 hx).1
    · exact hr.lt j hj

set_option maxRecDepth 100000 in
set_option maxHeartbeats 2000000 in
theorem back1_in (n l Ba Bx M : Nat) (hn : 1 ≤ n) (at_ : Option Nat) (xs : List (Fin M)) (hxs : BackOf ws at_ (xs.map (·.val))) (J Jx : List (Fin M) → World → Prop)
    (hY : ∀ pre x W, J pre W → pre.length < xs.length → YieldAt Fence.wide (n - 1) Tryz.prog l #[.int .i64 x.val] W fun e W' =>
      (e = .returned (.bool true) ∧ J (pre ++ [x]) W' ∧ KpW b vw Ba Bx W W') ∨ (e = .returned (.bool false) ∧ Jx (pre ++ [x]) W'))
    (W : World) (hW : IsW n₀ b vw W ws) (hBx : W.cell? ⟨Bx, 0, none⟩ = some (.int .i64 (optI at_))) (hBa : W.cell? ⟨Ba, 0, none⟩ = some (.pointer (some ⟨b, 0, none⟩))) (h0 : J [] W) :
    CallsIn Fence.wide n Tryz.prog 187 #[.func (.yield l) #[] #[], .pointer (some ⟨Bx, 0, none⟩), .pointer (some ⟨Ba, 0, none⟩)] W fun e W' => (∃ v, e = .returned v) ∧
      ((∃ ys, ys = xs ∧ J ys W') ∨ (∃ pre, pre <+: xs ∧ Jx pre W')) := by
  refine callsIn_of_wp Tryz.func187 rfl trivial ?_ rfl
  simp only [Tryz.ntmps187, List.size_toArray, List.length_cons, List.length_nil, Nat.reduceAdd, Nat.reduceSub, Array.replicate_succ, Array.replicate_zero, List.push_toArray, List.append_toArray, List.nil_append, List.cons_append]
  gi_wp2
  gi_loopw [4] (fun p wr => ∃ (pre rest : List (Fin M)) (q : Option Nat), p = .int .i64 (optI q) ∧ xs = pre ++ rest ∧ BackOf ws q (rest.map (·.val)) ∧ J pre wr ∧ KpW b vw Ba Bx W wr)
    (fun p _ => (intOf p + 1).toNat)
  case atStart =>
    exact ⟨[], xs, at_, rfl, rfl, hxs, h0, KpW.refl _ _ _ _ _⟩
  case round =>
    obtain ⟨pre, rest, q, rfl, hx, hl, hJs, hk⟩ := hrel
    cases rest with
    | nil =>
      obtain rfl : q = none := hl
      rw [show optI none = -1 from rfl]
      gi_wp2
      refine ⟨fun _ h => (by cases h), ?_⟩
      gi_wp2
      go_end0
      exact ⟨⟨_, rfl⟩, .inl ⟨pre, by simp [hx], hJs⟩⟩
    | cons x rest =>
      obtain ⟨rfl, y, hy, hlt, hr⟩ := hl
      obtain ⟨fn, tmps, assign, body, hy', hR⟩ := hY pre x wr hJs (by rw [hx]; simp)
      rw [show optI (some x.val) = ((x.val : Nat) : Int) from rfl]
      have hxx : (((x.val : Nat) : Int) != -1) = true := by simp
      gi_wp2
      refine hR.mono ?_
      rintro e W3 (⟨rfl, hJ3, hk3⟩ | ⟨rfl, hJx3⟩)
      · have hk4 := hk.trans hk3
        have hba : W3.cell? ⟨Ba, 0, none⟩ = some (.pointer (some ⟨b, 0, none⟩)) := (World.cell?_of_block (a := ⟨Ba, 0, none⟩) hk4.ba).trans hBa
        have hq := ahead_w (hW.kept hk4) x.val y hy
        gi_wp2_with (refine ⟨trivial, ?_⟩; gi_at_call 188; refine (callsIn_wide.2 hq).mono ?_; clear hq; rintro e w' ⟨rfl, rfl⟩)
        go_roundw
        case rel => exact ⟨pre ++ [x], rest, ahd y, rfl, by simp [hx], hr, hJ3, hk4⟩
        case measure =>
          cases hah : ahd y with
          | none => simp [intOf, optI]
          | some j => have := hlt j hah; simp [intOf, optI]; omega
      · gi_wp2
        go_end0
        exact ⟨⟨_, rfl⟩, .inr ⟨pre ++ [x], ⟨rest, by simp [hx]⟩, hJx3⟩⟩

theorem back1_stops (n Ba Bx M : Nat) (hn : 1 ≤ n) (at_ : Option Nat) (xs : List (Fin M)) (hxs : BackOf ws at_ (xs.map (·.val)))
    (hW : IsW n₀ b vw w ws) (hb : b < w.heap.size) (hBx : w.cell? ⟨Bx, 0, none⟩ = some (.int .i64 (optI at_))) (hBa : w.cell? ⟨Ba, 0, none⟩ = some (.pointer (some ⟨b, 0, none⟩))) :
    SeqStopsK Fence.wide n Tryz.prog 187 #[.pointer (some ⟨Bx, 0, none⟩), .pointer (some ⟨Ba, 0, none⟩)] (fun x : Fin M => #[.int .i64 x.val]) (KpW b vw Ba Bx) (fun ys => ys = xs) (fun pre => pre <+: xs) xs.length w := by
  intro l J Jx W hBl hJ hJx hY h0
  have hk : KpW b vw Ba Bx w W := ⟨hBl.block b hb, fun k e => hBl.block k (hW.rw.lt k e).2, hBl.block Ba (World.block_lt_of_cell? w _ hBa), hBl.block Bx (World.block_lt_of_cell? w _ hBx)⟩
  exact back1_in n l Ba Bx M hn at_ xs hxs J Jx hY W (hW.kept hk) ((World.cell?_of_block (a := ⟨Bx, 0, none⟩) hk.bx).trans hBx) ((World.cell?_of_block (a := ⟨Ba, 0, none⟩) hk.ba).trans hBa) h0

set_option maxHeartbeats 400000 in
theorem back_in (at_ : Int) (w : World) : Calls Tryz.prog 127 #[.pointer (some ⟨b, 0, none⟩), .int .i64 at_] w fun e w' =>
    e = .returned (.func (.func 187) #[] #[.pointer (some ⟨w.heap.size + 1, 0, none⟩), .pointer (some ⟨w.heap.size, 0, none⟩)]) ∧ w' = (w.alloc (.cells #[.pointer (some ⟨b, 0, none⟩)] 111)).alloc (.cells #[.int .i64 at_] 2) := by
  go_enter Tryz.func127, Tryz.ntmps127
  go_wp2
  go_ret
  exact ⟨rfl, rfl⟩

end Go.Proofs.YtampilfebmfhaaaGreatDoor
