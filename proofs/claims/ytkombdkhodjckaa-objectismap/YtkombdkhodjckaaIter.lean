/- back: the iterator over an arena's objects, from one on towards the first. -/
import Derived.RangeFuncNested
import Derived.RangeFuncBound
import Derived.RangeFuncCalls
import Derived.RangeFuncLeaves
import Derived.RangeFuncBox
import Derived.Shelf.Abstract
import Derived.Shelf.RegionOpen
import Derived.WalkKit
import Derived.OwnWalkIn
import Derived.TacticsInMore
import Derived.LoopNIn
import Derived.LoopIn
import Derived.Test.YtkombdkhodjckaaRead
namespace Go.Proofs.Ytkombdkhodjckaa
open Go.RowKit Go.Shelf

attribute [local go_sem] Oper.semAt_some

/-- The arena's words alone. -/
structure IsW (n₀ b : Nat) (vw : Value) (w : World) (ws : List Nat) : Prop where
  c1 : w.cell? ⟨b, 1, none⟩ = some vw
  rw : w.ownsRow n₀ 81 1 vw ws.length (ws.map wv)
  le : ws.length ≤ 1048576
  val : ∀ x ∈ ws, x < 18446744073709551616

theorem IsAr.toW {n₀ b : Nat} {vw vb : Value} {w : World} {A : Ar} (h : IsAr n₀ b vw vb w A) : IsW n₀ b vw w A.ws := ⟨h.c1, h.rw, Nat.le_trans h.le h.lim, h.val⟩

/-- What the iterator wants kept: the arena's block, its words' row, the two captured variables. -/
structure KpW (b : Nat) (vw : Value) (Ba Bx : Nat) (W W' : World) : Prop where
  blk : W'.heap[b]? = W.heap[b]?
  row : ∀ k, vw.ownBlock = some k → W'.heap[k]? = W.heap[k]?
  ba : W'.heap[Ba]? = W.heap[Ba]?
  bx : W'.heap[Bx]? = W.heap[Bx]?

theorem KpW.trans {b : Nat} {vw : Value} {Ba Bx : Nat} {A B C : World} (h : KpW b vw Ba Bx A B) (k : KpW b vw Ba Bx B C) : KpW b vw Ba Bx A C :=
  ⟨k.blk.trans h.blk, fun i e => (k.row i e).trans (h.row i e), k.ba.trans h.ba, k.bx.trans h.bx⟩

theorem KpW.refl (b : Nat) (vw : Value) (Ba Bx : Nat) (A : World) : KpW b vw Ba Bx A A := ⟨rfl, fun _ _ => rfl, rfl, rfl⟩

variable {n₀ b : Nat} {vw vb : Value} {w : World} {ws : List Nat}

theorem IsW.kept (h : IsW n₀ b vw w ws) {w' : World} {Ba Bx : Nat} (k : KpW b vw Ba Bx w w') : IsW n₀ b vw w' ws := by
  refine ⟨(World.cell?_of_block (a := ⟨b, 1, none⟩) k.blk).trans h.c1, ⟨h.rw.1, ?_⟩, h.le, h.val⟩
  rcases h.rw.2 with hn | ⟨g, cap, cur, rfl, hb, hgg, rest⟩
  · exact .inl hn
  · exact .inr ⟨g, cap, cur, rfl, hb, by rw [k.row g rfl]; exact hgg, rest⟩

theorem IsW.word (h : IsW n₀ b vw w ws) {i x : Nat} (hi : ws[i]? = some x) : ∃ g c, vw = .slice (some ⟨g, 0, none⟩) ws.length c ∧ w.cell? ⟨g, i, none⟩ = some (.int .u64 x) := by
  have hlt : i < ws.length := (List.getElem?_eq_some_iff.1 hi).1
  obtain ⟨g, c, rfl, _, _⟩ := IsAr.row_some h.rw (by omega)
  refine ⟨g, c, rfl, ?_⟩
  rw [h.rw.cellAt i (by omega)]
  simp [hi, wv]

set_option maxHeartbeats 400000 in
theorem field_w (h : IsW n₀ b vw w ws) (i x f : Nat) (hi : ws[i]? = some x) (hf : f ≤ 3) :
    Calls Try.prog 81 #[.pointer (some ⟨b, 0, none⟩), .int .i64 i, .int .i64 f] w fun e w' => e = .returned (.int .i64 (fld x f)) ∧ w' = w := by
  have hc := h.c1
  have hle := h.le
  have hx := h.val x (List.mem_of_getElem? hi)
  have hlt : i < ws.length := (List.getElem?_eq_some_iff.1 hi).1
  obtain ⟨g, c, rfl, hcell⟩ := h.word hi
  clear h hi
  go_enter Try.func81, Try.ntmps81
  go_wp2
  go_ret
  exact ⟨ret_int (field_val x f hx), rfl⟩

/-- The places of the objects from one on towards the first. -/
def BackOf (ws : List Nat) : Option Nat → List Nat → Prop
  | o, [] => o = none
  | o, i :: r => o = some i ∧ ∃ x, ws[i]? = some x ∧ (∀ j, ahd x = some j → j < i) ∧ BackOf ws (ahd x) r

theorem BackOf.lt : ∀ {o : Option Nat} {xs : List Nat}, BackOf ws o xs → ∀ i ∈ xs, i < ws.length
  | _, [], _, _, h => by cases h
  | _, i :: r, ⟨_, x, hx, _, hr⟩, j, hj => by
    rcases List.mem_cons.1 hj with rfl | hj
    · exact (List.getElem?_eq_some_iff.1 hx).1
    · exact hr.lt j hj

end Go.Proofs.Ytkombdkhodjckaa
