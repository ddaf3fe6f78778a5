/- The library's number of lowest bits that are 0, at this dump. -/
import Derived.Test.YtpjgdbeekmoedaaGreatDoorVbWalk
import Derived.Shelf.Spec.TrailingZeros
import Derived.RangeFuncNested
import Derived.RangeFuncBound
import Derived.RangeFuncCalls
import Derived.RangeFuncLeaves
import Derived.Shelf.Abstract
import Derived.Shelf.RegionOpen
import Derived.WalkKit
import Derived.OwnWalkIn
import Derived.TacticsInMore
import Derived.LoopNIn
import Derived.LoopIn
namespace Go.Proofs.YtpjgdbeekmoedaaGreatDoor
set_option linter.unusedVariables false
set_option linter.unusedSimpArgs false
open Go.RowKit

variable {w : World}

set_option maxRecDepth 20000 in
set_option maxHeartbeats 1000000 in
theorem tz_core (x k idx : Nat) (hx0 : ((x : Int) == 0) = false)
    (key : IntKind.u64.wrap (bits BinOp.and IntKind.u64 (x : Int) (IntKind.u64.wrap (-(x : Int))) * 285870213051353865) / 288230376151711744 = (idx : Int))
    (hi : idx < 64) (hk : k < 64) (hcell : w.cell? ⟨2, idx, none⟩ = some (.int .u8 k)) :
    Calls Tryz.prog 192 #[.int .u64 x] w fun e w' => e = .returned (.int .i64 k) ∧ w' = w := by
  go_enter Tryz.func192, Tryz.ntmps192
  go_wp2_with (simp only [key])
  go_ret
  exact ⟨rfl, rfl⟩

theorem tz_in {x : Nat} (hx : x < 18446744073709551616) (h0 : x ≠ 0) (hT : TabAt 2 Lib.deBruijn64tab w) :
    Calls Tryz.prog 192 #[.int .u64 x] w fun e w' => e = .returned (.int .i64 (Lib.ctz 64 x : Nat)) ∧ w' = w := by
  obtain ⟨hlow, hk⟩ := Lib.lowest_bit 64 x h0 hx
  obtain ⟨hi, htab⟩ := Lib.deBruijn64_at _ hk
  have hcell := hT _ hi
  rw [htab] at hcell
  exact tz_core x _ _ (by simp; omega) (tz64_key x _ hx h0 hlow) hi hk hcell

end Go.Proofs.YtpjgdbeekmoedaaGreatDoor

namespace Go.Proofs.YtpjgdbeekmoedaaGreatDoor
set_option linter.unusedVariables false
set_option linter.unusedSimpArgs false
open Go.RowKit Go.Shelf

attribute [local go_sem] Oper.semAt_some

variable {w : World}

/-- The same but for the tape's count. -/
structure Dr (A B : World) : Prop where
  heap : B.heap = A.heap
  os : B.os = A.os
  tape : B.tape = A.tape
  output : B.output = A.output

theorem Dr.refl (A : World) : Dr A A := ⟨rfl, rfl, rfl, rfl⟩

theorem Dr.drew {A B : World} (h : Dr A B) : Dr A B.drew := ⟨h.heap, h.os, h.tape, h.output⟩

theorem Dr.below {A B : World} (h : Dr A B) (n : Nat) : Below n A B := ⟨h.os, h.tape, h.output, by rw [h.heap]; exact Nat.le_refl _, fun k _ => by rw [h.heap]⟩

/-- What the iterator reads. -/
structure Vw (bw gb cb : Nat) (bs : List Nat) (lst : Nat) (W : World) : Prop where
  c1 : W.cell? ⟨bw, 1, none⟩ = some (.slice (some ⟨gb, 0, none⟩) bs.length cb)
  c2 : W.cell? ⟨bw, 2, none⟩ = some (.int .i64 lst)
  f2 : W.frozen? ⟨bw, 2, none⟩ = false
  at_ : ∀ i, i < bs.length → W.cell? ⟨gb, i, none⟩ = some (.int .u64 (bs.getD i 0 : Nat)) ∧ W.frozen? ⟨gb, i, none⟩ = false
  ne : gb ≠ bw
  w64 : ∀ i, bs.getD i 0 < 2 ^ 64
  len : bs.length ≤ 100000
  tab : TabAt 2 Lib.deBruijn64tab W

/-- The iterator's contract: J stands between two rounds, Jr in one, Jx where a round has said 'no more'. -/
def TakesB (bw gb cb : Nat) : Prop :=
  ∀ (l : Nat) (J : Nat → List Nat → Nat → World → Prop) (Jr : Nat → Nat → World → Prop) (Jx : World → Prop) (W : World) (m0 : Nat) (bs0 : List Nat) (lst0 len : Nat),
    (∀ m bs lst A, J m bs lst A → Vw bw gb cb bs lst A ∧ bs.length = len ∧ lst ≤ len) →
    (∀ m bs lst A B, J m bs lst A → Dr A B → J m bs lst B) →
    (∀ m bs lst A B, J m bs lst A → lst < len → bs.getD lst 0 = 0 → Dr (A.setCell ⟨bw, 2, none⟩ (.int .i64 (lst + 1 : Nat))) B → J m bs (lst + 1) B) →
    (∀ m bs lst A B, J m bs lst A → lst < len → bs.getD lst 0 ≠ 0 → Dr (A.setCell ⟨gb, lst, none⟩ (.int .u64 (bs.getD lst 0 &&& (bs.getD lst 0 - 1) : Nat))) B → Jr m (64 * lst + Lib.ctz 64 (bs.getD lst 0)) B) →
    (∀ m pc A, Jr m pc A → YieldAt Fence.wide 0 Tryz.prog l #[.int .i64 pc] A fun e B => ∃ b, e = .returned (.bool b) ∧ ((b = true ∧ ∃ m' bs' lst', m' < m ∧ J m' bs' lst' B) ∨ (b = false ∧ Jx B))) →
    J m0 bs0 lst0 W →
    CallsIn Fence.wide 0 Tryz.prog 105 #[.pointer (some ⟨bw, 1, none⟩), .func (.yield l) #[] #[]] W fun e B => (∃ v, e = .returned v) ∧ ((∃ m bs lst, J m bs lst B ∧ len ≤ lst) ∨ Jx B)

theorem yield_anyT {n m l : Nat} {P : Program} {args : Array Value} {w : World} {R : Ending → World → Prop} (h : YieldAt Fence.wide n P l args w R) : YieldAt Fence.wide m P l args w R := by
  obtain ⟨fn, tmps, as_, body, hy, hF, hR⟩ := h
  exact ⟨fn, tmps, as_, body, hy, hF, fun c cs _ => hR c cs (room_wide _)⟩

theorem calls_anyT {n m : Nat} {P : Program} {f : FuncId} {args : Array Value} {w : World} {R : Ending → World → Prop} (h : CallsIn Fence.wide n P f args w R) : CallsIn Fence.wide m P f args w R := callsIn_wide.2 (callsIn_wide.1 h)

theorem wpIn_loop_relT {F : Fence} {n : Nat} {P : Program} {Q : Exit → Act → World → Prop} {a : Act} {w : World} {c : Code} (Rel : Nat → Act → World → Prop) (N : Nat) (h : Rel N a w) (h0 : ∀ A W, ¬ Rel 0 A W)
    (hs : ∀ N A W, Rel (N + 1) A W → c.wpIn F n P (Exit.then (fun a' w' => Rel N a' w') Q) A W) : (Code.loop c).wpIn F n P Q a w := by
  refine wpIn_loop_rounds N ?_
  have key : ∀ N A W, Rel N A W → Code.roundsIn F n P c Q N A W := by
    intro N
    induction N with
    | zero => intro A W hr; exact (h0 A W hr).elim
    | succ N ih =>
      intro A W hr
      rw [roundsIn_succ]
      exact Code.wpIn_mono (fun e a w q => by cases e <;> first | exact ih _ _ q | exact q) (hs N A W hr)
  exact key N a w h

/-- What stands at the head of the iterator's loop. -/
def TkRel (bw l len : Nat) (J : Nat → List Nat → Nat → World → Prop) (N : Nat) (A : Act) (W : World) : Prop :=
  ∃ (x2 x3 x4 x5 x6 x7 x8 x9 x10 x11 x12 x13 x14 x15 x16 x17 x18 x19 x20 x21 x22 x23 x24 x25 x26 x27 x28 x29 x30 x31 x32 x33 x34 x35 x36 x37 x38 x39 x40 x41 x42 x43 x44 x45 x46 x47 x48 x49 x50 x51 x52 x53 x54 x55 x56 x57 : Value) (m : Nat) (bs : List Nat) (lst : Nat), A = { tmps := #[.pointer (some ⟨bw, 1, none⟩), .func (.yield l) #[] #[], x2, x3, x4, x5, x6, x7, x8, x9, x10, x11, x12, x13, x14, x15, x16, x17, x18, x19, x20, x21, x22, x23, x24, x25, x26, x27, x28, x29, x30, x31, x32, x33, x34, x35, x36, x37, x38, x39, x40, x41, x42, x43, x44, x45, x46, x47, x48, x49, x50, x51, x52, x53, x54, x55, x56, x57], defers := [] } ∧ J m bs lst W ∧ m * (len + 2) + (len - lst) + 1 ≤ N

set_option maxRecDepth 100000 in
set_option maxHeartbeats 4000000 in
theorem taken_in (bw gb cb : Nat) : TakesB bw gb cb := by
  intro l J Jr Jx W m0 bs0 lst0 len hV hD hS hP hY h0
  refine calls_anyT (n := 1) ?_
  refine callsIn_of_wp Tryz.func105 rfl trivial ?_ rfl
  simp only [Tryz.ntmps105, List.size_toArray, List.length_cons, List.length_nil, Nat.reduceAdd, Nat.reduceSub, Array.replicate_succ, Array.replicate_zero, List.push_toArray, List.append_toArray, List.nil_append, List.cons_append]
  gi_wp2
  refine wpIn_loop_relT (TkRel bw l len J) (m0 * (len + 2) + (len - lst0) + 1) ⟨_, _, _, _, _, _, _, _, _, _, _, _, _, _, _, _, _, _, _, _, _, _, _, _, _, _, _, _, _, _, _, _, _, _, _, _, _, _, _, _, _, _, _, _, _, _, _, _, _, _, _, _, _, _, _, _, m0, bs0, lst0, rfl, h0, Nat.le_refl _⟩ ?_ ?_
  · rintro A V ⟨_, _, _, _, _, _, _, _, _, _, _, _, _, _, _, _, _, _, _, _, _, _, _, _, _, _, _, _, _, _, _, _, _, _, _, _, _, _, _, _, _, _, _, _, _, _, _, _, _, _, _, _, _, _, _, _, m, bs, lst, -, -, hle⟩
    omega
  · rename World => w0
    clear h0
    rintro N A W ⟨x2, x3, x4, x5, x6, x7, x8, x9, x10, x11, x12, x13, x14, x15, x16, x17, x18, x19, x20, x21, x22, x23, x24, x25, x26, x27, x28, x29, x30, x31, x32, x33, x34, x35, x36, x37, x38, x39, x40, x41, x42, x43, x44, x45, x46, x47, x48, x49, x50, x51, x52, x53, x54, x55, x56, x57, m, bs, lst, rfl, hJ, hN⟩
    obtain ⟨⟨c1, c2, f2, hat, hne, hw, hlen, htab⟩, hbl, hll⟩ := hV m bs lst W hJ
    have hJ' : Hid _ := hJ
    have hlen' : Hid (bs.length = len) := hbl
    by_cases hl : lst < len
    · have hl' : (lst : Int) < (bs.length : Int) := by omega
      obtain ⟨ca, fa⟩ := hat lst (by omega)
      obtain ⟨b, hb⟩ : ∃ b, bs.getD lst 0 = b := ⟨_, rfl⟩
      have hb64 := hw lst
      rw [hb] at ca hb64
      have HB : Hid _ := hb
      have hne' : ¬ bw = gb := fun e => hne e.symm
      by_cases hb0 : b = 0
      · subst hb0
        have hS' := hS m bs lst W
        have ca : W.cell? ⟨gb, lst, none⟩ = some (.int .u64 0) := ca
        clear hat hw hb hJ hbl hV hP hY
        gi_wp2
        gi_region
        gi_wp2
        gi_region
        gi_wp2
        have hJ2 := hS' ((W.drew.drew).setCell ⟨bw, 2, none⟩ (.int .i64 (lst + 1 : Nat))) hJ'.out hl HB.out ⟨rfl, rfl, rfl, rfl⟩
        refine ⟨_, _, _, _, _, _, _, _, _, _, _, _, _, _, _, _, _, _, _, _, _, _, _, _, _, _, _, _, _, _, _, _, _, _, _, _, _, _, _, _, _, _, _, _, _, _, _, _, _, _, _, _, _, _, _, _, m, bs, lst + 1, rfl, hJ2, by omega⟩
      · have hpk := hP m bs lst W
        have hz : ((b : Int) == 0) = false := by simp; omega
        have hand : bits BinOp.and IntKind.u64 (b : Int) ((b : Int) - 1) = ((b &&& (b - 1) : Nat) : Int) := by
          have e1 : ((b : Int) - 1) = ((b - 1 : Nat) : Int) := by omega
          rw [e1]
          exact bits_and_u64_nat _ _ (by omega) (by omega)
        rw [hb] at hpk
        clear hw hb hJ hbl hV hS
        gi_wp2
        gi_region
        gi_wp2
        gi_region
        gi_wp2
        gi_region
        gi_wp2
        obtain ⟨V, hVd⟩ : ∃ V, (W.setCell ⟨gb, lst, none⟩ (.int .u64 (b &&& (b - 1) : Nat))).drew.drew.drew = V := ⟨_, rfl⟩
        have hJr := hpk V.drew hJ'.out hl hb0 (by rw [← hVd]; exact ⟨rfl, rfl, rfl, rfl⟩)
        have d2 : V.cell? ⟨bw, 2, none⟩ = some (.int .i64 lst) := by
          rw [← hVd]
          exact (World.cell?_of_block (a := ⟨bw, 2, none⟩) (heap_setCell_other W ⟨gb, lst, none⟩ bw _ hne')).trans c2
        have hTB : TabAt 2 Lib.deBruijn64tab V.drew := fun q hq => by
          have h1 := htab q hq
          rw [← hVd]
          refine (World.cell?_of_block (a := ⟨2, q, none⟩) (heap_setCell_other W ⟨gb, lst, none⟩ 2 _ (fun e => ?_))).trans h1
          have h2 := htab 0 (by decide)
          have h3 := (hat 0 (by omega)).1
          have e' : 2 = gb := e
          rw [e', h3] at h2
          simp at h2
        have HTZ := tz_in (w := V.drew) (x := b) (by omega) hb0 hTB
        obtain ⟨k, hk⟩ : ∃ k, Lib.ctz 64 b = k := ⟨_, rfl⟩
        have hk64 : k < 64 := by rw [← hk]; exact (low_bits hb0 hb64).1
        have hk64' : (k : Int) < 64 := by omega
        have hl100 : (lst : Int) < 100000 := by omega
        have hw1 : IntKind.i64.wrap (64 * (lst : Int)) = 64 * (lst : Int) := by rw [IntKind.wrap_i64]; omega
        have hw2 : IntKind.i64.wrap (64 * (lst : Int) + (k : Int)) = 64 * (lst : Int) + (k : Int) := by rw [IntKind.wrap_i64]; omega
        rw [hk] at hJr HTZ
        obtain ⟨fn, tmps, assign, body, hy, hR⟩ := hY m _ _ hJr
        simp only [Int.natCast_add, Int.natCast_mul, Int.cast_ofNat_Int] at hy
        rw [hVd]
        clear hand hpk hY hJr hTB hk hat htab hD
        gi_region_with (first
          | (refine ⟨trivial, ?_⟩; gi_at_call 192; refine (callsIn_wide.2 HTZ).mono ?_; rintro e w1 ⟨rfl, rfl⟩)
          | (refine hR.mono ?_; rintro e W3 ⟨b3, rfl, hR3⟩))
        all_goals
          clear hy hw1 hw2 hVd d2 ca fa c1 c2 f2
          rcases hR3 with ⟨rfl, m', bs', lst', hm', hJ3⟩ | ⟨rfl, hx⟩
          · go_simp
            gi_wp2
            refine ⟨_, _, _, _, _, _, _, _, _, _, _, _, _, _, _, _, _, _, _, _, _, _, _, _, _, _, _, _, _, _, _, _, _, _, _, _, _, _, _, _, _, _, _, _, _, _, _, _, _, _, _, _, _, _, _, _, m', bs', lst', rfl, hJ3, ?_⟩
            have h1 : (m' + 1) * (len + 2) ≤ m * (len + 2) := Nat.mul_le_mul_right _ hm'
            rw [Nat.succ_mul] at h1
            omega
          · go_simp
            gi_wp2
            refine bodyPost_ret (results_none (by rfl) _ _ _) (by rfl) ?_
            exact ⟨⟨_, rfl⟩, .inr hx⟩
    · have hl' : ¬ ((lst : Int) < (bs.length : Int)) := by omega
      clear hat hw hJ hbl hV hP hS hY
      gi_wp2
      gi_region
      gi_wp2
      refine bodyPost_end (results_none (by rfl) _ _ _) (by rfl) ?_
      exact ⟨⟨_, rfl⟩, .inl ⟨m, bs, lst, hD _ _ _ _ _ hJ'.out ⟨rfl, rfl, rfl, rfl⟩, by omega⟩⟩

end Go.Proofs.YtpjgdbeekmoedaaGreatDoor
