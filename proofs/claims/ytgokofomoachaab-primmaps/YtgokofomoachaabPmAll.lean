/- prim: mayAllBe, over slices.Chunk. -/
import Derived.Test.YtgokofomoachaabPmWide
import Derived.RangeFuncNested
import Derived.RangeFuncBound
import Derived.RangeFuncCalls
import Derived.RangeFuncLeaves
import Derived.RangeFuncBox
import Derived.Shelf.Abstract
import Derived.Shelf.RegionOpen
import Derived.WalkKit
import Derived.OwnWalkIn
import Derived.TacticsInMore
import Derived.LoopNIn
import Derived.LoopIn
import Derived.RegionIn
namespace Go.Proofs.Ytgokofomoachaab
set_option linter.unusedVariables false
set_option linter.unusedSimpArgs false
open Go.RowKit Go.Shelf

attribute [local go_sem] Oper.semAt_some

variable {w : World}

set_option maxRecDepth 20000 in
set_option maxHeartbeats 1000000 in
/-- mayHold of a list's items. -/
theorem mayHoldL_in {p : Option Addr} {S : List Om} (h : Ask w p S) (c : Nat) {l : List Vl} {q : Option Addr} (co : Nat) (hv : Vals w q l) (hq : q = none → co = 0) (hfit : ∀ v ∈ l, v.fits) (hl : l.length ≤ 65536) (hsum : S.length + 1 + sumL S + l.length ≤ 1048576) (b : Bool) (hb : b = true ↔ fineP S l) :
    Calls Try.prog 24 #[.slice p S.length c, .agg #[.int .u8 4, .string ⟨#[]⟩, .slice q l.length co, .int .i64 l.length, .int .i64 0]] w fun e w' => e = .returned (.bool b) ∧ Below w.heap.size w w' := by
  have H := mayHold_in h c (lstO l) co hv hq ⟨by simp [lstO], hfit, ⟨by show (-9223372036854775808 : Int) ≤ (l.length : Int); omega, by show (l.length : Int) ≤ 9223372036854775807; omega⟩, by simp [lstO], by simp [lstO]⟩ (by show l.length ≤ 100000; omega) (by show (0 : Nat) ≤ 1048576; omega) hsum
  refine Calls.mono H ?_
  rintro e w' ⟨n, b', hf, hb', rfl, hB⟩
  have e1 : b' = b := by
    have h1 := hold_list hl hf
    have : b' = true ↔ b = true := hb'.trans (h1.trans hb.symm)
    cases b' <;> cases b <;> simp at this <;> rfl
  subst e1
  exact ⟨rfl, hB⟩

/-- How often a slice of at most so many values is handed on. -/
def chunks (l : List Vl) : List Unit := if l = [] then [] else [()]

structure KpC (Bs Bn : Nat) (W W' : World) : Prop where
  bs : W'.heap[Bs]? = W.heap[Bs]?
  bn : W'.heap[Bn]? = W.heap[Bn]?

theorem KpC.trans {Bs Bn : Nat} {A B C : World} (h : KpC Bs Bn A B) (k : KpC Bs Bn B C) : KpC Bs Bn A C := ⟨k.bs.trans h.bs, k.bn.trans h.bn⟩

theorem KpC.refl (Bs Bn : Nat) (A : World) : KpC Bs Bn A A := ⟨rfl, rfl⟩

set_option maxRecDepth 100000 in
set_option maxHeartbeats 2000000 in
theorem chunk1_in (n lp Bs Bn : Nat) (hn : 1 ≤ n) {p : Option Addr} {l : List Vl} (c : Nat) (hl : l.length ≤ 65536) (hc : l.length ≤ c) (hcm : c ≤ maxLen) (hp : l ≠ [] → ∃ b0 off, p = some ⟨b0, off, none⟩) (J Jx : List Unit → World → Prop) (hJd : ∀ pre W, J pre W → J pre W.drew)
    (hY : ∀ pre x W, J pre W → pre.length < (chunks l).length → YieldAt Fence.wide (n - 1) Try.prog lp #[.slice p l.length l.length] W fun e W' =>
      (e = .returned (.bool true) ∧ J (pre ++ [x]) W' ∧ KpC Bs Bn W W') ∨ (e = .returned (.bool false) ∧ Jx (pre ++ [x]) W'))
    (W : World) (hBs : W.cell? ⟨Bs, 0, none⟩ = some (.slice p l.length c)) (hBn : W.cell? ⟨Bn, 0, none⟩ = some (.int .i64 65536)) (h0 : J [] W) :
    CallsIn Fence.wide n Try.prog 57 #[.func (.yield lp) #[] #[], .pointer (some ⟨Bs, 0, none⟩), .pointer (some ⟨Bn, 0, none⟩)] W fun e W' => (∃ v, e = .returned v) ∧
      ((∃ ys, ys = chunks l ∧ J ys W') ∨ (∃ pre, pre <+: chunks l ∧ Jx pre W')) := by
  refine callsIn_of_wp Try.func57 rfl trivial ?_ rfl
  simp only [Try.ntmps57, List.size_toArray, List.length_cons, List.length_nil, Nat.reduceAdd, Nat.reduceSub, Array.replicate_succ, Array.replicate_zero, List.push_toArray, List.append_toArray, List.nil_append, List.cons_append]
  gi_wp2
  gi_loopw [4] (fun s4 wr => ∃ pre : List Unit, ((s4 = .int .i64 0 ∧ pre = []) ∨ (s4 = .int .i64 65536 ∧ pre = [()] ∧ l ≠ [])) ∧ J pre wr ∧ KpC Bs Bn W wr) (fun s4 _ => (65536 - intOf s4).toNat)
  case atStart => exact ⟨[], .inl ⟨rfl, rfl⟩, h0, KpC.refl _ _ _⟩
  case round =>
    obtain ⟨pre, hs, hJ, hk⟩ := hrel
    have hbs : wr.cell? ⟨Bs, 0, none⟩ = some (.slice p l.length c) := (World.cell?_of_block (a := ⟨Bs, 0, none⟩) hk.bs).trans hBs
    have hbn : wr.cell? ⟨Bn, 0, none⟩ = some (.int .i64 65536) := (World.cell?_of_block (a := ⟨Bn, 0, none⟩) hk.bn).trans hBn
    by_cases hle : l = []
    · subst hle
      rcases hs with ⟨rfl, rfl⟩ | ⟨-, -, hne⟩
      · clear hp
        simp only [List.length_nil] at hbs
        gi_wp2
        go_end0
        exact ⟨⟨_, rfl⟩, .inl ⟨[], rfl, hJ⟩⟩
      · exact (hne rfl).elim
    · have hch : chunks l = [()] := by unfold chunks; rw [if_neg hle]
      obtain ⟨b0, off, rfl⟩ := hp hle
      have hpos : 0 < l.length := List.length_pos_iff.2 hle
      have HC : Hid _ := hch
      clear hch
      rcases hs with ⟨rfl, rfl⟩ | ⟨rfl, rfl, -⟩
      · have hpos' : (0 : Int) < (l.length : Int) := by omega
        obtain ⟨fn, tmps, assign, body, hy', hR⟩ := hY [] () wr.drew (hJd _ _ hJ) (by rw [HC.out]; simp)
        have hmin : min (65536 : Int) (l.length : Int) = (l.length : Int) := by omega
        gi_wp2
        gi_region
        gi_wp2
        refine hR.mono ?_
        rintro e W3 (⟨rfl, hJ3, hk3⟩ | ⟨rfl, hJx3⟩)
        · have hk4 : KpC Bs Bn W W3 := hk.trans ⟨hk3.bs, hk3.bn⟩
          have hbn3 : W3.cell? ⟨Bn, 0, none⟩ = some (.int .i64 65536) := (World.cell?_of_block (a := ⟨Bn, 0, none⟩) hk4.bn).trans hBn
          gi_wp2
          go_roundw
          case rel => exact ⟨[()], .inr ⟨rfl, rfl, hle⟩, hJ3, hk4⟩
          case measure => simp [intOf]
        · gi_wp2
          refine bodyPost_ret (results_none (by rfl) _ _ _) (by rfl) ?_
          exact ⟨⟨_, rfl⟩, .inr ⟨[()], by rw [HC.out]; exact ⟨[], by simp⟩, hJx3⟩⟩
      · have hpos' : ¬ ((65536 : Int) < (l.length : Int)) := by omega
        gi_wp2
        go_end0
        exact ⟨⟨_, rfl⟩, .inl (by rw [HC.out]; exact hJ)⟩

theorem chunk1_stops (n Bs Bn : Nat) (hn : 1 ≤ n) {p : Option Addr} {l : List Vl} (c : Nat) (hl : l.length ≤ 65536) (hc : l.length ≤ c) (hcm : c ≤ maxLen) (hp : l ≠ [] → ∃ b0 off, p = some ⟨b0, off, none⟩) (hBs : w.cell? ⟨Bs, 0, none⟩ = some (.slice p l.length c)) (hBn : w.cell? ⟨Bn, 0, none⟩ = some (.int .i64 65536)) :
    SeqStopsK Fence.wide n Try.prog 57 #[.pointer (some ⟨Bs, 0, none⟩), .pointer (some ⟨Bn, 0, none⟩)] (fun _ : Unit => #[.slice p l.length l.length]) (KpC Bs Bn) (fun ys => ys = chunks l) (fun pre => pre <+: chunks l) (chunks l).length w := by
  intro lp J Jx W hBl hJ hJx hY h0
  have hk : KpC Bs Bn w W := ⟨hBl.block Bs (World.block_lt_of_cell? w _ hBs), hBl.block Bn (World.block_lt_of_cell? w _ hBn)⟩
  exact chunk1_in n lp Bs Bn hn c hl hc hcm hp J Jx (fun pre W h => hJ _ _ _ none h ⟨rfl, rfl, rfl, Nat.le_refl _, fun _ _ _ => rfl⟩ (fun r e => by cases e)) hY W ((World.cell?_of_block (a := ⟨Bs, 0, none⟩) hk.bs).trans hBs) ((World.cell?_of_block (a := ⟨Bn, 0, none⟩) hk.bn).trans hBn) h0

set_option maxHeartbeats 400000 in
theorem chunk_in (p : Option Addr) (n c : Nat) (w : World) : Calls Try.prog 23 #[.slice p n c, .int .i64 65536] w fun e w' =>
    e = .returned (.func (.func 57) #[] #[.pointer (some ⟨w.heap.size, 0, none⟩), .pointer (some ⟨w.heap.size + 1, 0, none⟩)]) ∧ w' = (w.alloc (.cells #[.slice p n c] 39)).alloc (.cells #[.int .i64 65536] 3) := by
  go_enter Try.func23, Try.ntmps23
  go_wp2
  go_ret
  exact ⟨rfl, rfl⟩

theorem cell_new_p (w : World) (v : Value) (t : TypeId) : (w.alloc (.cells #[v] t)).cell? ⟨w.heap.size, 0, none⟩ = some v ∧ (w.alloc (.cells #[v] t)).frozen? ⟨w.heap.size, 0, none⟩ = false :=
  ⟨by rw [cell_of_row _ w.heap.size 0 _ _ _ (heap_alloc_new w _)]; rfl, frozen_of_row _ w.heap.size 0 _ _ (heap_alloc_new w _)⟩

theorem cell_alloc_p {w : World} {a : Addr} {v : Value} (o : Obj) (h : w.cell? a = some v) : (w.alloc o).cell? a = some v :=
  (World.cell?_of_block (Below.heap_alloc w o a.block (World.block_lt_of_cell? w a h))).trans h

theorem frozen_alloc_p {w : World} {a : Addr} {v : Value} (o : Obj) (h : w.cell? a = some v) (hf : w.frozen? a = false) : (w.alloc o).frozen? a = false :=
  (World.frozen?_of_block (Below.heap_alloc w o a.block (World.block_lt_of_cell? w a h))).trans hf

set_option maxRecDepth 100000 in
set_option maxHeartbeats 2000000 in
theorem mayAllBe_in {p : Option Addr} {S : List Om} (h : Ask w p S) (c : Nat) {l : List Vl} {q : Option Addr} (cq : Nat) (hv : Vals w q l) (hq : q = none → cq = 0) (hfit : ∀ v ∈ l, v.fits) (hl : l.length ≤ 65536) (hc : l.length ≤ cq) (hcm : cq ≤ maxLen) (hsum : S.length + 1 + sumL S + l.length ≤ 1048576) (b : Bool) (hb : b = true ↔ fineP S l) :
    Calls Try.prog 12 #[.slice p S.length c, .slice q l.length cq] w fun e w' => e = .returned (.bool b) ∧ Below w.heap.size w w' := by
  refine (callsIn_wide (n := 3)).1 ?_
  have h1 : 1 ≤ 3 := by omega
  refine callsIn_of_wp_marks Try.func12 rfl trivial ?_ rfl
  simp only [Try.ntmps12, List.size_toArray, List.length_cons, List.length_nil, Nat.reduceAdd, Nat.reduceSub, Array.replicate_succ, Array.replicate_zero, List.push_toArray, List.append_toArray, List.nil_append, List.cons_append]
  gi_wp2_with (refine ⟨trivial, ?_⟩; gi_at_call 23; refine (callsIn_wide.2 (chunk_in _ _ _ _)).mono ?_; rintro e w' ⟨rfl, rfl⟩)
  have c0 := cell_new_p w (.slice p S.length c) 25
  have c1 := cell_new_p (w.alloc (.cells #[.slice p S.length c] 25)) (.bool false) 4
  have c2 := cell_new_p ((w.alloc (.cells #[.slice p S.length c] 25)).alloc (.cells #[.bool false] 4)) (.slice q l.length cq) 39
  have c3 := cell_new_p (((w.alloc (.cells #[.slice p S.length c] 25)).alloc (.cells #[.bool false] 4)).alloc (.cells #[.slice q l.length cq] 39)) (.int .i64 65536) 3
  simp only [World.size_alloc] at c1 c2 c3
  have hB0 := below4' w (.cells #[.slice p S.length c] 25) (.cells #[.bool false] 4) (.cells #[.slice q l.length cq] 39) (.cells #[.int .i64 65536] 3)
  have hp : l ≠ [] → ∃ b0 off, q = some ⟨b0, off, none⟩ := fun hne => by
    cases l with
    | nil => exact (hne rfl).elim
    | cons u r => obtain ⟨b0, off, e, -⟩ := hv 0 u (by simp); exact ⟨b0, off, e⟩
  refine wpIn_rangeFunc_ownF rfl h1 (gf := 57) (lb := #[.pointer (some ⟨w.heap.size + 1 + 1, 0, none⟩), .pointer (some ⟨w.heap.size + 1 + 1 + 1, 0, none⟩)]) rfl trivial (enters_of Try.func57 (by kernel_rfl) rfl)
    (chunk1_stops 2 (w.heap.size + 1 + 1) (w.heap.size + 1 + 1 + 1) (by omega) cq hl hc hcm hp (cell_alloc_p _ c2.1) c3.1) (fun h k => h.trans k) (fun W l o o' hl _ _ _ => ⟨World.putObj_heap_other (by simp at hl; omega), World.putObj_heap_other (by simp at hl; omega)⟩) (Below.refl _ _) (fun _ => rfl)
    (fun pre W => (((pre = [] ∨ b = true) ∧ w.heap.size + 4 ≤ W.heap.size) ∧ W.cell? ⟨w.heap.size, 0, none⟩ = some (.slice p S.length c) ∧ W.cell? ⟨w.heap.size + 1, 0, none⟩ = some (.bool false) ∧ W.frozen? ⟨w.heap.size + 1, 0, none⟩ = false) ∧ Below w.heap.size w W)
    (fun cc pre W => (cc = .ret ∧ b = false ∧ W.cell? ⟨w.heap.size + 1, 0, none⟩ = some (.bool false)) ∧ Below w.heap.size w W)
    (OwnFrom.and (Own.from (fun s A B row hs hg hr => ⟨⟨hs.1.1, Nat.le_trans hs.1.2 hg.size⟩, cell_kept hs.2.1 hg hr, cell_kept hs.2.2.1 hg hr, (frozen_kept hs.2.2.1 hg hr).trans hs.2.2.2⟩) _) (ownFrom_below (Nat.le_refl _) (by simp; omega)))
    (fun cc => OwnFrom.and (Own.from (fun s A B row hs hg hr => ⟨hs.1, hs.2.1, cell_kept hs.2.2 hg hr⟩) _) (ownFrom_below (Nat.le_refl _) (by simp; omega)))
    ⟨⟨⟨.inl rfl, by simp⟩, cell_alloc_p _ (cell_alloc_p _ (cell_alloc_p _ c0.1)), cell_alloc_p _ (cell_alloc_p _ c1.1), frozen_alloc_p _ (cell_alloc_p _ c1.1) (frozen_alloc_p _ c1.1 c1.2)⟩, hB0⟩
    (fun x => { tmps := #[.slice p S.length c, .slice q l.length cq, .pointer (some ⟨w.heap.size, 0, none⟩), undef, .pointer (some ⟨w.heap.size + 1, 0, none⟩), .slice q l.length l.length, .slice q l.length cq, .func (.func 57) #[] #[.pointer (some ⟨w.heap.size + 1 + 1, 0, none⟩), .pointer (some ⟨w.heap.size + 1 + 1 + 1, 0, none⟩)], .slice q l.length l.length, undef, undef, undef, undef, undef, undef, undef], defers := [] }) ?assign ?body ?done ?stop
  case assign =>
    intro l x W K hK
    gi_wp2
    exact hK
  case body =>
    rintro lp pre x W ⟨⟨⟨hp', hW4⟩, hcs, hcr, hfr⟩, hB⟩ hlen'
    have hlne : l ≠ [] := fun e => by rw [e] at hlen'; simp [chunks] at hlen'
    have HM := mayHoldL_in (h.below hB) c (q := q) l.length (hv.below hB) (fun e => by obtain ⟨b0, off, e2⟩ := hp hlne; rw [e] at e2; cases e2) hfit hl hsum b hb
    have hz := hB.size
    have hl0 := World.block_lt_of_cell? W _ hcs
    have hl1 := World.block_lt_of_cell? W _ hcr
    clear hb h hv hfit hp hlne hlen' hp'
    cases b with
    | true =>
      gi_wp2_with (refine ⟨trivial, ?_⟩; gi_at_call 24; refine (callsIn_wide.2 HM).mono ?_; clear HM; rintro e w2 ⟨rfl, hB2⟩)
      refine ⟨⟨hB2.size, fun k o hk _ => (hB2.block k (Array.getElem?_eq_some_iff.1 hk).1).trans hk⟩, ⟨hB2.block _ (by omega), hB2.block _ (by omega)⟩, ⟨Nat.le_trans hW4 hB2.size, (hB2.cell hl0).trans hcs, (hB2.cell hl1).trans hcr, (World.frozen?_of_block (a := ⟨w.heap.size + 1, 0, none⟩) (hB2.block _ hl1)).trans hfr⟩, hB.trans (hB2.mono hz)⟩
    | false =>
      gi_wp2_with (refine ⟨trivial, ?_⟩; gi_at_call 24; refine (callsIn_wide.2 HM).mono ?_; clear HM; rintro e w2 ⟨rfl, hB2⟩; have hcr2 := (hB2.cell hl1).trans hcr; have hfr2 := (World.frozen?_of_block (a := ⟨w.heap.size + 1, 0, none⟩) (hB2.block _ hl1)).trans hfr)
      exact ⟨(show KeepsOthers W w2 from ⟨hB2.size, fun k o hk _ => (hB2.block k (Array.getElem?_eq_some_iff.1 hk).1).trans hk⟩).trans (KeepsOthers.setCell _ _ _), ⟨rfl, World.cell?_setCell_same' _ _ _ (by rw [hcr2]; rfl)⟩, (hB.trans (hB2.mono hz)).setCell (p := ⟨w.heap.size + 1, 0, none⟩) (by simp) _⟩
  case done =>
    rintro D ys W hD rfl ⟨⟨⟨hne, _⟩, _, hcr, hfr⟩, hB⟩ hK
    have hbt : b = true := by
      rcases hne with hne | hne
      · have hle : l = [] := by
          cases l with
          | nil => rfl
          | cons u r => simp [chunks] at hne
        exact hb.2 (by rw [hle]; intro v hv; cases hv)
      · exact hne
    subst hbt
    clear hb
    gi_wp2
    have hK' := (KeepsOthers.setCell W ⟨w.heap.size + 1, 0, none⟩ (.bool true)).same D _ hK rfl
    refine ⟨by simp, .inl ⟨_, _, rfl, run_takeDeferred hK', ?_⟩⟩
    have hc5 := cell_kept (World.cell?_setCell_same' W ⟨w.heap.size + 1, 0, none⟩ (.bool true) (by rw [hcr]; rfl)) (grownBy_putObj' _ D (.deferred none)) (fun r e => by cases e; exact ⟨_, hK', rfl⟩)
    refine ⟨.bool true, ?_, rfl, (hB.setCell (p := ⟨w.heap.size + 1, 0, none⟩) (by simp) _).trans ⟨rfl, rfl, rfl, by simp, fun k hk => World.putObj_heap_other (by simp at hD; omega)⟩⟩
    simp [results, Try.f12, go_sem, hc5]
  case stop =>
    rintro D cc pre W hD hpre ⟨⟨rfl, hbf, hcr⟩, hB⟩ hK
    subst hbf
    clear hb
    gi_wp2
    refine ⟨by simp, .inl ⟨_, _, rfl, run_takeDeferred hK, ?_⟩⟩
    have hc5 := cell_kept hcr (grownBy_putObj' _ D (.deferred none)) (fun r e => by cases e; exact ⟨_, hK, rfl⟩)
    refine ⟨.bool false, ?_, rfl, hB.trans ⟨rfl, rfl, rfl, by simp, fun k hk => World.putObj_heap_other (by simp at hD; omega)⟩⟩
    simp [results, Try.f12, go_sem, hc5]

end Go.Proofs.Ytgokofomoachaab
