/- Where a key stands: keyLike, of what is no text. -/
import Derived.Test.YtkombdkhodjckaaGreatObPut
namespace Go.Proofs.YtkombdkhodjckaaGreat
set_option linter.unusedVariables false
set_option linter.unusedSimpArgs false
open Go.RowKit

variable {n₀ bh b lim used : Nat} {vw vb : Value} {w : World} {M : List Ob}

/-- What tells whether values are the same as a key that is no text: the variables that it holds. -/
structure LikeAt (w : World) (Bm Bb Bk Bl Ba bh cnt room inn k : Nat) (n : Int) : Prop where
  mem : w.heap[Bm]? = some (.cells #[.pointer (some ⟨bh, 0, none⟩)] 54 (0, 0))
  bod : w.heap[Bb]? = some (.cells #[.int .i64 cnt, .int .i64 room, .int .i64 inn, .int .i64 0] 58 (0, 0))
  key : w.heap[Bk]? = some (.cells #[.int .u8 k, .int .i64 n] 29 (0, 0))
  box : w.heap[Bl]? = some (.cells #[.func (.func 133) #[] #[.pointer (some ⟨Ba, 0, none⟩)]] 63 (0, 0))
  val : w.heap[Ba]? = some (.cells #[.int .u8 k, .int .i64 n] 29 (0, 0))

theorem LikeAt.below {Bm Bb Bk Bl Ba bh cnt room inn k : Nat} {n : Int} (h : LikeAt w Bm Bb Bk Bl Ba bh cnt room inn k n) {w' : World} (hB : Below w.heap.size w w') : LikeAt w' Bm Bb Bk Bl Ba bh cnt room inn k n :=
  ⟨(hB.block _ (Array.getElem?_eq_some_iff.1 h.mem).1).trans h.mem, (hB.block _ (Array.getElem?_eq_some_iff.1 h.bod).1).trans h.bod, (hB.block _ (Array.getElem?_eq_some_iff.1 h.key).1).trans h.key,
    (hB.block _ (Array.getElem?_eq_some_iff.1 h.box).1).trans h.box, (hB.block _ (Array.getElem?_eq_some_iff.1 h.val).1).trans h.val⟩

namespace Obk

theorem unwanted_if {P : Program} {ops : Array Oper} {S : World → Prop} {o : Oper} {a : Act} {j d : Nat} (hg : o.guard = some (j, true)) (hd : ((ops[j]?).bind (·.dst)) = some d) (ht : a.tmps[d]? = some (.bool false)) : YieldsIf P ops S o undef a :=
  Or.inr ⟨by unfold Region.wanted yielded; rw [hg]; simp only [hd, Option.bind_some, ht]; rfl, rfl⟩

theorem take_at {P : Program} {md : Region.Mode} {ops : Array Oper} {Q : Exit → Act → World → Prop} {S : World → Prop} {i d : Nat} {oi : Oper} {v : Value} {fuel : Nat} {listed : Array Bool} {a : Act} {w : World} (hi : ops[i]? = some oi) (hd : oi.dst = some d)
    (hs : Region.noSelect ops = true) (hf : Region.free md ops listed i = true) (hr : (Region.ready md ops listed).contains i = true)
    (hQ : ∀ c a w, Q (.panic c) (a.put (some d) v) w → Q (.panic c) a w) (hy : YieldsIf P ops S oi v a) (hS : S w)
    (h : wpAnyH P md ops Q S fuel (listed.setIfInBounds i true) { a with tmps := a.tmps.setIfInBounds d v } w) : wpAnyH P md ops Q S (fuel + 1) listed a w :=
  wpAnyH_take hi hs hf hr (by rw [hd]; exact hQ) hy hS (by rw [hd]; exact h)

end Obk

/-- What its one region reads. -/
def Seven (Bm Bb Bk Bl : Nat) (m c0 c1 c2 c3 x f : Value) (W : World) : Prop :=
  W.cell? ⟨Bm, 0, none⟩ = some m ∧ W.cell? ⟨Bb, 0, none⟩ = some c0 ∧ W.cell? ⟨Bb, 1, none⟩ = some c1 ∧ W.cell? ⟨Bb, 2, none⟩ = some c2 ∧ W.cell? ⟨Bb, 3, none⟩ = some c3 ∧ W.cell? ⟨Bk, 1, none⟩ = some x ∧ W.cell? ⟨Bl, 0, none⟩ = some f

theorem LikeAt.seven {Bm Bb Bk Bl Ba bh cnt room inn k : Nat} {n : Int} (h : LikeAt w Bm Bb Bk Bl Ba bh cnt room inn k n) :
    Seven Bm Bb Bk Bl (.pointer (some ⟨bh, 0, none⟩)) (.int .i64 cnt) (.int .i64 room) (.int .i64 inn) (.int .i64 0) (.int .i64 n) (.func (.func 133) #[] #[.pointer (some ⟨Ba, 0, none⟩)]) w :=
  have e := (cell_row4 h.bod).1
  ⟨cell_row1 h.mem, e.1, e.2.1, e.2.2.1, e.2.2.2, (cell_row2 h.key).2, cell_row1 h.box⟩

theorem wrap_place (i : Nat) (hi : i ≤ 1048576) : IntKind.i64.wrap (IntKind.i64.wrap (IntKind.i64.wrap (2 * (i : Int))) + 1) = ((2 * i + 1 : Nat) : Int) := by
  have e : IntKind.i64.wrap (2 * (i : Int)) = 2 * (i : Int) := by rw [IntKind.wrap_i64]; omega
  rw [e, e, IntKind.wrap_i64]
  omega

set_option maxRecDepth 20000 in
set_option maxHeartbeats 2000000 in
theorem keyLike2_in {Bm Bb Bk Bl Ba cnt room inn k k' W : Nat} {n n' : Int} (hL : LikeAt w Bm Bb Bk Bl Ba bh cnt room inn k n) (i : Nat) (hi : i ≤ 1048576)
    (HW : ∀ w', Below w.heap.size w w' → Calls Tryz.prog 89 #[mem bh, .int .i64 inn, .int .i64 (2 * i + 1 : Nat)] w' fun e w'' => e = .returned (.int .u64 (W : Nat)) ∧ Below w'.heap.size w' w'')
    (HV : ∀ w', Below w.heap.size w w' → Calls Tryz.prog 47 #[mem bh, .agg #[.int .i64 cnt, .int .i64 room, .int .i64 inn, .int .i64 0], .int .i64 i] w' fun e w'' => e = .returned (.agg #[.int .u8 k', .int .i64 n']) ∧ Below w'.heap.size w' w'')
    (hc : k = k' ∧ n = n' → (W : Int) = IntKind.u64.wrap n) :
    Calls Tryz.prog 119 #[.int .i64 i, .pointer (some ⟨Bm, 0, none⟩), .pointer (some ⟨Bb, 0, none⟩), .pointer (some ⟨Bk, 0, none⟩), .pointer (some ⟨Bl, 0, none⟩)] w fun e w' => e = .returned (.bool (decide (k = k' ∧ n = n'))) ∧ Below w.heap.size w w' := by
  rw [← wrap_place i hi] at HW
  have s0 := hL.seven
  obtain ⟨c0, c1, c2, c3, c4, c5, c6⟩ := s0
  have S0 : Hid (Seven Bm Bb Bk Bl (.pointer (some ⟨bh, 0, none⟩)) (.int .i64 cnt) (.int .i64 room) (.int .i64 inn) (.int .i64 0) (.int .i64 n) (.func (.func 133) #[] #[.pointer (some ⟨Ba, 0, none⟩)]) w) := hL.seven
  have HL : Hid _ := hL
  have HC : Hid _ := hc
  unfold mem at HW HV
  clear hL hc
  by_cases hq : (W : Int) = IntKind.u64.wrap n
  · have hqb : ((W : Int) == IntKind.u64.wrap n) = true := by simpa using hq
    clear hq
    go_enter Tryz.func119, Tryz.ntmps119
    go_wp2
    go_region_held3 (fun W => W.cell? ⟨Bm, 0, none⟩ = some (.pointer (some ⟨bh, 0, none⟩)) ∧ W.cell? ⟨Bb, 0, none⟩ = some (.int .i64 cnt) ∧ W.cell? ⟨Bb, 1, none⟩ = some (.int .i64 room) ∧ W.cell? ⟨Bb, 2, none⟩ = some (.int .i64 inn) ∧ W.cell? ⟨Bb, 3, none⟩ = some (.int .i64 0) ∧ W.cell? ⟨Bk, 1, none⟩ = some (.int .i64 n) ∧ W.cell? ⟨Bl, 0, none⟩ = some (.func (.func 133) #[] #[.pointer (some ⟨Ba, 0, none⟩)])) (first | exact S0.out | exact S1.out | exact S2.out | exact S3.out | go_keep)
      ((first
        | (go_at_call 89; go_loud (refine (HW _ (below_drew (Below.refl _ _))).mono ?_); clear HW; rintro e w1 ⟨rfl, hB1⟩; have hB1 : Below w.heap.size w w1 := ⟨hB1.os, hB1.tape, hB1.output, hB1.size, hB1.block⟩; have L1 : Hid _ := HL.out.below hB1; have S1 : Hid _ := L1.out.seven)
        | (go_at_call 47; refine (HV _ hB1).mono ?_; clear HV; rintro e w2 ⟨rfl, hB2⟩; have hB2' := hB1.trans (hB2.mono hB1.size); have L2 : Hid _ := HL.out.below hB2'; have S2 : Hid _ := L2.out.seven)
        | (go_at_call 133; refine (like3_in k k' n n' _ L2.out.val).mono ?_; rintro e w3 ⟨rfl, hB3⟩; have hB3' := hB2'.trans (hB3.mono hB2'.size); have L3 : Hid _ := HL.out.below hB3'; have S3 : Hid _ := L3.out.seven)))
    all_goals
      go_wp2
      go_ret
      exact ⟨congrArg (fun b => Ending.returned (.bool b)) (by simp [Bool.decide_and]), hB3'⟩
  · have hqb : ((W : Int) == IntKind.u64.wrap n) = false := by simpa using hq
    have e0 : decide (k = k' ∧ n = n') = false := by simp only [decide_eq_false_iff_not]; exact fun e => hq (HC.out e)
    rw [e0]
    clear hq e0 HV
    go_enter Tryz.func119, Tryz.ntmps119
    go_wp2
    refine wp_region_held_drew (S := (fun W => W.cell? ⟨Bm, 0, none⟩ = some (.pointer (some ⟨bh, 0, none⟩)) ∧ W.cell? ⟨Bb, 0, none⟩ = some (.int .i64 cnt) ∧ W.cell? ⟨Bb, 1, none⟩ = some (.int .i64 room) ∧ W.cell? ⟨Bb, 2, none⟩ = some (.int .i64 inn) ∧ W.cell? ⟨Bb, 3, none⟩ = some (.int .i64 0) ∧ W.cell? ⟨Bk, 1, none⟩ = some (.int .i64 n) ∧ W.cell? ⟨Bl, 0, none⟩ = some (.func (.func 133) #[] #[.pointer (some ⟨Ba, 0, none⟩)]))) (by kernel_rfl) (HL.out.below (below_drew (Below.refl _ _))).seven (fun hHeld => ?_)
    refine Obk.take_at (i := 0) (d := 7) (v := ?v0) rfl rfl (by kernel_rfl) (by kernel_rfl) (by kernel_rfl) (fun _ _ _ h => h) (Or.inl ⟨by rfl, ?hy0⟩) (by assumption) ?rest0
    case hy0 => (intro w hSw; (try dsimp only at hSw); go_simp; try with_reducible rfl)
    simp only [List.setIfInBounds_toArray, List.set_cons_zero, List.set_cons_succ]
    refine Obk.take_at (i := 1) (d := 8) (v := ?v1) rfl rfl (by kernel_rfl) (by kernel_rfl) (by kernel_rfl) (fun _ _ _ h => h) (Or.inl ⟨by rfl, ?hy1⟩) (by assumption) ?rest1
    case hy1 => (intro w hSw; (try dsimp only at hSw); go_simp; try with_reducible rfl)
    simp only [List.setIfInBounds_toArray, List.set_cons_zero, List.set_cons_succ]
    refine Obk.take_at (i := 2) (d := 9) (v := ?v2) rfl rfl (by kernel_rfl) (by kernel_rfl) (by kernel_rfl) (fun _ _ _ h => h) (Or.inl ⟨by rfl, ?hy2⟩) (by assumption) ?rest2
    case hy2 => (intro w hSw; (try dsimp only at hSw); go_simp; try with_reducible rfl)
    simp only [List.setIfInBounds_toArray, List.set_cons_zero, List.set_cons_succ]
    refine Obk.take_at (i := 3) (d := 10) (v := ?v3) rfl rfl (by kernel_rfl) (by kernel_rfl) (by kernel_rfl) (fun _ _ _ h => h) (Or.inl ⟨by rfl, ?hy3⟩) (by assumption) ?rest3
    case hy3 => (intro w hSw; (try dsimp only at hSw); go_simp; try with_reducible rfl)
    simp only [List.setIfInBounds_toArray, List.set_cons_zero, List.set_cons_succ]
    refine Obk.take_at (i := 4) (d := 11) (v := ?v4) rfl rfl (by kernel_rfl) (by kernel_rfl) (by kernel_rfl) (fun _ _ _ h => h) (Or.inl ⟨by rfl, ?hy4⟩) (by assumption) ?rest4
    case hy4 => (intro w hSw; (try dsimp only at hSw); go_simp; try with_reducible rfl)
    simp only [List.setIfInBounds_toArray, List.set_cons_zero, List.set_cons_succ]
    refine Obk.take_at (i := 5) (d := 12) (v := ?v5) rfl rfl (by kernel_rfl) (by kernel_rfl) (by kernel_rfl) (fun _ _ _ h => h) (Or.inl ⟨by rfl, ?hy5⟩) (by assumption) ?rest5
    case hy5 => (intro w hSw; (try dsimp only at hSw); go_simp; try with_reducible rfl)
    simp only [List.setIfInBounds_toArray, List.set_cons_zero, List.set_cons_succ]
    refine Obk.take_at (i := 6) (d := 13) (v := ?v6) rfl rfl (by kernel_rfl) (by kernel_rfl) (by kernel_rfl) (fun _ _ _ h => h) (Or.inl ⟨by rfl, ?hy6⟩) (by assumption) ?rest6
    case hy6 => (intro w hSw; (try dsimp only at hSw); go_simp; try with_reducible rfl)
    simp only [List.setIfInBounds_toArray, List.set_cons_zero, List.set_cons_succ]
    refine Obk.take_at (i := 7) (d := 14) (v := ?v7) rfl rfl (by kernel_rfl) (by kernel_rfl) (by kernel_rfl) (fun _ _ _ h => h) (Or.inl ⟨by rfl, ?hy7⟩) (by assumption) ?rest7
    case hy7 => (intro w hSw; (try dsimp only at hSw); go_simp; try with_reducible rfl)
    simp only [List.setIfInBounds_toArray, List.set_cons_zero, List.set_cons_succ]
    refine Obk.take_at (i := 8) (d := 15) (v := ?v8) rfl rfl (by kernel_rfl) (by kernel_rfl) (by kernel_rfl) (fun _ _ _ h => h) (Or.inl ⟨by rfl, ?hy8⟩) (by assumption) ?rest8
    case hy8 => (intro w hSw; (try dsimp only at hSw); go_simp; try with_reducible rfl)
    simp only [List.setIfInBounds_toArray, List.set_cons_zero, List.set_cons_succ]
    refine Obk.take_at (i := 10) (d := 17) (v := ?v10) rfl rfl (by kernel_rfl) (by kernel_rfl) (by kernel_rfl) (fun _ _ _ h => h) (Or.inl ⟨by rfl, ?hy10⟩) (by assumption) ?rest10
    case hy10 => (intro w hSw; (try dsimp only at hSw); go_simp; try with_reducible rfl)
    simp only [List.setIfInBounds_toArray, List.set_cons_zero, List.set_cons_succ]
    refine Obk.take_at (i := 11) (d := 18) (v := ?v11) rfl rfl (by kernel_rfl) (by kernel_rfl) (by kernel_rfl) (fun _ _ _ h => h) (Or.inl ⟨by rfl, ?hy11⟩) (by assumption) ?rest11
    case hy11 => (intro w hSw; (try dsimp only at hSw); go_simp; try with_reducible rfl)
    simp only [List.setIfInBounds_toArray, List.set_cons_zero, List.set_cons_succ]
    refine Obk.take_at (i := 12) (d := 19) (v := ?v12) rfl rfl (by kernel_rfl) (by kernel_rfl) (by kernel_rfl) (fun _ _ _ h => h) (Or.inl ⟨by rfl, ?hy12⟩) (by assumption) ?rest12
    case hy12 => (intro w hSw; (try dsimp only at hSw); go_simp; try with_reducible rfl)
    simp only [List.setIfInBounds_toArray, List.set_cons_zero, List.set_cons_succ]
    refine wpAnyH_ready (rs := [9]) (by kernel_rfl) (by simp) ?_
    refine AllReadyH.cons rfl (fun K hK => ?_) AllReadyH.nil
    go_simp
    go_at_call 89
    refine (HW _ (below_drew (Below.refl _ _))).mono ?_
    rintro e w1 ⟨rfl, hB1⟩
    have hB1 : Below w.heap.size w w1 := (below_drew (Below.refl w.heap.size w)).trans hB1
    have S1 := (HL.out.below hB1).seven
    refine hK _ _ S1 (fun hHeld2 => ?_)
    clear hK hHeld
    try simp only [Act.put, List.setIfInBounds_toArray, List.set_cons_zero, List.set_cons_succ]
    refine Obk.take_at (i := 13) (d := 20) (v := ?v13) rfl rfl (by kernel_rfl) (by kernel_rfl) (by kernel_rfl) (fun _ _ _ h => h) (Or.inl ⟨by rfl, ?hy13⟩) (by assumption) ?rest13
    case hy13 => (intro w hSw; (try dsimp only at hSw); go_simp; try with_reducible rfl)
    simp only [List.setIfInBounds_toArray, List.set_cons_zero, List.set_cons_succ]
    refine Obk.take_at (i := 14) (d := 21) (v := ?v14) rfl rfl (by kernel_rfl) (by kernel_rfl) (by kernel_rfl) (fun _ _ _ h => h) (Or.inl ⟨by rfl, ?hy14⟩) (by assumption) ?rest14
    case hy14 => (intro w hSw; (try dsimp only at hSw); go_simp; try with_reducible rfl)
    simp only [List.setIfInBounds_toArray, List.set_cons_zero, List.set_cons_succ]
    refine Obk.take_at (i := 15) (d := 22) (v := undef) rfl rfl (by kernel_rfl) (by kernel_rfl) (by kernel_rfl) (fun _ _ _ h => h) (Obk.unwanted_if (j := 14) (d := 21) rfl rfl rfl) (by assumption) ?rest15
    simp only [List.setIfInBounds_toArray, List.set_cons_zero, List.set_cons_succ]
    refine Obk.take_at (i := 16) (d := 23) (v := undef) rfl rfl (by kernel_rfl) (by kernel_rfl) (by kernel_rfl) (fun _ _ _ h => h) (Obk.unwanted_if (j := 14) (d := 21) rfl rfl rfl) (by assumption) ?rest16
    simp only [List.setIfInBounds_toArray, List.set_cons_zero, List.set_cons_succ]
    refine Obk.take_at (i := 17) (d := 24) (v := undef) rfl rfl (by kernel_rfl) (by kernel_rfl) (by kernel_rfl) (fun _ _ _ h => h) (Obk.unwanted_if (j := 14) (d := 21) rfl rfl rfl) (by assumption) ?rest17
    simp only [List.setIfInBounds_toArray, List.set_cons_zero, List.set_cons_succ]
    refine Obk.take_at (i := 18) (d := 25) (v := undef) rfl rfl (by kernel_rfl) (by kernel_rfl) (by kernel_rfl) (fun _ _ _ h => h) (Obk.unwanted_if (j := 14) (d := 21) rfl rfl rfl) (by assumption) ?rest18
    simp only [List.setIfInBounds_toArray, List.set_cons_zero, List.set_cons_succ]
    refine Obk.take_at (i := 19) (d := 26) (v := undef) rfl rfl (by kernel_rfl) (by kernel_rfl) (by kernel_rfl) (fun _ _ _ h => h) (Obk.unwanted_if (j := 14) (d := 21) rfl rfl rfl) (by assumption) ?rest19
    simp only [List.setIfInBounds_toArray, List.set_cons_zero, List.set_cons_succ]
    refine Obk.take_at (i := 20) (d := 27) (v := undef) rfl rfl (by kernel_rfl) (by kernel_rfl) (by kernel_rfl) (fun _ _ _ h => h) (Obk.unwanted_if (j := 14) (d := 21) rfl rfl rfl) (by assumption) ?rest20
    simp only [List.setIfInBounds_toArray, List.set_cons_zero, List.set_cons_succ]
    refine Obk.take_at (i := 21) (d := 28) (v := ?v21) rfl rfl (by kernel_rfl) (by kernel_rfl) (by kernel_rfl) (fun _ _ _ h => h) (Or.inl ⟨by rfl, ?hy21⟩) (by assumption) ?rest21
    case hy21 => (intro w hSw; (try dsimp only at hSw); go_simp; try with_reducible rfl)
    simp only [List.setIfInBounds_toArray, List.set_cons_zero, List.set_cons_succ]
    refine Obk.take_at (i := 22) (d := 6) (v := ?v22) rfl rfl (by kernel_rfl) (by kernel_rfl) (by kernel_rfl) (fun _ _ _ h => h) (Or.inl ⟨by rfl, ?hy22⟩) (by assumption) ?rest22
    case hy22 => (intro w hSw; (try dsimp only at hSw); go_simp; try with_reducible rfl)
    simp only [List.setIfInBounds_toArray, List.set_cons_zero, List.set_cons_succ]
    refine wpAnyH_done (by kernel_rfl) ?_ _
    go_wp2
    go_ret
    exact ⟨rfl, hB1⟩

/-- A key among values: the first, from a place on. -/
def KeyAt (ws : List Nat) (cnt : Nat) (k : Nat) (n : Int) (i : Nat) : Prop := i < cnt ∧ i % 2 = 0 ∧ (k = valK ws (2 * i) ∧ n = valN ws (2 * i)) ∧ ∀ j, j < i → j % 2 = 0 → ¬ (k = valK ws (2 * j) ∧ n = valN ws (2 * j))

def NoKey (ws : List Nat) (cnt : Nat) (k : Nat) (n : Int) : Prop := ∀ j, j < cnt → j % 2 = 0 → ¬ (k = valK ws (2 * j) ∧ n = valN ws (2 * j))

end Go.Proofs.YtkombdkhodjckaaGreat

namespace Go.Proofs.YtkombdkhodjckaaGreat
set_option linter.unusedVariables false
set_option linter.unusedSimpArgs false
open Go.RowKit

variable {n₀ bh b lim used : Nat} {vw vb : Value} {w : World} {M : List Ob}

theorem run_store_func {P : Program} {w : World} {a : Addr} {f : Fn} {x y : Array Value} {m : Mode} : (store a (.func f x y) m).run P w = stored P w a (.func f x y) m := run_store P w a _ m rfl
attribute [local go_sem] run_store_func

set_option maxRecDepth 20000 in
set_option maxHeartbeats 1000000 in
theorem keyLike_plain (cnt room inn k : Nat) (n : Int) (hk : k ≠ 3) (hk0 : k ≠ 0) (w : World) :
    Calls Tryz.prog 99 #[mem bh, .agg #[.int .i64 cnt, .int .i64 room, .int .i64 inn, .int .i64 0], .agg #[.int .u8 k, .int .i64 n]] w fun e w' => ∃ Bm Bb Bk Bl Ba, e = .returned (.func (.func 119) #[] #[.pointer (some ⟨Bm, 0, none⟩), .pointer (some ⟨Bb, 0, none⟩), .pointer (some ⟨Bk, 0, none⟩), .pointer (some ⟨Bl, 0, none⟩)]) ∧
      LikeAt w' Bm Bb Bk Bl Ba bh cnt room inn k n ∧ Below w.heap.size w w' := by
  have H1 := fun w => like_plain (bh := bh) k n hk hk0 w
  have hk1 : ((k : Int) == 0) = false := by simp; omega
  have hk3 : ((k : Int) == 3) = false := by simp; omega
  unfold mem at H1 ⊢
  clear hk hk0
  go_enter Tryz.func99, Tryz.ntmps99
  go_wp2_with (first
    | (go_at_call 117; refine (H1 _).mono ?_; clear H1; rintro e w1 ⟨Ba, hBa, rfl, gBa, hB1⟩; obtain ⟨m1, m2, m3, hBz⟩ := later3o hB1
       have k3 := alloc_keeps m3 (.cells #[.func (.func 133) #[] #[.pointer (some ⟨Ba, 0, none⟩)]] 63)
       have ⟨x0, x1⟩ := cell_row2 k3))
  go_ret
  exact ⟨w.heap.size, w.heap.size + 1, w.heap.size + 1 + 1, w1.heap.size, Ba, rfl, ⟨alloc_keeps m1 _, alloc_keeps m2 _, alloc_keeps m3 _, heap_alloc_new w1 _, alloc_keeps gBa _⟩, hBz.alloc hBz.size _⟩

theorem wrap_back (W : Nat) (h : W < 18446744073709551616) : (W : Int) = IntKind.u64.wrap (wrap64 (W : Int)) := by
  rw [IntKind.wrap_u64]
  simp only [wrap64]
  omega

theorem word_told {ws : List Nat} {i k : Nat} {n : Int} (hW : ws.getD (i + 1) 0 < 18446744073709551616) (hk0 : k ≠ 0) (h : k = valK ws i ∧ n = valN ws i) : ((ws.getD (i + 1) 0 : Nat) : Int) = IntKind.u64.wrap n := by
  obtain ⟨h1, rfl⟩ := h
  unfold valK at h1
  unfold valN
  split at h1
  · rename_i hc
    rw [if_pos hc]
    exact wrap_back _ hW
  · exact (hk0 h1).elim

theorem keyLike2_at (h : Hp n₀ bh b vw vb w lim used M) {q : Ob} (hq : q ∈ M) (cnt room k : Nat) (n : Int) (hk0 : k ≠ 0) {Bm Bb Bk Bl Ba : Nat} (hL : LikeAt w Bm Bb Bk Bl Ba bh cnt room q.at_ k n) (i : Nat) (hi : i ≤ 1048576) :
    Calls Tryz.prog 119 #[.int .i64 i, .pointer (some ⟨Bm, 0, none⟩), .pointer (some ⟨Bb, 0, none⟩), .pointer (some ⟨Bk, 0, none⟩), .pointer (some ⟨Bl, 0, none⟩)] w fun e w' => e = .returned (.bool (decide (k = valK q.ws (2 * i) ∧ n = valN q.ws (2 * i)))) ∧ Below w.heap.size w w' := by
  obtain ⟨l, r, hM⟩ := List.append_of_mem hq
  have hlt : q.ws.getD (2 * i + 1) 0 < 18446744073709551616 := by
    have := h
    rw [hM] at this
    exact this.getD_lt _
  refine keyLike2_in hL i hi (W := q.ws.getD (2 * i + 1) 0) (fun w' hB => ?_) (fun w' hB => ?_) (word_told hlt hk0)
  · have := h.below hB
    rw [hM] at this
    exact oword_in this (2 * i + 1)
  · have := value_at (h.below hB) hq cnt room 0 i (by omega) hi
    rw [Nat.zero_add] at this
    exact this

set_option maxRecDepth 20000 in
set_option maxHeartbeats 1000000 in
theorem keyAt_plain (h : Hp n₀ bh b vw vb w lim used M) {q : Ob} (hq : q ∈ M) (cnt room k : Nat) (n : Int) (hk : k ≠ 3) (hk0 : k ≠ 0) (hl : 2 * cnt ≤ q.ws.length) :
    Calls Tryz.prog 58 #[mem bh, .agg #[.int .i64 cnt, .int .i64 room, .int .i64 q.at_, .int .i64 0], .agg #[.int .u8 k, .int .i64 n]] w fun e w' => ((∃ i : Nat, KeyAt q.ws cnt k n i ∧ e = .returned (.tuple #[.int .i64 i, .bool true])) ∨ (NoKey q.ws cnt k n ∧ ∃ i : Int, e = .returned (.tuple #[.int .i64 i, .bool false]))) ∧ Below w.heap.size w w' := by
  have h20 := at_lt h hq
  have H1 := fun w => keyLike_plain (bh := bh) cnt room q.at_ k n hk hk0 w
  have HK0 : Hid _ := hk0
  unfold mem at H1 ⊢
  clear hk hk0
  go_enter Tryz.func58, Tryz.ntmps58
  go_wp2_with (first
    | (go_at_call 99; refine (H1 _).mono ?_; clear H1; rintro e w1 ⟨Bm, Bb, Bk, Bl, Ba, rfl, hL, hB1⟩; obtain ⟨m1, m2, m3, hBz⟩ := later3o hB1))
  go_loopw [9] (fun p wr => ∃ i : Nat, p = .int .i64 i ∧ i % 2 = 0 ∧ i ≤ cnt + 1 ∧ Below w1.heap.size w1 wr ∧ ∀ j, j < i → j % 2 = 0 → ¬ (k = valK q.ws (2 * j) ∧ n = valN q.ws (2 * j))) (fun p _ => cnt + 2 - (intOf p).toNat)
  case atStart => exact ⟨0, rfl, rfl, by omega, Below.refl _ _, by omega⟩
  case round =>
    obtain ⟨i, rfl, hp, hic, hB, hno⟩ := hrel
    have hBr := hBz.trans (hB.mono hBz.size)
    have m2' := (hB.block _ (Array.getElem?_eq_some_iff.1 m2).1).trans m2
    have ⟨⟨c0, c1, c2, c3⟩, _⟩ := cell_row4 m2'
    have HN : Hid _ := hno
    clear hno
    by_cases hi : i < cnt
    · have hi' : (i : Int) < (cnt : Int) := by omega
      have H2 := keyLike2_at (h.below hBr) hq cnt room k n HK0.out (hL.below hB) i (by omega)
      by_cases hc : k = valK q.ws (2 * i) ∧ n = valN q.ws (2 * i)
      · rw [show decide (k = valK q.ws (2 * i) ∧ n = valN q.ws (2 * i)) = true by simpa using hc] at H2
        have HC : Hid _ := hc
        clear hc
        go_wp2_with (first
          | (go_at_call 119; refine H2.mono ?_; clear H2; rintro e w2 ⟨rfl, hB2⟩))
        go_ret2
        exact ⟨.inl ⟨i, ⟨hi, hp, HC.out, HN.out⟩, rfl⟩, hBr.trans (hB2.mono hBr.size)⟩
      · rw [show decide (k = valK q.ws (2 * i) ∧ n = valN q.ws (2 * i)) = false by simpa using hc] at H2
        have HC : Hid _ := hc
        clear hc
        go_wp2_with (first
          | (go_at_call 119; refine H2.mono ?_; clear H2; rintro e w2 ⟨rfl, hB2⟩))
        go_roundw
        case rel =>
          refine ⟨i + 2, by simp, by omega, by omega, hB.trans (hB2.mono hB.size), fun j hj hj2 => ?_⟩
          by_cases hji : j < i
          · exact HN.out j hji hj2
          · have : j = i := by omega
            rw [this]; exact HC.out
        case measure => simp [intOf]; omega
    · have hi' : ¬ (i : Int) < (cnt : Int) := by omega
      go_wp2
      go_ret2
      exact ⟨.inr ⟨fun j hj hj2 => HN.out j (by omega) hj2, 0, rfl⟩, hBr⟩

end Go.Proofs.YtkombdkhodjckaaGreat
