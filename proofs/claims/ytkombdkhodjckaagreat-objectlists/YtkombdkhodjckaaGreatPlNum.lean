/- Plain's tour over one row of plain values: meet, through. -/
import Derived.Test.YtkombdkhodjckaaGreatPlMap
import Derived.Test.YtkombdkhodjckaaGreatPlEach
import Derived.Test.YtkombdkhodjckaaGreatLsOps
import Derived.Laws.EntriesVeiled
namespace Go.Proofs.YtkombdkhodjckaaGreat
set_option linter.unusedVariables false
set_option linter.unusedSimpArgs false
open Go.RowKit Go.Maps

variable {n₀ bh b lim used : Nat} {vw vb : Value} {w : World} {M : List Ob} {at_ room inn : Nat} {vs : List Vl}

/-- The tour in memory. -/
def Tour (w : World) (g bh mb : Nat) (todo : Value) : Prop := w.heap[g]? = some (.cells #[.pointer (some ⟨bh, 0, none⟩), .map (some mb), todo] 66 (0, 0))

theorem Tour.kept {g mb : Nat} {todo : Value} (h : Tour w g bh mb todo) {w' : World} (hk : w'.heap[g]? = w.heap[g]?) : Tour w' g bh mb todo := hk.trans h

theorem Tour.lt {g mb : Nat} {todo : Value} (h : Tour w g bh mb todo) : g < w.heap.size := (Array.getElem?_eq_some_iff.1 h).1

theorem Tour.below {g mb : Nat} {todo : Value} (h : Tour w g bh mb todo) {w' : World} (hB : Below w.heap.size w w') : Tour w' g bh mb todo := h.kept (hB.block _ h.lt)

theorem cell_row3f {g : Nat} {x y z : Value} {t : TypeId} (h : w.heap[g]? = some (.cells #[x, y, z] t (0, 0))) : (w.cell? ⟨g, 0, none⟩ = some x ∧ w.cell? ⟨g, 1, none⟩ = some y ∧ w.cell? ⟨g, 2, none⟩ = some z) ∧ w.frozen? ⟨g, 0, none⟩ = false ∧ w.frozen? ⟨g, 1, none⟩ = false ∧ w.frozen? ⟨g, 2, none⟩ = false := by
  refine ⟨⟨?_, ?_, ?_⟩, frozen_of_row w g 0 _ _ h, frozen_of_row w g 1 _ _ h, frozen_of_row w g 2 _ _ h⟩ <;> simp [World.cell?, h]

theorem Tour.cells {g mb : Nat} {todo : Value} (h : Tour w g bh mb todo) : (w.cell? ⟨g, 0, none⟩ = some (.pointer (some ⟨bh, 0, none⟩)) ∧ w.cell? ⟨g, 1, none⟩ = some (.map (some mb)) ∧ w.cell? ⟨g, 2, none⟩ = some todo) ∧ w.frozen? ⟨g, 0, none⟩ = false ∧ w.frozen? ⟨g, 1, none⟩ = false ∧ w.frozen? ⟨g, 2, none⟩ = false := cell_row3f h

set_option maxRecDepth 20000 in
set_option maxHeartbeats 1000000 in
/-- A value that tells no object. -/
theorem meet_plain (g k : Nat) (n : Int) (hk : k < 3) (w : World) : Calls Tryz.prog 65 #[.pointer (some ⟨g, 0, none⟩), .agg #[.int .u8 k, .int .i64 n]] w fun e w' => e = .returned (.bool true) ∧ Below w.heap.size w w' := by
  have ht := otells_in k
  have e0 : decide (3 ≤ k ∧ k ≤ 7) = false := by simp; omega
  simp only [e0] at ht
  clear e0
  go_enter Tryz.func65, Tryz.ntmps65
  go_wp2_with (first
    | (go_at_call 70; refine (ht _).mono ?_; rintro e w' ⟨rfl, hw'⟩; obtain rfl := hw'.symm))
  go_ret
  exact ⟨rfl, below1 w _⟩

set_option maxRecDepth 20000 in
set_option maxHeartbeats 1000000 in
theorem through1_plain (h : Hp n₀ bh b vw vb w lim used M) {g B0 B1 : Nat} (i k : Nat) (n : Int) (hk : k < 3) (hm : MayHeld M k n)
    (h0 : w.heap[B0]? = some (.cells #[.func (.func 26) #[mem bh] #[]] 63 (0, 0))) (h1 : w.heap[B1]? = some (.cells #[.pointer (some ⟨g, 0, none⟩)] 111 (0, 0))) :
    Calls Tryz.prog 102 #[.int .i64 i, .agg #[.int .u8 k, .int .i64 n], .pointer (some ⟨B0, 0, none⟩), .pointer (some ⟨B1, 0, none⟩)] w fun e w' => e = .returned (.bool true) ∧ Below w.heap.size w w' := by
  have hb := below1 w (.cells #[.int .u8 k, .int .i64 n] 29)
  have H1 := fun w' (hB : Below w.heap.size w w') => mayBeHeld_yes (h.below hB) k n hm
  have H2 := fun w' => meet_plain g k n hk w'
  have c0 := cell_row1 (alloc_keeps h0 (.cells #[.int .u8 k, .int .i64 n] 29))
  unfold mem at H1 h0 c0
  go_enter Tryz.func102, Tryz.ntmps102
  go_wp2_with (first
    | (go_at_call 26; refine (H1 _ hb).mono ?_; clear H1; rintro e w1 ⟨rfl, hB1⟩
       have m1 := (hB1.block _ (by simp)).trans (heap_alloc_new w (.cells #[.int .u8 k, .int .i64 n] 29))
       have m2 := (hB1.block _ (Array.getElem?_eq_some_iff.1 (alloc_keeps h1 (.cells #[.int .u8 k, .int .i64 n] 29))).1).trans (alloc_keeps h1 (.cells #[.int .u8 k, .int .i64 n] 29))
       have ⟨d0, d1⟩ := cell_row2 m1
       have d2 := cell_row1 m2)
    | (go_at_call 65; refine (H2 _).mono ?_; clear H2; rintro e w2 ⟨rfl, hB2⟩))
  go_ret
  have hBz := hb.trans (hB1.mono hb.size)
  exact ⟨rfl, hBz.trans (hB2.mono hBz.size)⟩

set_option maxRecDepth 20000 in
set_option maxHeartbeats 2000000 in
/-- A row of plain values is gone through. -/
theorem through_plain (r : Rw M at_ 4 vs room inn) (h : Hp n₀ bh b vw vb w lim used M) (hl : vs.length ≤ 131072) (ha : at_ ≤ 1048576) (hx : Bd.fits ⟨vs.length, room, inn⟩) (hv : ∀ v ∈ vs, v.k < 3 ∧ MayHeld M v.k v.n) {g mb : Nat} {todo : Value} (ht : Tour w g bh mb todo) (hm : Met1 w mb at_ ⟨vs.length, room, inn⟩) :
    Calls Tryz.prog 66 #[.pointer (some ⟨g, 0, none⟩), .agg #[.int .u8 4, .int .i64 at_]] w fun e w' => e = .returned (.bool true) ∧ Below w.heap.size w w' := by
  have hb3 : Below w.heap.size w (((w.alloc (.cells #[.pointer (some ⟨g, 0, none⟩)] 111)).alloc (.cells #[.int .u8 4, .int .i64 at_] 29)).alloc (.cells #[.func (.func 26) #[.agg #[.pointer (some ⟨bh, 0, none⟩)]] #[]] 63)) := allocs_below [_, _, _] w
  have g3 := allocs_get [Obj.cells #[.pointer (some ⟨g, 0, none⟩)] 111, .cells #[.int .u8 4, .int .i64 at_] 29, .cells #[.func (.func 26) #[.agg #[.pointer (some ⟨bh, 0, none⟩)]] #[]] 63] w
  obtain ⟨a0, a1, a2⟩ := (ht.below hb3).cells.1
  obtain ⟨b0, b1, b2⟩ := (ht.below (below2' w (.cells #[.pointer (some ⟨g, 0, none⟩)] 111) (.cells #[.int .u8 4, .int .i64 at_] 29))).cells.1
  have m3 := hm.look ha hx
  have hml := hm.lt
  have HE : ∀ W, Below w.heap.size w W → W.heap[w.heap.size + 2]? = some (.cells #[.func (.func 26) #[mem bh] #[]] 63 (0, 0)) → W.heap[w.heap.size]? = some (.cells #[.pointer (some ⟨g, 0, none⟩)] 111 (0, 0)) →
      Calls Tryz.prog 62 #[mem bh, .agg #[.int .i64 vs.length, .int .i64 room, .int .i64 inn, .int .i64 0], .func (.func 102) #[] #[.pointer (some ⟨w.heap.size + 2, 0, none⟩), .pointer (some ⟨w.heap.size, 0, none⟩)]] W fun e w' => e = .returned (.bool true) ∧ Below W.heap.size W w' := fun W hB e0 e1 => by
    refine (each_through1 bh vs.length room inn 0 (by omega) (w.heap.size + 2) w.heap.size (fun _ W' => Below W.heap.size W W') (fun _ _ => False) (fun i => (vs.getD i ⟨0, 0⟩).k) (fun i => (vs.getD i ⟨0, 0⟩).n) W (Below.refl _ _) (fun i w' w'' h1 h2 => h1.trans (h2.mono h1.size)) (fun i w' hi hR => ?_) (fun i w' hi hR => ?_)).mono ?_
    · have hg : vs[i]? = some (vs.getD i ⟨0, 0⟩) := by rw [List.getD_eq_getElem?_getD, List.getElem?_eq_getElem hi]; rfl
      refine (r.value ((h.below hB).below hR) hg (by omega)).mono ?_
      rintro e w'' ⟨he, hB'⟩
      exact ⟨he, hR.trans (hB'.mono hR.size), KeepT.below hB'⟩
    · have hg : vs[i]? = some (vs.getD i ⟨0, 0⟩) := by rw [List.getD_eq_getElem?_getD, List.getElem?_eq_getElem hi]; rfl
      have hvi := hv _ (List.mem_of_getElem? hg)
      refine (through1_plain ((h.below hB).below hR) i _ _ hvi.1 hvi.2 ((hR.block _ (Array.getElem?_eq_some_iff.1 e0).1).trans e0) ((hR.block _ (Array.getElem?_eq_some_iff.1 e1).1).trans e1)).mono ?_
      rintro e w'' ⟨he, hB'⟩
      exact ⟨.inl ⟨he, hR.trans (hB'.mono hR.size)⟩, KeepT.below hB'⟩
    · rintro e w' ⟨⟨rfl, hR⟩ | ⟨_, _, _, hF⟩, _⟩
      · exact ⟨rfl, hR⟩
      · exact hF.elim
  have d0 := cell_row1 (g3 0 _ rfl)
  have ⟨d1, d2⟩ := cell_row2 (g3 1 _ rfl)
  have hg3 : g < (((w.alloc (.cells #[.pointer (some ⟨g, 0, none⟩)] 111)).alloc (.cells #[.int .u8 4, .int .i64 at_] 29)).alloc (.cells #[.func (.func 26) #[.agg #[.pointer (some ⟨bh, 0, none⟩)]] #[]] 63)).heap.size := Nat.lt_of_lt_of_le ht.lt hb3.size
  have FCS : ∀ W, Below (((w.alloc (.cells #[.pointer (some ⟨g, 0, none⟩)] 111)).alloc (.cells #[.int .u8 4, .int .i64 at_] 29)).alloc (.cells #[.func (.func 26) #[.agg #[.pointer (some ⟨bh, 0, none⟩)]] #[]] 63)).heap.size (((w.alloc (.cells #[.pointer (some ⟨g, 0, none⟩)] 111)).alloc (.cells #[.int .u8 4, .int .i64 at_] 29)).alloc (.cells #[.func (.func 26) #[.agg #[.pointer (some ⟨bh, 0, none⟩)]] #[]] 63)) W → W.cell? ⟨w.heap.size, 0, none⟩ = some (.pointer (some ⟨g, 0, none⟩)) ∧ W.cell? ⟨w.heap.size + 1, 1, none⟩ = some (.int .i64 at_) ∧ W.cell? ⟨g, 0, none⟩ = some (.pointer (some ⟨bh, 0, none⟩)) ∧ W.cell? ⟨g, 1, none⟩ = some (.map (some mb)) ∧ (Instr.lookup 64 (.map (some mb)) (.int .i64 (at_ : Int)) false).run Tryz.prog W = .ok (.agg #[.int .i64 vs.length, .int .i64 room, .int .i64 inn, .int .i64 0]) W := fun W hB => by
    obtain ⟨gg, hBz⟩ := laterN [Obj.cells #[.pointer (some ⟨g, 0, none⟩)] 111, .cells #[.int .u8 4, .int .i64 at_] 29, .cells #[.func (.func 26) #[.agg #[.pointer (some ⟨bh, 0, none⟩)]] #[]] 63] hB
    exact ⟨cell_row1 (gg 0 _ rfl), (cell_row2 (gg 1 _ rfl)).2, (ht.below hBz).cells.1.1, (ht.below hBz).cells.1.2.1, m3 W (hBz.block _ hml)⟩
  have hD := below_drew (Below.refl (((w.alloc (.cells #[.pointer (some ⟨g, 0, none⟩)] 111)).alloc (.cells #[.int .u8 4, .int .i64 at_] 29)).alloc (.cells #[.func (.func 26) #[.agg #[.pointer (some ⟨bh, 0, none⟩)]] #[]] 63)).heap.size (((w.alloc (.cells #[.pointer (some ⟨g, 0, none⟩)] 111)).alloc (.cells #[.int .u8 4, .int .i64 at_] 29)).alloc (.cells #[.func (.func 26) #[.agg #[.pointer (some ⟨bh, 0, none⟩)]] #[]] 63)))
  have S0 := FCS _ hD
  have HE0 := HE (((w.alloc (.cells #[.pointer (some ⟨g, 0, none⟩)] 111)).alloc (.cells #[.int .u8 4, .int .i64 at_] 29)).alloc (.cells #[.func (.func 26) #[.agg #[.pointer (some ⟨bh, 0, none⟩)]] #[]] 63)).drew (below_drew hb3) (g3 2 _ rfl) (g3 0 _ rfl)
  unfold mem at HE0
  clear r hv hx m3 HE
  go_enter Tryz.func66, Tryz.ntmps66
  go_wp2
  go_region_held3 (fun W => W.cell? ⟨w.heap.size, 0, none⟩ = some (.pointer (some ⟨g, 0, none⟩)) ∧ W.cell? ⟨w.heap.size + 1, 1, none⟩ = some (.int .i64 at_) ∧ W.cell? ⟨g, 0, none⟩ = some (.pointer (some ⟨bh, 0, none⟩)) ∧ W.cell? ⟨g, 1, none⟩ = some (.map (some mb)) ∧ (Instr.lookup 64 (.map (some mb)) (.int .i64 (at_ : Int)) false).run Tryz.prog W = .ok (.agg #[.int .i64 vs.length, .int .i64 room, .int .i64 inn, .int .i64 0]) W) (first | with_reducible exact S0 | with_reducible exact S1 | go_keep) ((first
    | (go_at_call 62; (with_reducible refine HE0.mono ?_); rintro e w1 ⟨rfl, hB1⟩; have hB1' := hD.trans (hB1.mono hD.size); have S1 := FCS _ hB1')))
  all_goals
    go_wp2
    go_ret
    exact ⟨rfl, hb3.trans (hB1'.mono hb3.size)⟩

end Go.Proofs.YtkombdkhodjckaaGreat

namespace Go.Proofs.YtkombdkhodjckaaGreat
set_option linter.unusedVariables false
set_option linter.unusedSimpArgs false
open Go.RowKit Go.Maps

variable {n₀ bh b lim used : Nat} {vw vb : Value} {w : World} {M : List Ob}

set_option maxRecDepth 20000 in
set_option maxHeartbeats 1000000 in
theorem numbered_one {gq c p : Nat} (hp : p ≤ 1048576) (hc : w.cell? ⟨gq, 0, none⟩ = some (.int .i64 (p : Int))) (hgq : gq < w.heap.size) :
    Calls Tryz.prog 30 #[.slice (some ⟨gq, 0, none⟩) 1 c] w fun e w' => e = .returned (.map (some w.heap.size)) ∧ Num1 w' w.heap.size p ∧ Below w.heap.size w w' := by
  have hmm := @run_makeMap Tryz.prog
  have hb := below1 w (.map #[] 0)
  have m0 : (w.alloc (.map #[] 0)).ownsMap Tryz.prog 2 (plainElem Tryz.prog 2) w.heap.size 0 (DataW.map (H := Unit) []) := World.ownsMap_made _ _ _ _
  go_enter Tryz.func30, Tryz.ntmps30
  go_wp2_with (first | fail)
  clear hmm
  go_loopw [9] (fun t wr => ∃ i : Nat, t = .int .i64 i ∧ i ≤ 1 ∧ Below w.heap.size w wr ∧ ((i = 0 ∧ wr = w.alloc (.map #[] 0)) ∨ (i = 1 ∧ Num1 wr w.heap.size p))) (fun t _ => 1 - (Go.RowKit.intOf t).toNat)
  case atStart => exact ⟨0, rfl, by omega, hb, .inl ⟨rfl, rfl⟩⟩
  case round =>
    obtain ⟨i, rfl, hi, hB, ⟨rfl, rfl⟩ | ⟨rfl, hn⟩⟩ := hrel
    · obtain ⟨w2, hrun, hn, hg⟩ := num_put m0 hp (w.alloc (.map #[] 0)) rfl
      have hc1 : (w.alloc (.map #[] 0)).cell? ⟨gq, 0, none⟩ = some (.int .i64 (p : Int)) := (World.cell?_of_block (a := ⟨gq, 0, none⟩) (hb.block gq hgq)).trans hc
      go_wp2
      go_roundw
      case rel =>
        refine ⟨1, by simp, by omega, ?_, .inr ⟨rfl, hn⟩⟩
        exact hb.trans (rbelow_grown hg (fun q e => by cases e; exact Nat.le_refl _) (by simp))
      case measure => simp [Go.RowKit.intOf]
    · go_wp2
      go_ret
      exact ⟨rfl, hn, hB⟩

set_option maxRecDepth 20000 in
set_option maxHeartbeats 1000000 in
theorem numval_row {nb at_ : Nat} (ha : at_ ≤ 1048576) (hn : Num1 w nb at_) : Calls Tryz.prog 32 #[.map (some nb), .agg #[.int .u8 4, .int .i64 at_]] w fun e w' => e = .returned (.agg #[.int .u8 4, .int .i64 1]) ∧ Below w.heap.size w w' := by
  have hte := otells_in 4
  simp only [show ((4 : Nat) : Int) = 4 from rfl, show decide (3 ≤ 4 ∧ 4 ≤ 7) = true from rfl] at hte
  have hb2 := below2' w (.cells #[.int .u8 4, .int .i64 at_] 29) (.cells #[.int .u8 0, .int .i64 0] 29)
  have hrun := hn.look ha ((w.alloc (.cells #[.int .u8 4, .int .i64 at_] 29)).alloc (.cells #[.int .u8 0, .int .i64 0] 29)) (hb2.block _ hn.lt)
  have r0 := alloc_keeps (heap_alloc_new w (.cells #[.int .u8 4, .int .i64 at_] 29)) (.cells #[.int .u8 0, .int .i64 0] 29)
  have r1 := heap_two w (.cells #[.int .u8 4, .int .i64 at_] 29) (.cells #[.int .u8 0, .int .i64 0] 29)
  go_enter Tryz.func32, Tryz.ntmps32
  go_wp2_with (first
    | (go_at_call 70; refine (hte _).mono ?_; rintro e w' ⟨rfl, hw'⟩; obtain rfl := hw'.symm))
  refine bodyPost_ret (results_cell_row (by rfl) _ _ (w.heap.size + 1) 29 _ _ _ (by rfl) (heap_two w (.cells #[.int .u8 4, .int .i64 1] 29) (.cells #[.int .u8 4, .int .i64 1] 29)) Tryz.underlying29 (by rfl) infoVal3) (by rfl) ?_
  exact ⟨rfl, below2' _ _ _⟩

set_option maxRecDepth 20000 in
set_option maxHeartbeats 1000000 in
theorem numval_plain (nb k : Nat) (n : Int) (hk : k < 3) (w : World) : Calls Tryz.prog 32 #[.map (some nb), .agg #[.int .u8 k, .int .i64 n]] w fun e w' => e = .returned (.agg #[.int .u8 k, .int .i64 n]) ∧ Below w.heap.size w w' := by
  have hte := otells_in k
  have e0 : decide (3 ≤ k ∧ k ≤ 7) = false := by simp; omega
  simp only [e0] at hte
  clear e0
  go_enter Tryz.func32, Tryz.ntmps32
  go_wp2_with (first
    | (go_at_call 70; refine (hte _).mono ?_; rintro e w' ⟨rfl, hw'⟩; obtain rfl := hw'.symm))
  refine bodyPost_ret (results_cell_row (by rfl) _ _ (w.heap.size + 1) 29 _ _ _ (by rfl) (heap_two w (.cells #[.int .u8 k, .int .i64 n] 29) (.cells #[.int .u8 k, .int .i64 n] 29)) Tryz.underlying29 (by rfl) infoVal3) (by rfl) ?_
  exact ⟨rfl, below2' _ _ _⟩

end Go.Proofs.YtkombdkhodjckaaGreat
