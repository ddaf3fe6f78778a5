/- lastAhead. -/
import Derived.Test.YtampilfebmfhaaaGreatDoorIter
namespace Go.Proofs.YtampilfebmfhaaaGreatDoor
open Go.RowKit Go.Shelf

attribute [local go_sem] Oper.semAt_some

variable {n₀ b : Nat} {vw vb : Value} {w : World} {A : Ar}

theorem cell_new_l (w : World) (v : Value) (t : TypeId) : (w.alloc (.cells #[v] t)).cell? ⟨w.heap.size, 0, none⟩ = some v ∧ (w.alloc (.cells #[v] t)).frozen? ⟨w.heap.size, 0, none⟩ = false :=
  ⟨by rw [cell_of_row _ w.heap.size 0 _ _ _ (heap_alloc_new w _)]; rfl, frozen_of_row _ w.heap.size 0 _ _ (heap_alloc_new w _)⟩

theorem cell_alloc_l {w : World} {a : Addr} {v : Value} (o : Obj) (h : w.cell? a = some v) : (w.alloc o).cell? a = some v :=
  (World.cell?_of_block (Below.heap_alloc w o a.block (World.block_lt_of_cell? w a h))).trans h

theorem frozen_alloc_l {w : World} {a : Addr} {v : Value} (o : Obj) (h : w.cell? a = some v) (hf : w.frozen? a = false) : (w.alloc o).frozen? a = false :=
  (World.frozen?_of_block (Below.heap_alloc w o a.block (World.block_lt_of_cell? w a h))).trans hf

theorem fins {M : Nat} : ∀ (L : List Nat), (∀ i ∈ L, i < M) → ∃ xs : List (Fin M), xs.map (·.val) = L
  | [], _ => ⟨[], rfl⟩
  | i :: r, h => by
    obtain ⟨xs, hx⟩ := fins r (fun j hj => h j (List.mem_cons_of_mem _ hj))
    exact ⟨⟨i, h i (by simp)⟩ :: xs, by simp [hx]⟩

theorem KpW.putObj {Ba Bx : Nat} {S : Nat} (hb : b < S) (hv : ∀ k, vw.ownBlock = some k → k < S) (ha : Ba < S) (hx : Bx < S) (W : World) (l : Nat) (o' : Obj) (hl : S ≤ l) : KpW b vw Ba Bx W (W.putObj l o') :=
  ⟨World.putObj_heap_other (by omega), fun k e => World.putObj_heap_other (by have := hv k e; omega), World.putObj_heap_other (by omega), World.putObj_heap_other (by omega)⟩

theorem find_none {L : List Nat} {p : Nat} (h : ∀ y ∈ L, ¬ y < p) : L.find? (fun y => decide (y < p)) = none := by
  rw [List.find?_eq_none]; intro y hy; simpa using h y hy

theorem find_pre {L q : List Nat} {x p : Nat} (hL : q ++ [x] <+: L) (hq : ∀ y ∈ q, ¬ y < p) (hx : x < p) : L.find? (fun y => decide (y < p)) = some x := by
  obtain ⟨r, rfl⟩ := hL
  rw [List.append_assoc, List.find?_append, find_none hq]
  simp [hx]

set_option maxRecDepth 100000 in
set_option maxHeartbeats 2000000 in
theorem lastAhead_in (h : IsAr n₀ b vw vb w A) (at_ : Option Nat) (L : List Nat) (hL : BackOf A.ws at_ L) (place : Nat) :
    Calls Tryz.prog 174 #[.pointer (some ⟨b, 0, none⟩), .int .i64 (optI at_), .int .i64 place] w fun e W' => e = .returned (.int .i64 (optI (L.find? (fun y => decide (y < place))))) ∧ Below w.heap.size w W' := by
  obtain ⟨xs, rfl⟩ := fins (M := A.ws.length) L hL.lt
  refine (callsIn_wide (n := 3)).1 ?_
  have h1 : 1 ≤ 3 := by omega
  refine callsIn_of_wp_marks Tryz.func174 rfl trivial ?_ rfl
  simp only [Tryz.ntmps174, List.size_toArray, List.length_cons, List.length_nil, Nat.reduceAdd, Nat.reduceSub, Array.replicate_succ, Array.replicate_zero, List.push_toArray, List.append_toArray, List.nil_append, List.cons_append]
  gi_wp2_with (refine ⟨trivial, ?_⟩; gi_at_call 127; refine (callsIn_wide.2 (back_in _ _)).mono ?_; rintro e w' ⟨rfl, rfl⟩)
  have c0 := cell_new_l w (.int .i64 place) 2
  have c1 := cell_new_l (w.alloc (.cells #[.int .i64 place] 2)) (.int .i64 0) 2
  have c2 := cell_new_l ((w.alloc (.cells #[.int .i64 place] 2)).alloc (.cells #[.int .i64 0] 2)) (.pointer (some ⟨b, 0, none⟩)) 111
  have c3 := cell_new_l (((w.alloc (.cells #[.int .i64 place] 2)).alloc (.cells #[.int .i64 0] 2)).alloc (.cells #[.pointer (some ⟨b, 0, none⟩)] 111)) (.int .i64 (optI at_)) 2
  simp only [World.size_alloc] at c1 c2 c3
  have hB0 : Below w.heap.size w ((((w.alloc (.cells #[.int .i64 place] 2)).alloc (.cells #[.int .i64 0] 2)).alloc (.cells #[.pointer (some ⟨b, 0, none⟩)] 111)).alloc (.cells #[.int .i64 (optI at_)] 2)) :=
    ((((Below.refl _ w).alloc (Nat.le_refl _) _).alloc (by simp) _).alloc (by simp; omega) _).alloc (by simp; omega) _
  have hW := (h.below hB0).toW
  have hbl := h.lt
  have hvl := fun k e => (h.rw.lt k e).2
  refine wpIn_rangeFunc_ownF rfl h1 (gf := 187) (lb := #[.pointer (some ⟨w.heap.size + 1 + 1 + 1, 0, none⟩), .pointer (some ⟨w.heap.size + 1 + 1, 0, none⟩)]) rfl trivial (enters_of Tryz.func187 (by kernel_rfl) rfl)
    (back1_stops 2 (w.heap.size + 1 + 1) (w.heap.size + 1 + 1 + 1) A.ws.length (by omega) at_ xs hL hW (by simp; omega) c3.1 (cell_alloc_l _ c2.1)) (fun h k => h.trans k) (fun W l o o' hl _ _ _ => KpW.putObj (S := w.heap.size + 1 + 1 + 1 + 1) (by omega) (fun k e => by have := hvl k e; omega) (by omega) (by omega) W l o' (by simpa using hl)) (Below.refl _ _) (fun _ => rfl)
    (fun pre W => ((∀ y ∈ pre, ¬ y.val < place) ∧ W.cell? ⟨w.heap.size, 0, none⟩ = some (.int .i64 place) ∧ W.cell? ⟨w.heap.size + 1, 0, none⟩ = some (.int .i64 0) ∧ W.frozen? ⟨w.heap.size + 1, 0, none⟩ = false) ∧ Below w.heap.size w W)
    (fun c pre W => (c = .ret ∧ ∃ (q : List (Fin A.ws.length)) (x : Fin A.ws.length), pre = q ++ [x] ∧ (∀ y ∈ q, ¬ y.val < place) ∧ x.val < place ∧ W.cell? ⟨w.heap.size + 1, 0, none⟩ = some (.int .i64 x.val)) ∧ Below w.heap.size w W)
    (OwnFrom.and (Own.from (fun s A B row hs hg hr => ⟨hs.1, cell_kept hs.2.1 hg hr, cell_kept hs.2.2.1 hg hr, (frozen_kept hs.2.2.1 hg hr).trans hs.2.2.2⟩) _) (ownFrom_below (Nat.le_refl _) (by simp; omega)))
    (fun c => OwnFrom.and (Own.from (fun s A B row hs hg hr => by obtain ⟨e, q, x, e2, h3, h4, h5⟩ := hs; exact ⟨e, q, x, e2, h3, h4, cell_kept h5 hg hr⟩) _) (ownFrom_below (Nat.le_refl _) (by simp; omega)))
    ⟨⟨by simp, cell_alloc_l _ (cell_alloc_l _ (cell_alloc_l _ c0.1)), cell_alloc_l _ (cell_alloc_l _ c1.1), frozen_alloc_l _ (cell_alloc_l _ c1.1) (frozen_alloc_l _ c1.1 c1.2)⟩, hB0⟩
    (fun x => { tmps := #[.pointer (some ⟨b, 0, none⟩), .int .i64 (optI at_), .int .i64 place, undef, undef, .pointer (some ⟨w.heap.size, 0, none⟩), .pointer (some ⟨w.heap.size + 1, 0, none⟩), .int .i64 x.val, .pointer (some ⟨b, 0, none⟩), .int .i64 (optI at_), .func (.func 187) #[] #[.pointer (some ⟨w.heap.size + 1 + 1 + 1, 0, none⟩), .pointer (some ⟨w.heap.size + 1 + 1, 0, none⟩)], .int .i64 x.val, undef, undef, undef, undef], defers := [] }) ?assign ?body ?done ?stop
  case assign =>
    intro l x W K hK
    gi_wp2
    exact hK
  case body =>
    rintro l pre x W ⟨⟨hp, hcw, hcr, hfr⟩, hB⟩ _
    by_cases hx : x.val < place
    · gi_wp2
      exact ⟨KeepsOthers.setCell _ _ _, ⟨rfl, pre, x, rfl, hp, hx, World.cell?_setCell_same' _ _ _ (by rw [hcr]; rfl)⟩, hB.setCell (p := ⟨w.heap.size + 1, 0, none⟩) (by simp) _⟩
    · gi_wp2
      exact ⟨KeepsOthers.refl _, KpW.refl _ _ _ _ _, ⟨fun y hy => (List.mem_append.1 hy).elim (hp y) (fun e => by simp at e; subst e; exact hx), hcw, hcr, hfr⟩, hB⟩
  case done =>
    rintro D ys W hD rfl ⟨⟨hne, _, hcr, hfr⟩, hB⟩ hK
    gi_wp2
    have hK' := (KeepsOthers.setCell W ⟨w.heap.size + 1, 0, none⟩ (.int .i64 (-1))).same D _ hK rfl
    refine ⟨by simp, .inl ⟨_, _, rfl, run_takeDeferred hK', ?_⟩⟩
    have hc5 := cell_kept (World.cell?_setCell_same' W ⟨w.heap.size + 1, 0, none⟩ (.int .i64 (-1)) (by rw [hcr]; rfl)) (grownBy_putObj' _ D (.deferred none)) (fun r e => by cases e; exact ⟨_, hK', rfl⟩)
    refine ⟨.int .i64 (-1), ?_, ?_, (hB.setCell (p := ⟨w.heap.size + 1, 0, none⟩) (by simp) _).trans (belowK_b (w := w) (Nat.le_refl _) _ D _ _ (by simp at hD; omega) hK' rfl rfl)⟩
    · simp [results, Tryz.f174, go_sem, hc5]
    · rw [find_none (by intro y hy; obtain ⟨z, hz, rfl⟩ := List.mem_map.1 hy; exact hne z hz)]; rfl
  case stop =>
    rintro D c pre W hD hpre ⟨⟨rfl, q, x, rfl, hq, hx, hcr⟩, hB⟩ hK
    gi_wp2
    refine ⟨by simp, .inl ⟨_, _, rfl, run_takeDeferred hK, ?_⟩⟩
    have hc5 := cell_kept hcr (grownBy_putObj' _ D (.deferred none)) (fun r e => by cases e; exact ⟨_, hK, rfl⟩)
    refine ⟨.int .i64 x.val, ?_, ?_, hB.trans (belowK_b (w := w) (Nat.le_refl _) W D _ _ (by simp at hD; omega) hK rfl rfl)⟩
    · simp [results, Tryz.f174, go_sem, hc5]
    · rw [find_pre (q := q.map (·.val)) (x := x.val) (by obtain ⟨r, hr⟩ := hpre; exact ⟨r.map (·.val), by rw [← hr]; simp⟩) (by intro y hy; obtain ⟨z, hz, rfl⟩ := List.mem_map.1 hy; exact hq z hz) hx]; rfl

end Go.Proofs.YtampilfebmfhaaaGreatDoor
