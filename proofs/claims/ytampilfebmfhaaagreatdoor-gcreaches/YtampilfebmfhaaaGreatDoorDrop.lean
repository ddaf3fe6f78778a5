/- drop. -/
import Derived.Test.YtampilfebmfhaaaGreatDoorAhead
namespace Go.Proofs.YtampilfebmfhaaaGreatDoor
open Go.RowKit Go.Shelf

attribute [local go_sem] Oper.semAt_some

variable {n₀ b : Nat} {vw vb : Value} {w : World} {A : Ar}

def clr (bs : List Bool) (L : List Nat) : List Bool := L.foldl (fun s i => s.set i false) bs

@[simp] theorem clr_length : ∀ (L : List Nat) (bs : List Bool), (clr bs L).length = bs.length
  | [], _ => rfl
  | i :: r, bs => by rw [show clr bs (i :: r) = clr (bs.set i false) r from rfl, clr_length r]; simp
theorem clr_snoc (bs : List Bool) (L : List Nat) (i : Nat) : clr bs (L ++ [i]) = (clr bs L).set i false := by simp [clr, List.foldl_append]

theorem IsAr.abides (h : IsAr n₀ b vw vb w A) {w' : World} {row : Option Nat} (hg : w.grownBy w' row) (hr : ∀ r, row = some r → ∃ o : Obj, w.heap[r]? = some o ∧ o.isCells = false) : IsAr n₀ b vw vb w' A := by
  have key : ∀ (k : Nat) (cur : Array Value) (t : TypeId) (fr : Nat × Nat), w.heap[k]? = some (Obj.cells cur t fr) → w'.heap[k]? = w.heap[k]? := by
    intro k cur t fr hk
    refine hg.block k (Array.getElem?_eq_some_iff.1 hk).1 (fun e => ?_)
    obtain ⟨o, ho, hn⟩ := hr k e.symm
    rw [hk] at ho; cases ho; simp [Obj.isCells] at hn
  refine h.kept (key b _ _ _ h.blk) (fun k e => ?_) (fun k e => ?_)
  · obtain ⟨cur, hc⟩ := IsAr.row_type h.rw e; exact key k _ _ _ hc
  · obtain ⟨cur, hc⟩ := IsAr.row_type h.rb e; exact key k _ _ _ hc

theorem Step.abides {vw' vb' : Value} {w1 w2 : World} (h : Step b vw vb w vw' vb' w1) {row : Option Nat} (hg : w1.grownBy w2 row) (hr : ∀ r, row = some r → w.heap.size ≤ r) : Step b vw vb w vw' vb' w2 :=
  ⟨hg.os.trans h.os, hg.tape.trans h.tape, hg.output.trans h.output, Nat.le_trans h.size hg.size,
   fun k hk hb hw hv => (hg.block k (Nat.lt_of_lt_of_le hk h.size) (fun e => by have := hr k e.symm; omega)).trans (h.block k hk hb hw hv), h.fw, h.fb⟩

theorem take_all {L : List Nat} {s : Option Nat} (h : ∀ y ∈ L, some y ≠ s) : L.takeWhile (fun y => decide (some y ≠ s)) = L := by
  induction L with
  | nil => rfl
  | cons a r ih =>
    have ha : decide (some a ≠ s) = true := by simpa using h a (by simp)
    rw [List.takeWhile_cons, ha, if_pos rfl, ih (fun y hy => h y (List.mem_cons_of_mem _ hy))]

theorem take_pre {L q : List Nat} {x : Nat} {s : Option Nat} (hL : q ++ [x] <+: L) (hq : ∀ y ∈ q, some y ≠ s) (hx : some x = s) : L.takeWhile (fun y => decide (some y ≠ s)) = q := by
  obtain ⟨r, rfl⟩ := hL
  rw [List.append_assoc, List.takeWhile_append, take_all hq]
  simp [hx]

set_option maxRecDepth 100000 in
set_option maxHeartbeats 2000000 in
theorem drop_in (h : IsAr n₀ b vw vb w A) (hl : A.bs.length = A.ws.length) (at_ stays : Option Nat) (L : List Nat) (hL : BackOf A.ws at_ L) :
    Calls Tryz.prog 194 #[.pointer (some ⟨b, 0, none⟩), .int .i64 (optI at_), .int .i64 (optI stays)] w fun e W' => e = .returned (.tuple #[]) ∧
      IsAr n₀ b vw vb W' { A with bs := clr A.bs (L.takeWhile (fun y => decide (some y ≠ stays))) } ∧ Step b vw vb w vw vb W' := by
  obtain ⟨xs, rfl⟩ := fins (M := A.ws.length) L hL.lt
  refine (callsIn_wide (n := 3)).1 ?_
  have h1 : 1 ≤ 3 := by omega
  refine callsIn_of_wp_marks Tryz.func194 rfl trivial ?_ rfl
  simp only [Tryz.ntmps194, List.size_toArray, List.length_cons, List.length_nil, Nat.reduceAdd, Nat.reduceSub, Array.replicate_succ, Array.replicate_zero, List.push_toArray, List.append_toArray, List.nil_append, List.cons_append]
  gi_wp2_with (refine ⟨trivial, ?_⟩; gi_at_call 127; refine (callsIn_wide.2 (back_in _ _)).mono ?_; rintro e w' ⟨rfl, rfl⟩)
  have c0 := cell_new_l w (.pointer (some ⟨b, 0, none⟩)) 111
  have c1 := cell_new_l (w.alloc (.cells #[.pointer (some ⟨b, 0, none⟩)] 111)) (.int .i64 (optI stays)) 2
  have c2 := cell_new_l ((w.alloc (.cells #[.pointer (some ⟨b, 0, none⟩)] 111)).alloc (.cells #[.int .i64 (optI stays)] 2)) (.pointer (some ⟨b, 0, none⟩)) 111
  have c3 := cell_new_l (((w.alloc (.cells #[.pointer (some ⟨b, 0, none⟩)] 111)).alloc (.cells #[.int .i64 (optI stays)] 2)).alloc (.cells #[.pointer (some ⟨b, 0, none⟩)] 111)) (.int .i64 (optI at_)) 2
  simp only [World.size_alloc] at c1 c2 c3
  have hB0 : Below w.heap.size w ((((w.alloc (.cells #[.pointer (some ⟨b, 0, none⟩)] 111)).alloc (.cells #[.int .i64 (optI stays)] 2)).alloc (.cells #[.pointer (some ⟨b, 0, none⟩)] 111)).alloc (.cells #[.int .i64 (optI at_)] 2)) :=
    ((((Below.refl _ w).alloc (Nat.le_refl _) _).alloc (by simp) _).alloc (by simp; omega) _).alloc (by simp; omega) _
  have hA0 := h.below hB0
  have hbl := h.lt
  have hvl := fun k e => (h.rw.lt k e).2
  have hml := fun k e => (h.rb.lt k e).2
  refine wpIn_rangeFunc_ownF rfl h1 (gf := 187) (lb := #[.pointer (some ⟨w.heap.size + 1 + 1 + 1, 0, none⟩), .pointer (some ⟨w.heap.size + 1 + 1, 0, none⟩)]) rfl trivial (enters_of Tryz.func187 (by kernel_rfl) rfl)
    (back1_stops 2 (w.heap.size + 1 + 1) (w.heap.size + 1 + 1 + 1) A.ws.length (by omega) at_ xs hL hA0.toW (by simp; omega) c3.1 (cell_alloc_l _ c2.1)) (fun h k => h.trans k) (fun W l o o' hl _ _ _ => KpW.putObj (S := w.heap.size + 1 + 1 + 1 + 1) (by omega) (fun k e => by have := hvl k e; omega) (by omega) (by omega) W l o' (by simpa using hl)) (Below.refl _ _) (fun _ => rfl)
    (fun pre W => ((∀ y ∈ pre, some y.val ≠ stays) ∧ W.cell? ⟨w.heap.size, 0, none⟩ = some (.pointer (some ⟨b, 0, none⟩)) ∧ W.cell? ⟨w.heap.size + 1, 0, none⟩ = some (.int .i64 (optI stays))) ∧ IsAr n₀ b vw vb W { A with bs := clr A.bs (pre.map (·.val)) } ∧ Step b vw vb w vw vb W)
    (fun c pre W => (c = .ret ∧ ∃ (q : List (Fin A.ws.length)) (x : Fin A.ws.length), pre = q ++ [x] ∧ (∀ y ∈ q, some y.val ≠ stays) ∧ some x.val = stays ∧ IsAr n₀ b vw vb W { A with bs := clr A.bs (q.map (·.val)) }) ∧ Step b vw vb w vw vb W)
    (fun s W W' row hs hg hr => ⟨⟨hs.1.1, cell_kept hs.1.2.1 hg (fun r e => (hr r e).2), cell_kept hs.1.2.2 hg (fun r e => (hr r e).2)⟩, hs.2.1.abides hg (fun r e => (hr r e).2), hs.2.2.abides hg (fun r e => by have := (hr r e).1; simp at this; omega)⟩)
    (fun c s W W' row hs hg hr => by obtain ⟨⟨e, q, x, e2, h3, h4, h5⟩, h6⟩ := hs; exact ⟨⟨e, q, x, e2, h3, h4, h5.abides hg (fun r e => (hr r e).2)⟩, h6.abides hg (fun r e => by have := (hr r e).1; simp at this; omega)⟩)
    ⟨⟨by simp, cell_alloc_l _ (cell_alloc_l _ (cell_alloc_l _ c0.1)), cell_alloc_l _ (cell_alloc_l _ c1.1)⟩, hA0, Step.of_below hB0⟩
    (fun x => { tmps := #[.pointer (some ⟨b, 0, none⟩), .int .i64 (optI at_), .int .i64 (optI stays), .pointer (some ⟨w.heap.size, 0, none⟩), undef, .pointer (some ⟨w.heap.size + 1, 0, none⟩), .int .i64 x.val, .pointer (some ⟨b, 0, none⟩), .int .i64 (optI at_), .func (.func 187) #[] #[.pointer (some ⟨w.heap.size + 1 + 1 + 1, 0, none⟩), .pointer (some ⟨w.heap.size + 1 + 1, 0, none⟩)], .int .i64 x.val, undef, undef, undef, undef, undef, undef, undef, undef, undef], defers := [] }) ?assign ?body ?done ?stop
  case assign =>
    intro l x W K hK
    gi_wp2
    exact hK
  case body =>
    rintro l pre x W ⟨⟨hp, hca, hcs⟩, hA, hS⟩ _
    by_cases hx : some x.val = stays
    · have ht : ((x.val : Int) == optI stays) = true := by rw [← hx]; simp [optI]
      gi_wp2
      exact ⟨KeepsOthers.refl _, ⟨rfl, pre, x, rfl, hp, hx, hA⟩, hS⟩
    · have ht : ((x.val : Int) == optI stays) = false := by
        cases stays with
        | none => simp [optI]
        | some s => simp [optI]; intro e; exact hx (by rw [show s = x.val by omega])
      have hlen : (clr A.bs (pre.map (·.val))).length = A.ws.length := by simp [hl]
      obtain ⟨g, c, hv, hcell, hfr⟩ := hA.mark (i := x.val) (x := (clr A.bs (pre.map (·.val)))[x.val]'(by rw [hlen]; exact x.isLt)) (by simp)
      have hgl : g < w.heap.size := hml g (by rw [hv]; rfl)
      have hc2 := hA.c2
      have hnb := hA.nb
      have hx2 : x.val < A.bs.length := by rw [hl]; exact x.isLt
      obtain ⟨hA', hS'⟩ := hA.setMark (i := x.val) (y := false) hv
      have hnw : ∀ k, vw.ownBlock = some k → k ≠ g := fun k e e' => hA.nwb e (by rw [hv, e']; rfl)
      have hgb : g ≠ b := fun e => hnb (by rw [hv, e]; rfl)
      rw [show ({ A with bs := clr A.bs (pre.map (·.val)) } : Ar).bs.length = A.bs.length by simp] at hv
      rw [hv] at hc2
      have hlim := Nat.le_trans h.leb h.lim
      obtain ⟨old, hold⟩ : ∃ old, W.cell? ⟨g, x.val, none⟩ = some (.bool old) := ⟨_, hcell⟩
      clear hcell hv hl hlen
      gi_wp2
      refine ⟨KeepsOthers.setCell _ _ _, ⟨heap_setCell_other W ⟨g, x.val, none⟩ b _ hgb.symm, fun k e => heap_setCell_other W ⟨g, x.val, none⟩ k _ (hnw k e), heap_setCell_other W ⟨g, x.val, none⟩ _ _ (by show _ ≠ g; omega), heap_setCell_other W ⟨g, x.val, none⟩ _ _ (by show _ ≠ g; omega)⟩, ⟨fun y hy => (List.mem_append.1 hy).elim (hp y) (fun e => by simp at e; subst e; exact hx), ?_, ?_⟩, ?_, hS.trans hS'⟩
      · rw [World.cell?_of_block (a := ⟨w.heap.size, 0, none⟩) (heap_setCell_other W ⟨g, x.val, none⟩ _ _ (by show w.heap.size ≠ g; omega))]; exact hca
      · rw [World.cell?_of_block (a := ⟨w.heap.size + 1, 0, none⟩) (heap_setCell_other W ⟨g, x.val, none⟩ _ _ (by show w.heap.size + 1 ≠ g; omega))]; exact hcs
      · rw [List.map_append, List.map_cons, List.map_nil, clr_snoc]; exact hA'
  case done =>
    rintro D ys W hD rfl ⟨⟨hne, _, _⟩, hA, hS⟩ hK
    gi_wp2
    refine ⟨by simp, .inl ⟨_, _, rfl, run_takeDeferred hK, ?_⟩⟩
    rw [take_all (by intro y hy; obtain ⟨z, hz, rfl⟩ := List.mem_map.1 hy; exact hne z hz)]
    exact ⟨_, results_none rfl _ _ _, rfl, hA.abides (grownBy_putObj' _ D (.deferred none)) (fun r e => by cases e; exact ⟨_, hK, rfl⟩), hS.abides (grownBy_putObj' _ D (.deferred none)) (fun r e => by cases e; simp at hD; omega)⟩
  case stop =>
    rintro D c pre W hD hpre ⟨⟨rfl, q, x, rfl, hq, hx, hA⟩, hS⟩ hK
    gi_wp2
    refine ⟨by simp, .inl ⟨_, _, rfl, run_takeDeferred hK, ?_⟩⟩
    rw [take_pre (q := q.map (·.val)) (x := x.val) (by obtain ⟨r, hr⟩ := hpre; exact ⟨r.map (·.val), by rw [← hr]; simp⟩) (by intro y hy; obtain ⟨z, hz, rfl⟩ := List.mem_map.1 hy; exact hq z hz) hx]
    exact ⟨_, results_none rfl _ _ _, rfl, hA.abides (grownBy_putObj' _ D (.deferred none)) (fun r e => by cases e; exact ⟨_, hK, rfl⟩), hS.abides (grownBy_putObj' _ D (.deferred none)) (fun r e => by cases e; simp at hD; omega)⟩

end Go.Proofs.YtampilfebmfhaaaGreatDoor
