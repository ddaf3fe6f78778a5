/- Asked: an op of a heap, and of the document's: both answer the same. -/
import Derived.Test.YtampilfebmfhaaaGreatDoorBoth
import Derived.Deep.RegionHeld3
namespace Go.Proofs.YtampilfebmfhaaaGreatDoor
open Go.RowKit

/-- An op. -/
structure OpV where
  kd : Nat
  kk : Nat
  sz : Int
  fr : Int
  to : Int
  ww : Nat

def OpV.agg (o : OpV) : Value := .agg #[.int .u8 o.kd, .int .u8 o.kk, .int .i64 o.sz, .int .i64 o.fr, .int .i64 o.to, .int .u64 o.ww]

def OpV.obj (o : OpV) : Obj := .cells #[.int .u8 o.kd, .int .u8 o.kk, .int .i64 o.sz, .int .i64 o.fr, .int .i64 o.to, .int .u64 o.ww] 73 (0, 0)

def OpAt (w : World) (q : Nat) (o : OpV) : Prop := w.heap[q]? = some o.obj

theorem OpAt.cells {w : World} {q : Nat} {o : OpV} (h : OpAt w q o) : w.cell? ⟨q, 0, none⟩ = some (.int .u8 o.kd) ∧ w.cell? ⟨q, 1, none⟩ = some (.int .u8 o.kk) ∧ w.cell? ⟨q, 2, none⟩ = some (.int .i64 o.sz) ∧ w.cell? ⟨q, 3, none⟩ = some (.int .i64 o.fr) ∧ w.cell? ⟨q, 4, none⟩ = some (.int .i64 o.to) ∧ w.cell? ⟨q, 5, none⟩ = some (.int .u64 o.ww) := by
  unfold OpAt OpV.obj at h
  refine ⟨?_, ?_, ?_, ?_, ?_, ?_⟩ <;> (rw [cell_of_row w q _ _ _ _ h]; rfl)

variable {w : World} {Q : World → Prop}

set_option maxRecDepth 20000 in
set_option maxHeartbeats 1000000 in
theorem asked_alloc (vh vr : Value) (o : OpV) (hk : o.kd = 1) (h : ∃ a e : Int, Two 107 108 #[vh, .int .u8 o.kk, .int .i64 o.sz] #[vr, .int .u8 o.kk, .int .i64 o.sz] (w.alloc o.obj) (.tuple #[.int .i64 a, .int .i64 e]) (fun w1 => OpAt w1 w.heap.size o) Q) :
    Calls Tryz.prog 20 #[vh, vr, o.agg] w fun e w' => e = .returned (.bool true) ∧ Q w' := by
  obtain ⟨kd, kk, sz, fr, to, ww⟩ := o
  obtain ⟨a, e, h⟩ := h
  simp only at hk
  subst hk
  unfold Two at h
  simp only [OpV.agg, OpV.obj] at h ⊢
  go_enter Tryz.func20, Tryz.ntmps20
  go_wp2_with (first | (go_at_call 107; refine h.mono ?_; clear h; rintro e1 w1 ⟨rfl, hm, h2⟩; obtain ⟨c0, c1, c2, c3, c4, c5⟩ := hm.cells; clear hm) | (go_at_call 108; refine h2.mono ?_; clear h2; rintro e2 w2 ⟨rfl, hQ⟩))
  go_ret
  exact ⟨rfl, hQ⟩

set_option maxRecDepth 20000 in
set_option maxHeartbeats 1000000 in
theorem asked_write (vh vr : Value) (o : OpV) (hk : o.kd = 2) (hq : ∀ W, Q W → OpAt W w.heap.size o) (h : ∃ e : Int, Two 109 110 #[vh, .int .i64 o.fr, .int .i64 o.sz, .int .u64 o.ww] #[vr, .int .i64 o.fr, .int .i64 o.sz, .int .u64 o.ww] (w.alloc o.obj).drew (.int .i64 e) (fun w1 => OpAt w1 w.heap.size o) Q) :
    Calls Tryz.prog 20 #[vh, vr, o.agg] w fun e w' => e = .returned (.bool true) ∧ Q w' := by
  obtain ⟨kd, kk, sz, fr, to, ww⟩ := o
  obtain ⟨e, h⟩ := h
  simp only at hk
  subst hk
  unfold Two at h
  simp only [OpV.agg, OpV.obj] at h ⊢
  have hq' := fun W hW => (hq W hW).cells
  clear hq
  go_enter Tryz.func20, Tryz.ntmps20
  go_wp2
  go_region_held3 (fun W => W.cell? ⟨w.heap.size, 2, none⟩ = some (.int .i64 sz) ∧ W.cell? ⟨w.heap.size, 3, none⟩ = some (.int .i64 fr) ∧ W.cell? ⟨w.heap.size, 5, none⟩ = some (.int .u64 ww)) (first | go_keep | exact ⟨c2, c3, c5⟩ | exact ⟨d2, d3, d5⟩)
    ((first
      | (go_at_call 109; refine h.mono ?_; clear h; rintro e1 w1 ⟨rfl, hm, h2⟩; obtain ⟨c0, c1, c2, c3, c4, c5⟩ := hm.cells; clear hm)
      | (go_at_call 110; refine h2.mono ?_; clear h2; rintro e2 w2 ⟨rfl, hQ⟩; obtain ⟨d0, d1, d2, d3, d4, d5⟩ := hq' _ hQ)))
  all_goals
    go_wp2
    go_ret
    exact ⟨rfl, hQ⟩

set_option maxRecDepth 20000 in
set_option maxHeartbeats 1000000 in
theorem asked_move (vh vr : Value) (o : OpV) (hk : o.kd = 3) (hq : ∀ W, Q W → OpAt W w.heap.size o) (h : ∃ e : Int, Two 111 112 #[vh, .int .i64 o.fr, .int .i64 o.to] #[vr, .int .i64 o.fr, .int .i64 o.to] (w.alloc o.obj).drew (.int .i64 e) (fun w1 => OpAt w1 w.heap.size o) Q) :
    Calls Tryz.prog 20 #[vh, vr, o.agg] w fun e w' => e = .returned (.bool true) ∧ Q w' := by
  obtain ⟨kd, kk, sz, fr, to, ww⟩ := o
  obtain ⟨e, h⟩ := h
  simp only at hk
  subst hk
  unfold Two at h
  simp only [OpV.agg, OpV.obj] at h ⊢
  have hq' := fun W hW => (hq W hW).cells
  clear hq
  go_enter Tryz.func20, Tryz.ntmps20
  go_wp2
  go_region_held3 (fun W => W.cell? ⟨w.heap.size, 3, none⟩ = some (.int .i64 fr) ∧ W.cell? ⟨w.heap.size, 4, none⟩ = some (.int .i64 to)) (first | go_keep | exact ⟨c3, c4⟩ | exact ⟨d3, d4⟩)
    ((first
      | (go_at_call 111; refine h.mono ?_; clear h; rintro e1 w1 ⟨rfl, hm, h2⟩; obtain ⟨c0, c1, c2, c3, c4, c5⟩ := hm.cells; clear hm)
      | (go_at_call 112; refine h2.mono ?_; clear h2; rintro e2 w2 ⟨rfl, hQ⟩; obtain ⟨d0, d1, d2, d3, d4, d5⟩ := hq' _ hQ)))
  all_goals
    go_wp2
    go_ret
    exact ⟨rfl, hQ⟩

set_option maxRecDepth 20000 in
set_option maxHeartbeats 1000000 in
theorem asked_cut (vh vr : Value) (o : OpV) (hk : o.kd = 4) (hq : ∀ W, Q W → OpAt W w.heap.size o) (h : ∃ e : Int, Two 99 113 #[vh, .int .i64 o.fr] #[vr, .int .i64 o.fr] (w.alloc o.obj).drew (.int .i64 e) (fun w1 => OpAt w1 w.heap.size o) Q) :
    Calls Tryz.prog 20 #[vh, vr, o.agg] w fun e w' => e = .returned (.bool true) ∧ Q w' := by
  obtain ⟨kd, kk, sz, fr, to, ww⟩ := o
  obtain ⟨e, h⟩ := h
  simp only at hk
  subst hk
  unfold Two at h
  simp only [OpV.agg, OpV.obj] at h ⊢
  have hq' := fun W hW => (hq W hW).cells
  clear hq
  go_enter Tryz.func20, Tryz.ntmps20
  go_wp2
  go_region_held3 (fun W => W.cell? ⟨w.heap.size, 3, none⟩ = some (.int .i64 fr)) (first | go_keep | exact c3 | exact d3)
    ((first
      | (go_at_call 99; refine h.mono ?_; clear h; rintro e1 w1 ⟨rfl, hm, h2⟩; obtain ⟨c0, c1, c2, c3, c4, c5⟩ := hm.cells; clear hm)
      | (go_at_call 113; refine h2.mono ?_; clear h2; rintro e2 w2 ⟨rfl, hQ⟩; obtain ⟨d0, d1, d2, d3, d4, d5⟩ := hq' _ hQ)))
  all_goals
    go_wp2
    go_ret
    exact ⟨rfl, hQ⟩

set_option maxRecDepth 20000 in
set_option maxHeartbeats 1000000 in
theorem asked_read (vh vr : Value) (o : OpV) (hk : o.kd ≠ 1 ∧ o.kd ≠ 2 ∧ o.kd ≠ 3 ∧ o.kd ≠ 4)
    (h : ∃ a e : Int, Two 34 114 #[vh, .int .i64 o.fr, .int .i64 o.sz] #[vr, .int .i64 o.fr, .int .i64 o.sz] (w.alloc o.obj) (.tuple #[.int .u64 a, .int .i64 e]) (fun w' => w' = w.alloc o.obj) (fun w' => w' = w.alloc o.obj))
    (k : ∃ a e : Int, Two 32 115 #[vh, .int .i64 o.fr] #[vr, .int .i64 o.fr] (w.alloc o.obj) (.tuple #[.int .u8 a, .int .i64 e]) (fun w' => w' = w.alloc o.obj) (fun w' => w' = w.alloc o.obj))
    (l : ∃ a e : Int, Two 33 116 #[vh, .int .i64 o.fr] #[vr, .int .i64 o.fr] (w.alloc o.obj) (.tuple #[.int .i64 a, .int .i64 e]) (fun w' => w' = w.alloc o.obj) (fun w' => w' = w.alloc o.obj)) :
    Calls Tryz.prog 20 #[vh, vr, o.agg] w fun e w' => e = .returned (.bool true) ∧ w' = w.alloc o.obj := by
  obtain ⟨kd, kk, sz, fr, to, ww⟩ := o
  obtain ⟨a1, e1, h⟩ := h
  obtain ⟨a2, e2, k⟩ := k
  obtain ⟨a3, e3, l⟩ := l
  simp only at hk
  obtain ⟨k1, k2, k3, k4⟩ := hk
  have q1 : ((kd : Int) == 1) = false := by simp; omega
  have q2 : ((kd : Int) == 2) = false := by simp; omega
  have q3 : ((kd : Int) == 3) = false := by simp; omega
  have q4 : ((kd : Int) == 4) = false := by simp; omega
  clear k1 k2 k3 k4
  unfold Two at h k l
  simp only [OpV.agg, OpV.obj] at h k l ⊢
  go_enter Tryz.func20, Tryz.ntmps20
  go_wp2_with (first
    | (go_at_call 34; refine h.mono ?_; clear h; rintro e W ⟨rfl, rfl, h⟩)
    | (go_at_call 114; refine h.mono ?_; clear h; rintro e W ⟨rfl, rfl⟩)
    | (go_at_call 32; refine k.mono ?_; clear k; rintro e W ⟨rfl, rfl, k⟩)
    | (go_at_call 115; refine k.mono ?_; clear k; rintro e W ⟨rfl, rfl⟩)
    | (go_at_call 33; refine l.mono ?_; clear l; rintro e W ⟨rfl, rfl, l⟩)
    | (go_at_call 116; refine l.mono ?_; clear l; rintro e W ⟨rfl, rfl⟩))
  go_ret
  exact ⟨rfl, rfl⟩

variable {n₀ bh b br lim : Nat} {s : BSt}

theorem Bo.foot_lt (h : Bo n₀ bh b br lim w s) {k : Nat} (hk : s.foot bh b br k) : n₀ ≤ k ∧ k < w.heap.size ∧ ∃ cur t, w.heap[k]? = some (.cells cur t (0, 0)) ∧ (t = 114 ∨ t = 137 ∨ t = 71 ∨ t = 4 ∨ t = 88 ∨ t = 85) := by
  rcases hk with e | e | e | e | e
  · obtain ⟨h1, h2, cur, t, h3, h4⟩ := h.hp.blocks k (.inl e); exact ⟨h1, h2, cur, t, h3, by rcases h4 with rfl | rfl | rfl | rfl <;> simp⟩
  · obtain ⟨h1, h2, cur, t, h3, h4⟩ := h.hp.blocks k (.inr (.inl e)); exact ⟨h1, h2, cur, t, h3, by rcases h4 with rfl | rfl | rfl | rfl <;> simp⟩
  · obtain ⟨h1, h2, cur, t, h3, h4⟩ := h.hp.blocks k (.inr (.inr (.inl e))); exact ⟨h1, h2, cur, t, h3, by rcases h4 with rfl | rfl | rfl | rfl <;> simp⟩
  · obtain ⟨h1, h2, cur, t, h3, h4⟩ := h.hp.blocks k (.inr (.inr (.inr e))); exact ⟨h1, h2, cur, t, h3, by rcases h4 with rfl | rfl | rfl | rfl <;> simp⟩
  · obtain ⟨h1, h2, cur, t, h3, h4⟩ := h.rf.blocks e; exact ⟨h1, h2, cur, t, h3, by rcases h4 with rfl | rfl | rfl <;> simp⟩

theorem Nxt.pre {T : Has → Has} {w0 w' : World} (hB : Below w.heap.size w w0) (h : Nxt T n₀ bh b br lim s w0 w') : Nxt T n₀ bh b br lim s w w' := by
  obtain ⟨s', h1, h2, h3⟩ := h
  exact ⟨s', h1, (BStep.of_below hB).trans h2, h3⟩

/-- What an op does to what a heap has. -/
def opT (lim : Nat) (o : OpV) : Has → Has :=
  if o.kd = 1 then allocT lim o.kk o.sz else if o.kd = 2 then writeT o.fr o.sz o.ww else if o.kd = 3 then moveT o.fr o.to else if o.kd = 4 then cutT o.fr else id

theorem Two.mono {F G : Nat} {a1 a2 : Array Value} {v : Value} {M Q M' Q' : World → Prop} (h : Two F G a1 a2 w v M Q) (hM : ∀ W, M W → M' W) (hQ : ∀ W, Q W → Q' W) : Two F G a1 a2 w v M' Q' := by
  refine Calls.mono h ?_
  rintro e w1 ⟨he, hm, h2⟩
  refine ⟨he, hM _ hm, h2.mono ?_⟩
  rintro e w2 ⟨he, hq⟩
  exact ⟨he, hQ _ hq⟩

/-- What an op leaves of the op's own block. -/
theorem Bo.opAt (h : Bo n₀ bh b br lim w s) (o : OpV) {w0 w1 : World} (h0 : w0.heap = (w.alloc o.obj).heap) (hm : Btw bh b br s w0 w1) : OpAt w1 w.heap.size o := by
  unfold OpAt
  rw [hm.2 w.heap.size (by rw [h0]; simp) (fun e => by have := (h.foot_lt e).2.1; omega), h0]
  exact heap_alloc_new w _

theorem below_op (w : World) (o : Obj) : Below w.heap.size w (w.alloc o) := (Below.refl _ _).alloc (Nat.le_refl _) _

theorem below_opd (w : World) (o : Obj) : Below w.heap.size w (w.alloc o).drew := ⟨rfl, rfl, rfl, (below_op w o).size, (below_op w o).block⟩

theorem asked_real (h : Bo n₀ bh b br lim w s) (o : OpV) (hk : o.kk < 256) (hw : o.ww < 18446744073709551616) :
    Calls Tryz.prog 20 #[.pointer (some ⟨bh, 0, none⟩), .pointer (some ⟨br, 0, none⟩), o.agg] w fun e w' => e = .returned (.bool true) ∧ Nxt (opT lim o) n₀ bh b br lim s w w' := by
  have hB := below_op w o.obj
  have hD := below_opd w o.obj
  have h1 := h.below hB
  have h2 := h.below hD
  have fin : ∀ (T : Has → Has), T = opT lim o → ∀ w0, w0.heap = (w.alloc o.obj).heap → Below w.heap.size w w0 → ∀ W, Nxt T n₀ bh b br lim s w0 W → Nxt (opT lim o) n₀ bh b br lim s w W ∧ OpAt W w.heap.size o := fun T eT w0 e hb W hW =>
    ⟨by rw [← eT]; exact hW.pre hb, by obtain ⟨s', _, hS, _⟩ := hW; exact h.opAt o e hS.btw⟩
  have fwd : ∀ {e w'}, (e = Ending.returned (.bool true) ∧ Nxt (opT lim o) n₀ bh b br lim s w w' ∧ OpAt w' w.heap.size o) → e = Ending.returned (.bool true) ∧ Nxt (opT lim o) n₀ bh b br lim s w w' := fun h => ⟨h.1, h.2.1⟩
  by_cases k1 : o.kd = 1
  · obtain ⟨a, e, ho⟩ := op_alloc h1 o.kk o.sz hk
    exact (asked_alloc _ _ o k1 ⟨a, e, ho.mono (fun W hm => h.opAt o rfl hm) (fin _ (by unfold opT; rw [if_pos k1]) _ rfl hB)⟩).mono (fun _ _ => fwd)
  by_cases k2 : o.kd = 2
  · obtain ⟨e, ho⟩ := op_write h2 o.fr o.sz o.ww hw
    exact (asked_write _ _ o k2 (fun _ hW => hW.2) ⟨e, ho.mono (fun W hm => h.opAt o rfl hm) (fin _ (by unfold opT; rw [if_neg k1, if_pos k2]) _ rfl hD)⟩).mono (fun _ _ => fwd)
  by_cases k3 : o.kd = 3
  · obtain ⟨e, ho⟩ := op_move h2 o.fr o.to
    exact (asked_move _ _ o k3 (fun _ hW => hW.2) ⟨e, ho.mono (fun W hm => h.opAt o rfl hm) (fin _ (by unfold opT; rw [if_neg k1, if_neg k2, if_pos k3]) _ rfl hD)⟩).mono (fun _ _ => fwd)
  by_cases k4 : o.kd = 4
  · obtain ⟨e, ho⟩ := op_cut h2 o.fr
    exact (asked_cut _ _ o k4 (fun _ hW => hW.2) ⟨e, ho.mono (fun W hm => h.opAt o rfl hm) (fin _ (by unfold opT; rw [if_neg k1, if_neg k2, if_neg k3, if_pos k4]) _ rfl hD)⟩).mono (fun _ _ => fwd)
  refine (asked_read _ _ o ⟨k1, k2, k3, k4⟩ (op_read h1 o.fr o.sz) (op_kind h1 o.fr) (op_size h1 o.fr)).mono ?_
  rintro e w' ⟨he, rfl⟩
  exact ⟨he, Nxt.below h hB (by unfold opT; rw [if_neg k1, if_neg k2, if_neg k3, if_neg k4]; rfl)⟩

theorem Gone.kept {v : Value} (h : Gone w v) {w' : World} (hB : Below w.heap.size w w') : Gone w' v := by
  rcases h with rfl | ⟨z, rfl, hz⟩
  · exact .inl rfl
  · refine .inr ⟨z, rfl, ?_⟩
    rw [← hz]
    refine World.cell?_of_block (a := ⟨z, 0, none⟩) (hB.block z ?_)
    rcases Nat.lt_or_ge z w.heap.size with hlt | hge
    · exact hlt
    · rw [World.cell?, Array.getElem?_eq_none (by exact hge)] at hz; simp at hz

theorem asked_gone {v : Value} (h : Gone w v) (o : OpV) :
    Calls Tryz.prog 20 #[v, .pointer none, o.agg] w fun e w' => e = .returned (.bool true) ∧ Below w.heap.size w w' := by
  have hB := below_op w o.obj
  have hD := below_opd w o.obj
  have h1 := h.kept hB
  have h2 := h.kept hD
  have A1 : OpAt (w.alloc o.obj) w.heap.size o := heap_alloc_new w _
  have A2 : OpAt (w.alloc o.obj).drew w.heap.size o := A1
  have fwd : ∀ {e w'}, (e = Ending.returned (.bool true) ∧ OpAt w' w.heap.size o ∧ Below w.heap.size w w') → e = Ending.returned (.bool true) ∧ Below w.heap.size w w' := fun h => ⟨h.1, h.2.2⟩
  by_cases k1 : o.kd = 1
  · refine (asked_alloc _ _ o k1 (Q := fun w' => OpAt w' w.heap.size o ∧ Below w.heap.size w w') ⟨0, 2, (galloc h1 o.kk o.sz).mono ?_⟩).mono (fun _ _ => fwd)
    rintro e w1 ⟨he, rfl⟩
    refine ⟨he, A1, (nalloc _ _ _).mono ?_⟩
    rintro e w1 ⟨he, rfl⟩
    exact ⟨he, A1, hB⟩
  by_cases k2 : o.kd = 2
  · refine (asked_write _ _ o k2 (Q := fun w' => OpAt w' w.heap.size o ∧ Below w.heap.size w w') (fun _ hW => hW.1) ⟨2, (gwrite h2 o.fr o.sz o.ww).mono ?_⟩).mono (fun _ _ => fwd)
    rintro e w1 ⟨he, rfl⟩
    refine ⟨he, A2, (nwrite _ _ _ _).mono ?_⟩
    rintro e w1 ⟨he, rfl⟩
    exact ⟨he, A2, hD⟩
  by_cases k3 : o.kd = 3
  · refine (asked_move _ _ o k3 (Q := fun w' => OpAt w' w.heap.size o ∧ Below w.heap.size w w') (fun _ hW => hW.1) ⟨2, (gmove h2 o.fr o.to).mono ?_⟩).mono (fun _ _ => fwd)
    rintro e w1 ⟨he, rfl⟩
    refine ⟨he, A2, (nmove _ _ _).mono ?_⟩
    rintro e w1 ⟨he, rfl⟩
    exact ⟨he, A2, hD⟩
  by_cases k4 : o.kd = 4
  · refine (asked_cut _ _ o k4 (Q := fun w' => OpAt w' w.heap.size o ∧ Below w.heap.size w w') (fun _ hW => hW.1) ⟨2, (gcut h2 o.fr).mono ?_⟩).mono (fun _ _ => fwd)
    rintro e w1 ⟨he, rfl⟩
    refine ⟨he, A2, (ncut _ _).mono ?_⟩
    rintro e w1 ⟨he, rfl⟩
    exact ⟨he, A2, hD⟩
  refine (asked_read _ _ o ⟨k1, k2, k3, k4⟩ ⟨0, 2, (gread h1 o.fr o.sz).mono ?_⟩ ⟨0, 2, (gkind h1 o.fr).mono ?_⟩ ⟨0, 2, (gsize h1 o.fr).mono ?_⟩).mono ?_
  · rintro e w1 ⟨he, rfl⟩; exact ⟨he, rfl, nread _ _ _⟩
  · rintro e w1 ⟨he, rfl⟩; exact ⟨he, rfl, nkind _ _⟩
  · rintro e w1 ⟨he, rfl⟩; exact ⟨he, rfl, nsize _ _⟩
  · rintro e w' ⟨he, rfl⟩
    exact ⟨he, hB⟩

end Go.Proofs.YtampilfebmfhaaaGreatDoor
