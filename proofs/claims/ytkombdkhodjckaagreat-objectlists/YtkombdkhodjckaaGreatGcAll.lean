/- Ranging over a method value: an iterator with its receiver ahead of the yield function. It tells each of a list, and no round is left early. -/
import Derived.RangeFuncNested
import Derived.Test.YtkombdkhodjckaaGreatGcHolds
namespace Go.Proofs.YtkombdkhodjckaaGreat
open Go.RowKit

variable {P : Program}

/-- What an iterator wants kept. -/
def KpP (P : Nat → Prop) (W W' : World) : Prop := ∀ k, P k → W'.heap[k]? = W.heap[k]?

theorem KpP.refl (P : Nat → Prop) (W : World) : KpP P W W := fun _ _ => rfl

theorem KpP.trans {P : Nat → Prop} {A B C : World} (h : KpP P A B) (k : KpP P B C) : KpP P A C := fun i hi => (k i hi).trans (h i hi)

theorem KpP.weak {P R : Nat → Prop} {A B : World} (h : KpP P A B) (hr : ∀ k, R k → P k) : KpP R A B := fun i hi => h i (hr i hi)

theorem KpP.cell {P : Nat → Prop} {W W' : World} (h : KpP P W W') {B i : Nat} (hB : P B) {v : Value} (hv : W.cell? ⟨B, i, none⟩ = some v) : W'.cell? ⟨B, i, none⟩ = some v :=
  (World.cell?_of_block (a := ⟨B, i, none⟩) (h B hB)).trans hv

/-- What lies from B up to m, besides what P names. -/
def Upto (P : Nat → Prop) (B m : Nat) (k : Nat) : Prop := P k ∨ (B ≤ k ∧ k < m)

/-- The iterator g, called with 'front' ahead of its yield function, tells xs one behind the other, if each round keeps what Pk names and what the iterator has laid of its own ahead of the first round (from where the heap ended, up to m). -/
def TellsAt {α : Type} (P : Program) (g : Nat) (front : Array Value) (enc : α → Array Value) (Pk : Nat → Prop) (xs : List α) (W : World) : Prop :=
  ∀ (l : Nat) (J : Nat → List α → World → Prop), (∀ m, AbidesFrom W.heap.size (J m)) →
    (∀ m pre x W1, W.heap.size ≤ m → J m pre W1 → pre.length < xs.length → YieldAt Fence.wide 0 P l (enc x) W1 fun e W' => e = .returned (.bool true) ∧ J m (pre ++ [x]) W' ∧ KpP (Upto Pk W.heap.size m) W1 W') →
    (∀ W2, Below W.heap.size W W2 → J W2.heap.size [] W2) → CallsIn Fence.wide 0 P g (front ++ #[.func (.yield l) #[] #[]]) W fun e W' => (∃ v, e = .returned v) ∧ ∃ m, W.heap.size ≤ m ∧ J m xs W'

theorem calls_any {n m : Nat} {f : FuncId} {args : Array Value} {w : World} {R : Ending → World → Prop} (h : CallsIn Fence.wide n P f args w R) : CallsIn Fence.wide m P f args w R := callsIn_wide.2 (callsIn_wide.1 h)

theorem yield_any {n m l : Nat} {args : Array Value} {w : World} {R : Ending → World → Prop} (h : YieldAt Fence.wide n P l args w R) : YieldAt Fence.wide m P l args w R := by
  obtain ⟨fn, tmps, as_, body, hy, hF, hR⟩ := h
  exact ⟨fn, tmps, as_, body, hy, hF, fun c cs _ => hR c cs (room_wide _)⟩

/-- The two blocks that a running loop has: what it is to call at its end, and its record. -/
structure Lies (B : Nat) (r : Loop) (W : World) : Prop where
  mark : W.heap[B]? = some (.deferred (some []))
  rec_ : W.heap[B + 1]? = some (.loop r)

theorem Lies.lt {B : Nat} {r : Loop} {W : World} (h : Lies B r W) : B + 1 < W.heap.size := (Array.getElem?_eq_some_iff.1 h.rec_).1

theorem Lies.keeps {B : Nat} {r : Loop} {W W' : World} (h : Lies B r W) (k : KeepsFrom B W W') : Lies B r W' := ⟨k.same _ _ (Nat.le_refl _) h.mark rfl, k.same _ _ (by omega) h.rec_ rfl⟩

theorem Lies.turned {B : Nat} {r : Loop} {W : World} (h : Lies B r W) (r' : Loop) : Lies B r' (W.putObj (B + 1) (.loop r')) :=
  ⟨(World.putObj_heap_other (by omega)).trans h.mark, World.putObj_heap_same h.lt⟩

theorem Lies.grown {B C : Nat} {r : Loop} {W W' : World} {row : Option Nat} (h : Lies B r W) (hg : W.grownBy W' row) (hr : ∀ x, row = some x → C ≤ x ∧ ∃ o : Obj, W.heap[x]? = some o ∧ o.isWalk = true) : Lies B r W' :=
  ⟨(grownBy_keeps hg (fun x e => (hr x e).2) h.mark rfl).trans h.mark, (grownBy_keeps hg (fun x e => (hr x e).2) h.rec_ rfl).trans h.rec_⟩

theorem wp_range_method {α : Type} {n : Nat} {g : Operand} {ps : Array Tmp} {assign body : Code} {Q : Exit → Act → World → Prop} {a : Act} {w : World} {gf : Nat} {front : Array Value} {enc : α → Array Value} {Pk : Nat → Prop} {xs : List α}
    (h1 : 1 ≤ n) (hg : a.eval g = .func (.func gf) front #[]) (eg : ∀ args w, (callFunc gf args).run P w = .ok (.enter gf args) w)
    (hPk : ∀ k, Pk k → k < w.heap.size) (hT : ∀ W, Below w.heap.size w W → TellsAt P gf front enc Pk xs W) (hps : ∀ x, (enc x).size = ps.size)
    (I : Nat → List α → World → Prop) (hI : ∀ m, OwnFrom w.heap.size (I m)) (h0 : ∀ W, Below w.heap.size w W → I W.heap.size [] W) (Ax : α → Act → World → Prop) (hAx : ∀ x a', OwnFrom w.heap.size (fun (_ : Unit) W => Ax x a' W))
    (hassign : ∀ (l m : Nat) (pre : List α) (x : α) (W : World) (K : Act → World → Prop), I m pre W → (∀ a' W', KeepsFrom w.heap.size W W' → KpP (Upto Pk (w.heap.size + 1 + 1) m) W W' → I m pre W' → Ax x a' W' → K a' W') →
      assign.wpIn (Fence.wide.inRound l) (n - 1 - 1) P (Exit.then K (fun _ _ _ => False)) { tmps := (ps.zip (enc x)).foldl (fun t (p, v) => t.setIfInBounds p v) a.tmps, defers := [] } W)
    (hbody : ∀ (l m : Nat) (pre : List α) (x : α) (a' : Act) (W : World), w.heap.size ≤ l → w.heap.size + 1 + 1 ≤ m → I m pre W → Ax x a' W → pre.length < xs.length →
      body.wpIn (Fence.wide.inRound l) (n - 1 - 1) P (Exit.then (fun _ W' => KeepsFrom w.heap.size W W' ∧ KpP (Upto Pk (w.heap.size + 1 + 1) m) W W' ∧ I m (pre ++ [x]) W') (fun _ _ _ => False)) a' W)
    (hdone : ∀ (D m : Nat) (W : World), w.heap.size ≤ D → w.heap.size ≤ m → I m xs W → W.heap[D]? = some (.deferred (some [])) → Q .normal { a with defers := { target := .collected D, args := #[] } :: a.defers } W) :
    (Code.rangeFunc g ps assign body).wpIn Fence.wide n P Q a w := by
  refine wpIn_rangeFunc fun fn hfn => ?_
  obtain ⟨B, hB⟩ : ∃ B, B = w.heap.size := ⟨_, rfl⟩
  obtain ⟨rc, hrc⟩ : ∃ rc : LoopState → Loop, rc = fun st => { state := st, pending := none, fn, tmps := a.tmps, params := ps, assign, body, defers := B } := ⟨_, rfl⟩
  have est : ∀ st, (rc st).state = st := fun st => by rw [hrc]
  obtain ⟨W1, hW1⟩ : ∃ W1, (w.alloc (.deferred (some []))).alloc (.loop (rc .ready)) = W1 := ⟨_, rfl⟩
  have s1 : W1.heap.size = w.heap.size + 1 + 1 := by rw [← hW1]; simp
  have L1 : Lies B (rc .ready) W1 := by
    rw [← hW1, hB]
    refine ⟨(Below.heap_alloc _ _ _ (by simp)).trans (World.alloc_heap_new w _), ?_⟩
    have := World.alloc_heap_new (w.alloc (.deferred (some []))) (.loop (rc .ready))
    rwa [World.size_alloc] at this
  have B1 : Below w.heap.size w W1 := by
    rw [← hW1]; exact ((Below.refl _ w).alloc (Nat.le_refl _) _).alloc (by simp) _
  have en := run_enterLoop_outer (P := P) (w := w) fn a.tmps ps assign body
  rw [← hB] at en
  have er : (Instr.enterLoop fn a.tmps ps assign body none).run P w = .ok (B + 1, [{ target := .collected B, args := #[] }]) W1 := by rw [en, ← hW1, hrc]
  have put : ∀ (m : Nat) (W : World) (r : Loop), KpP (Upto Pk (w.heap.size + 1 + 1) m) W (W.putObj (B + 1) (.loop r)) := fun m W r k hk => World.putObj_heap_other (by
    rcases hk with hk | hk
    · have := hPk k hk; omega
    · omega)
  refine ⟨B + 1, _, W1, { target := .fn (.func gf) #[], args := front ++ #[.func (.yield (B + 1)) #[] #[]] }, W1, gf, front ++ #[.func (.yield (B + 1)) #[] #[]], W1, er, ?_, fun _ _ => trivial, ?_, fun _ => h1, ?_⟩
  · simp only [resolve, hg]
    simp [go_sem]
  · simp [invoke, go_sem, eg]
  have hcall := hT W1 B1 (B + 1) (fun m pre W => w.heap.size + 1 + 1 ≤ m ∧ I m pre W ∧ Lies B (rc .ready) W)
    (fun m s X Y row hs hg' hr => ⟨hs.1, hI m s X Y row hs.2.1 hg' (fun x e => by
      obtain ⟨q1, o, q2, q3⟩ := hr x e
      exact ⟨by omega, o, q2, Obj.not_cells_of_walk q3⟩), hs.2.2.grown hg' hr⟩)
  refine calls_any ((hcall ?_ (fun W2 hW2 => ⟨by have := hW2.size; omega, h0 W2 (B1.trans (hW2.mono (by omega))), (hW2.block B (by omega)).trans L1.mark, (hW2.block (B + 1) (by omega)).trans L1.rec_⟩)).mono ?_)
  · rintro m pre x W - ⟨hm, hi, hl⟩ hlen
    have hy := run_yield (P := P) (args := enc x) hl.rec_ (by rw [hrc]; exact hps x)
    rw [hrc] at hy
    refine yield_any (n := n - 1 - 1) ⟨fn, _, assign, body, hy, roundIn_of_wpIn hfn (hassign _ m pre x W _ hi fun a' V kf kp hi' ha => ?_)⟩
    clear hy
    have hv := hl.keeps (by rw [hB]; exact kf)
    have hv2 := hv.turned { rc .ready with state := .busy }
    refine ⟨_, run_beginRound hv.rec_ (est _), wpIn_mono (hbody _ m pre x a' _ (by omega) hm ((hI m).putObj _ hi' (by omega) hv.rec_ rfl) ((hAx x a').putObj (s := ()) _ ha (by omega) hv.rec_ rfl) hlen) ?_⟩
    rintro e a3 V3 hp
    cases e with
    | normal =>
      obtain ⟨k3, p3, i3⟩ := hp
      rw [← hB] at k3
      have hv3 := hv2.keeps k3
      have hend := run_endRound (P := P) none hv3.rec_
      have hv4 := hv3.turned (rc .ready)
      have erc : ({ ({ rc .ready with state := .busy } : Loop) with state := if (none : Option Code).isNone then LoopState.ready else .done, pending := none } : Loop) = rc .ready := by rw [hrc]; rfl
      rw [erc] at hend
      rw [s1]
      exact ⟨_, _, hend, rfl, ⟨hm, (hI m).putObj _ i3 (by omega) hv3.rec_ rfl, hv4⟩, kp.trans (((put m _ _).trans p3).trans (put m _ _))⟩
    | ret => exact hp.elim
    | exit id => exact hp.elim
    | goto t => exact hp.elim
    | panic ch => exact hp.elim
    | outgrown => exact hp.elim
  · rintro e W2 ⟨⟨v, rfl⟩, m, hm, -, hi, hl⟩
    have hend := run_endLoop (P := P) hl.rec_ (by rw [est]; simp)
    rw [show (rc .ready).pending = none by rw [hrc]] at hend
    exact ⟨none, _, hend, hdone B m _ (by omega) (by omega) ((hI m).putObj _ hi (by omega) hl.rec_ rfl) ((World.putObj_heap_other (by omega)).trans hl.mark)⟩

end Go.Proofs.YtkombdkhodjckaaGreat

namespace Go.Proofs.YtkombdkhodjckaaGreat
set_option linter.unusedVariables false
set_option linter.unusedSimpArgs false
open Go.RowKit Go.Shelf

attribute [local go_sem] Oper.semAt_some

variable {n₀ bh b lim used : Nat} {vw vb : Value} {w : World} {M : List Ob}

theorem Hp.keptP {P : Nat → Prop} {W W' : World} (h : Hp n₀ bh b vw vb W lim used M) (hP : ∀ k, (k = bh ∨ k = b ∨ vw.ownBlock = some k ∨ vb.ownBlock = some k) → P k) (hk : KpP P W W') : Hp n₀ bh b vw vb W' lim used M :=
  h.kept (fun k e => hk k (hP k e))

def lkv (x : Lk) : Value := .agg #[.int .i64 x.word, .int .i64 x.to, .int .u64 x.more]

theorem grown_belowG {A B : World} (h : Below A.heap.size A B) : A.grownBy B none := ⟨h.os, h.tape, h.output, h.size, fun k hk _ => h.block k hk⟩

theorem abides_below {β : Type} {n : Nat} {J : β → World → Prop} (hJ : AbidesFrom n J) {s : β} {A B : World} (h : J s A) (hB : Below A.heap.size A B) : J s B :=
  hJ s A B none h (grown_belowG hB) (fun r e => by cases e)

theorem prs_step {M : List Ob} {ws : List Nat} {i k n : Nat} (hk : ws[i]? = some k) (hn : ws[i + 1]? = some n) : prs M i (ws.drop i) = (if Leads M k n then [⟨i + 1, n, 0⟩] else []) ++ prs M (i + 2) (ws.drop (i + 2)) := by
  have h1 : i < ws.length := (List.getElem?_eq_some_iff.1 hk).1
  have h2 : i + 1 < ws.length := (List.getElem?_eq_some_iff.1 hn).1
  rw [List.drop_eq_getElem_cons h1, List.drop_eq_getElem_cons h2]
  rw [List.getElem?_eq_getElem h1] at hk
  rw [List.getElem?_eq_getElem h2] at hn
  simp only [Option.some.injEq] at hk hn
  rw [hk, hn]
  rfl

theorem prs_end {M : List Ob} {ws : List Nat} {i : Nat} (h : ws.length ≤ i + 1) : prs M i (ws.drop i) = [] := by
  have : (ws.drop i).length ≤ 1 := by simp; omega
  match e : ws.drop i with
  | [] => rfl
  | [_] => rfl
  | _ :: _ :: _ => rw [e] at this; simp at this

def Heaps (bh b : Nat) (vw vb : Value) (P : Nat → Prop) : Prop := ∀ k, (k = bh ∨ k = b ∨ vw.ownBlock = some k ∨ vb.ownBlock = some k) → P k

set_option maxRecDepth 100000 in
set_option maxHeartbeats 2000000 in
theorem pairs_tells {lq rq : List Ob} {o : Ob} {P : Nat → Prop} (hP : Heaps bh b vw vb P) {W : World} (hPl : ∀ k, P k → k < W.heap.size) (hW0 : Hp n₀ bh b vw vb W lim used (lq ++ o :: rq))
    (from_ to_ : Nat) (hto : to_ ≤ o.ws.length) (hfr : from_ ≤ 1) {L : List Lk} (xs : List { x : Lk // x ∈ L }) (hxs : xs.map (·.val) = prs (lq ++ o :: rq) from_ ((o.ws.take to_).drop from_)) :
    TellsAt Tryz.prog 108 #[.agg #[.pointer (some ⟨bh, 0, none⟩), .int .i64 o.at_], .int .i64 from_, .int .i64 to_] (fun x : { x : Lk // x ∈ L } => #[lkv x.val]) P xs W := by
  intro l J hJ hY h0
  have hb20 : o.ws.length ≤ 1048576 := by
    have := hW0.srt.2 o (by simp); have := hW0.le; unfold Ob.end_ at *; omega
  have hu : ∀ q ∈ lq ++ o :: rq, q.at_ < 1048576 := fun q hq => by
    have := hW0.srt.2 q hq; have := hW0.le; unfold Ob.end_ at *; omega
  refine calls_any (n := 1) ?_
  refine callsIn_of_wp Tryz.func108 rfl trivial ?_ rfl
  simp only [Tryz.ntmps108, List.size_toArray, List.length_cons, List.length_nil, Nat.reduceAdd, Nat.reduceSub, Array.replicate_succ, Array.replicate_zero, List.push_toArray, List.append_toArray, List.nil_append, List.cons_append]
  gi_wp2
  obtain ⟨V, hV⟩ : ∃ V, W.alloc (.cells #[.pointer (some ⟨bh, 0, none⟩), .int .i64 o.at_] 128) = V := ⟨_, rfl⟩
  have hBV : Below W.heap.size W V := by rw [← hV]; exact below1 _ _
  have hrow : V.heap[W.heap.size]? = some (.cells #[.pointer (some ⟨bh, 0, none⟩), .int .i64 o.at_] 128 (0, 0)) := by rw [← hV]; exact heap_alloc_new W _
  have ch : V.cell? ⟨W.heap.size, 0, none⟩ = some (.pointer (some ⟨bh, 0, none⟩)) := by rw [cell_of_row _ W.heap.size 0 _ _ _ hrow]; rfl
  have ca : V.cell? ⟨W.heap.size, 1, none⟩ = some (.int .i64 o.at_) := by rw [cell_of_row _ W.heap.size 1 _ _ _ hrow]; rfl
  have hVs : V.heap.size = W.heap.size + 1 := by rw [← hV]; simp
  have hW := hW0.below hBV
  have h0 := h0 V hBV
  rw [hV]
  clear hV hrow
  obtain ⟨Bo, hBo⟩ : ∃ Bo, W.heap.size = Bo := ⟨_, rfl⟩
  obtain ⟨m, hm⟩ : ∃ m, V.heap.size = m := ⟨_, rfl⟩
  rw [hm] at h0
  rw [hBo] at hY ch ca hVs ⊢
  have hPt : ∀ k, Upto P Bo m k → k < V.heap.size := fun k hk => by
    rcases hk with hk | hk
    · have := hPl k hk; omega
    · omega
  have hPlt : ∀ k, Upto P Bo m k → ∀ wr, KpP (Upto P Bo m) V wr → k < wr.heap.size := fun k hk wr h => by
    have h1 := h k hk
    rw [Array.getElem?_eq_getElem (hPt k hk)] at h1
    exact (Array.getElem?_eq_some_iff.1 h1).1
  have hPB : Upto P Bo m Bo := .inr ⟨Nat.le_refl _, by omega⟩
  gi_loopw [8] (fun p wr => ∃ (pre rest : List { x : Lk // x ∈ L }) (i : Nat), p = .int .i64 i ∧ xs = pre ++ rest ∧ rest.map (·.val) = prs (lq ++ o :: rq) i ((o.ws.take to_).drop i) ∧ J m pre wr ∧ KpP (Upto P Bo m) V wr ∧ i ≤ to_ + 1)
    (fun p _ => to_ - (intOf p).toNat)
  case atStart => exact ⟨[], xs, from_, rfl, rfl, hxs, h0, KpP.refl _ _, by omega⟩
  case round =>
    obtain ⟨pre, rest, i, rfl, hx, hl, hJs, hk, hib⟩ := hrel
    have hWr := hW.keptP (fun k e => .inl (hP k e)) hk
    have ch' := hk.cell hPB ch
    have ca' := hk.cell hPB ca
    by_cases hi : i + 1 < to_
    · obtain ⟨k0, hk0⟩ : ∃ k0, o.ws[i]? = some k0 := ⟨o.ws[i]'(by omega), by simp⟩
      obtain ⟨m0, hm0⟩ : ∃ m0, o.ws[i + 1]? = some m0 := ⟨o.ws[i + 1]'(by omega), by simp⟩
      have h64 := hWr.word_lt hm0
      rw [prs_step (k := k0) (n := m0) (by rw [List.getElem?_take, if_pos (by omega)]; exact hk0) (by rw [List.getElem?_take, if_pos (by omega)]; exact hm0)] at hl
      have H1 := held_in hWr i k0 m0 hk0 hm0
      have H2 := fun w' (hB : Below wr.heap.size wr w') => leads_in (hWr.below hB) (heldK k0) (heldN k0 m0)
      have hi' : (i : Int) + 1 < (to_ : Int) := by omega
      by_cases hL : Leads (lq ++ o :: rq) k0 m0
      · rw [if_pos hL] at hl
        cases rest with
        | nil => simp at hl
        | cons x rest =>
          simp only [List.map_cons, List.cons_append, List.nil_append, List.cons.injEq] at hl
          obtain ⟨hx1, hl⟩ := hl
          have hY' := fun W2 (hB : Below wr.heap.size wr W2) => hY m pre x W2 (by omega) (abides_below (hJ m) hJs hB) (by rw [hx]; simp)
          rw [hx1] at hY'
          have ed : decide (Leads (lq ++ o :: rq) (heldK k0) (heldN k0 m0)) = true := by simpa using (held_leads hu h64).2 hL
          rw [ed] at H2
          rw [held_at hu h64 hL] at H1 H2
          have hx0 : x.val = ⟨i + 1, m0, 0⟩ := hx1
          have HX : Hid _ := And.intro hx (And.intro hx0 hl)
          clear hx hx0 hx1 hl ed hxs
          gi_wp2_with (first
            | (refine ⟨trivial, ?_⟩; gi_at_call 124; refine (callsIn_wide.2 H1).mono ?_; clear H1; rintro e w1 ⟨rfl, hB1⟩; have ch1 := (hB1.cell (p := ⟨Bo, 0, none⟩) (World.block_lt_of_cell? wr _ ch')).trans ch'; have ch2 := cell_alloc_l (.cells #[.int .u8 (heldK k0), .int .i64 m0] 29) ch1)
            | (refine ⟨trivial, ?_⟩; gi_at_call 72; refine (callsIn_wide.2 (H2 _ (hB1.alloc hB1.size _))).mono ?_; clear H2; rintro e w2 ⟨rfl, hB2⟩; have c5 : w2.cell? ⟨w1.heap.size, 1, none⟩ = some (.int .i64 m0) := (hB2.cell (p := ⟨w1.heap.size, 1, none⟩) (by simp)).trans (by rw [cell_of_row _ w1.heap.size 1 _ _ _ (heap_alloc_new w1 _)]; rfl); have hB3 : Below wr.heap.size wr w2 := (hB1.alloc hB1.size _).trans (hB2.mono (by have := hB1.size; simp; omega)); obtain ⟨fn, tmps, assign, body, hy, hR⟩ := hY' w2 hB3; simp only [lkv, Int.natCast_add, Int.cast_ofNat_Int] at hy))
          refine hR.mono ?_
          rintro e W3 ⟨rfl, hJ3, hk3⟩
          have hkB : KpP (Upto P Bo m) wr w2 := fun k hk' => hB3.block k (hPlt k hk' wr hk)
          gi_wp2
          go_roundw
          case rel =>
            obtain ⟨q1, q2, q3⟩ := HX.out
            exact ⟨pre ++ [x], rest, i + 2, by simp, by simp [q1], q3, hJ3, hk.trans (hkB.trans hk3), by omega⟩
          case measure => simp [intOf]; omega
      · rw [if_neg hL] at hl
        simp only [List.nil_append] at hl
        have ed : decide (Leads (lq ++ o :: rq) (heldK k0) (heldN k0 m0)) = false := by
          simp only [decide_eq_false_iff_not]; exact fun h => hL ((held_leads hu h64).1 h)
        rw [ed] at H2
        have HX : Hid _ := And.intro hx hl
        clear hx hl ed hxs
        gi_wp2_with (first
          | (refine ⟨trivial, ?_⟩; gi_at_call 124; refine (callsIn_wide.2 H1).mono ?_; clear H1; rintro e w1 ⟨rfl, hB1⟩; have ch1 := (hB1.cell (p := ⟨Bo, 0, none⟩) (World.block_lt_of_cell? wr _ ch')).trans ch'; have ch2 := cell_alloc_l (.cells #[.int .u8 (heldK k0), .int .i64 (heldN k0 m0)] 29) ch1)
          | (refine ⟨trivial, ?_⟩; gi_at_call 72; refine (callsIn_wide.2 (H2 _ (hB1.alloc hB1.size _))).mono ?_; clear H2; rintro e w2 ⟨rfl, hB2⟩; have hB3 : Below wr.heap.size wr w2 := (hB1.alloc hB1.size _).trans (hB2.mono (by have := hB1.size; simp; omega))))
        refine ⟨fun _ h => (by cases h), ?_⟩
        gi_wp2
        have hkB : KpP (Upto P Bo m) wr w2 := fun k hk' => hB3.block k (hPlt k hk' wr hk)
        go_roundw
        case rel =>
          obtain ⟨q1, q3⟩ := HX.out
          exact ⟨pre, rest, i + 2, by simp, q1, q3, abides_below (hJ m) hJs hB3, hk.trans hkB, by omega⟩
        case measure => simp [intOf]; omega
    · have hi' : ¬ ((i : Int) + 1 < (to_ : Int)) := by omega
      rw [prs_end (by simp; omega)] at hl
      have hr : rest = [] := List.map_eq_nil_iff.1 hl
      have HX : Hid _ := And.intro hx hr
      clear hx hl hr hxs
      gi_wp2
      refine bodyPost_end (results_none (by rfl) _ _ _) (by rfl) ?_
      obtain ⟨q1, q3⟩ := HX.out
      have q4 : xs = pre := by simp [q1, q3]
      rw [← q4] at hJs
      exact ⟨⟨_, rfl⟩, m, by omega, hJs⟩

end Go.Proofs.YtkombdkhodjckaaGreat

namespace Go.Proofs.YtkombdkhodjckaaGreat
set_option linter.unusedVariables false
set_option linter.unusedSimpArgs false
open Go.RowKit Go.Shelf

attribute [local go_sem] Oper.semAt_some

variable {n₀ bh b lim used : Nat} {vw vb : Value} {w : World} {M : List Ob}

set_option maxRecDepth 100000 in
set_option maxHeartbeats 2000000 in
theorem items_tells {lq rq : List Ob} {o : Ob} {P : Nat → Prop} {W0 : World} (hW0 : Hp n₀ bh b vw vb W0 lim used (lq ++ o :: rq))
    {L : List Lk} (xs : List { x : Lk // x ∈ L }) (hxs : xs.map (·.val) = itemsL (lq ++ o :: rq) o.ws) :
    TellsAt Tryz.prog 107 #[.agg #[.pointer (some ⟨bh, 0, none⟩), .int .i64 o.at_]] (fun x : { x : Lk // x ∈ L } => #[lkv x.val]) P xs W0 := by
  intro l J hJ hY h0
  refine calls_any (n := 1) ?_
  have hrow := heap_alloc_new W0 (.cells #[.pointer (some ⟨bh, 0, none⟩), .int .i64 o.at_] 128)
  have hBV := below1 W0 (.cells #[.pointer (some ⟨bh, 0, none⟩), .int .i64 o.at_] 128)
  have ch : (W0.alloc (.cells #[.pointer (some ⟨bh, 0, none⟩), .int .i64 o.at_] 128)).cell? ⟨W0.heap.size, 0, none⟩ = some (.pointer (some ⟨bh, 0, none⟩)) := by rw [cell_of_row _ W0.heap.size 0 _ _ _ hrow]; rfl
  have ca : (W0.alloc (.cells #[.pointer (some ⟨bh, 0, none⟩), .int .i64 o.at_] 128)).cell? ⟨W0.heap.size, 1, none⟩ = some (.int .i64 o.at_) := by rw [cell_of_row _ W0.heap.size 1 _ _ _ hrow]; rfl
  have hW := hW0.below hBV
  have h0 := h0 _ hBV
  have hY := fun x hx => hY _ [] x _ hBV.size h0 hx
  have hend : ∀ V : World, V = W0.alloc (.cells #[.pointer (some ⟨bh, 0, none⟩), .int .i64 o.at_] 128) → xs = [] → ∃ m, W0.heap.size ≤ m ∧ J m xs V := fun V e e' => by rw [e, e']; exact ⟨_, hBV.size, h0⟩
  clear hrow hBV
  have hu : ∀ q ∈ lq ++ o :: rq, q.at_ < 1048576 := fun q hq => by
    have := hW.srt.2 q hq; have := hW.le; unfold Ob.end_ at *; omega
  cases h1 : o.ws[1]? with
  | none =>
    have H1 := readM_out hW 1 (.inr (by rw [List.getElem?_eq_none_iff] at h1; omega))
    have hr : xs = [] := List.map_eq_nil_iff.1 (hxs.trans (by simp [itemsL, h1]))
    clear hxs hY h1
    refine callsIn_of_wp Tryz.func107 rfl trivial ?_ rfl
    simp only [Tryz.ntmps107, List.size_toArray, List.length_cons, List.length_nil, Nat.reduceAdd, Nat.reduceSub, Array.replicate_succ, Array.replicate_zero, List.push_toArray, List.append_toArray, List.nil_append, List.cons_append]
    gi_wp2_with (first
      | (refine ⟨trivial, ?_⟩; gi_at_call 115; refine (callsIn_wide.2 H1).mono ?_; clear H1; rintro e w1 ⟨rfl, rfl⟩))
    refine bodyPost_ret (results_none (by rfl) _ _ _) (by rfl) ?_
    exact ⟨⟨_, rfl⟩, hend _ rfl hr⟩
  | some x =>
    have H1 := readM hW 1 x h1
    have h64 := hW.word_lt h1
    by_cases hx0 : x = 0
    · subst hx0
      have hr : xs = [] := List.map_eq_nil_iff.1 (hxs.trans (by simp [itemsL, h1]))
      clear hxs hY h1
      refine callsIn_of_wp Tryz.func107 rfl trivial ?_ rfl
      simp only [Tryz.ntmps107, List.size_toArray, List.length_cons, List.length_nil, Nat.reduceAdd, Nat.reduceSub, Array.replicate_succ, Array.replicate_zero, List.push_toArray, List.append_toArray, List.nil_append, List.cons_append]
      gi_wp2_with (first
        | (refine ⟨trivial, ?_⟩; gi_at_call 115; refine (callsIn_wide.2 H1).mono ?_; clear H1; rintro e w1 ⟨rfl, rfl⟩))
      refine bodyPost_ret (results_none (by rfl) _ _ _) (by rfl) ?_
      exact ⟨⟨_, rfl⟩, hend _ rfl hr⟩
    · have hx1b : ((x : Int) == 0) = false := by simp; omega
      have ez : wrap64 ((x : Int) - 1) = wrap64 ((x - 1 : Nat) : Int) := by congr 1; omega
      have hI := wrap_at hu (n := x - 1) (by omega) 8
      rw [← ez] at hI
      obtain ⟨z, hz⟩ : ∃ z, wrap64 ((x : Int) - 1) = z := ⟨_, rfl⟩
      rw [hz] at hI
      have hzu : ∀ q ∈ lq ++ o :: rq, (q.at_ : Int) = z → x - 1 = q.at_ := by
        intro q hq e
        have := hu q hq
        rw [← hz] at e
        simp only [wrap64] at e
        omega
      clear ez
      rcases at_cases (lq ++ o :: rq) z with hno | ⟨l2, q, r2, hq, hqz⟩
      · have H2 := kindM_none hW z hno
        have hr : xs = [] := List.map_eq_nil_iff.1 (hxs.trans (by
          have : ¬ Is (lq ++ o :: rq) 8 ((x - 1 : Nat) : Int) := fun h => by
            obtain ⟨q, hq, e, _⟩ := hI.2 h
            exact hno q hq e
          simp only [itemsL, h1]
          rw [if_neg (fun h => this h.2)]))
        clear hxs hY h1 hI hzu hno
        refine callsIn_of_wp Tryz.func107 rfl trivial ?_ rfl
        simp only [Tryz.ntmps107, List.size_toArray, List.length_cons, List.length_nil, Nat.reduceAdd, Nat.reduceSub, Array.replicate_succ, Array.replicate_zero, List.push_toArray, List.append_toArray, List.nil_append, List.cons_append]
        gi_wp2_with (first
          | (refine ⟨trivial, ?_⟩; gi_at_call 115; refine (callsIn_wide.2 H1).mono ?_; clear H1; rintro e w1 ⟨rfl, rfl⟩)
          | (refine ⟨trivial, ?_⟩; gi_at_call 101; refine (callsIn_wide.2 H2).mono ?_; clear H2; rintro e w1 ⟨rfl, rfl⟩))
        refine bodyPost_end (results_none (by rfl) _ _ _) (by rfl) ?_
        exact ⟨⟨_, rfl⟩, hend _ rfl hr⟩
      · have hqm : q ∈ lq ++ o :: rq := by rw [hq]; simp
        have hWq := hW
        rw [hq] at hWq
        have H2 := kindM hWq
        rw [hqz] at H2
        have hxq := hzu q hqm hqz
        by_cases h8 : q.kind = 8
        · have hI8 : Is (lq ++ o :: rq) 8 ((x - 1 : Nat) : Int) := ⟨q, hqm, by omega, h8⟩
          have hl : xs.map (·.val) = [⟨1, x - 1, 1⟩] := hxs.trans (by
            simp only [itemsL, h1]
            rw [if_pos ⟨hx0, hI8⟩])
          cases xs with
          | nil => simp at hl
          | cons y ys =>
            simp only [List.map_cons, List.cons.injEq] at hl
            obtain ⟨hy1, hys⟩ := hl
            have hys := List.map_eq_nil_iff.1 hys
            subst hys
            rw [h8] at H2
            have hzx : z = ((x - 1 : Nat) : Int) := by rw [hxq, ← hqz]
            obtain ⟨fn, tmps, assign, body, hy, hR⟩ := hY y (by simp)
            change Sem.run _ (Instr.yield l #[lkv y.val]) _ = _ at hy
            rw [hy1] at hy
            simp only [lkv, Int.cast_ofNat_Int] at hy
            rw [← hzx] at hy
            clear hxs hY h1 hI hzu hI8 hy1 hWq hzx
            refine callsIn_of_wp Tryz.func107 rfl trivial ?_ rfl
            simp only [Tryz.ntmps107, List.size_toArray, List.length_cons, List.length_nil, Nat.reduceAdd, Nat.reduceSub, Array.replicate_succ, Array.replicate_zero, List.push_toArray, List.append_toArray, List.nil_append, List.cons_append]
            gi_wp2_with (first
              | (refine ⟨trivial, ?_⟩; gi_at_call 115; refine (callsIn_wide.2 H1).mono ?_; clear H1; rintro e w1 ⟨rfl, rfl⟩)
              | (refine ⟨trivial, ?_⟩; gi_at_call 101; refine (callsIn_wide.2 H2).mono ?_; clear H2; rintro e w1 ⟨rfl, rfl⟩))
            refine hR.mono ?_
            rintro e W3 ⟨rfl, hJ3, hk3⟩
            gi_wp2
            refine bodyPost_end (results_none (by rfl) _ _ _) (by rfl) ?_
            exact ⟨⟨_, rfl⟩, _, by simp, hJ3⟩
        · have hr : xs = [] := List.map_eq_nil_iff.1 (hxs.trans (by
            have : ¬ Is (lq ++ o :: rq) 8 ((x - 1 : Nat) : Int) := fun h => by
              obtain ⟨q', hq', e, e8⟩ := h
              obtain rfl := hW.srt.1.uniq hq' hqm (by omega)
              exact h8 e8
            simp only [itemsL, h1]
            rw [if_neg (fun h => this h.2)]))
          have h8b : ((q.kind : Int) == 8) = false := by simp; omega
          clear hxs hY h1 hI hzu hWq
          refine callsIn_of_wp Tryz.func107 rfl trivial ?_ rfl
          simp only [Tryz.ntmps107, List.size_toArray, List.length_cons, List.length_nil, Nat.reduceAdd, Nat.reduceSub, Array.replicate_succ, Array.replicate_zero, List.push_toArray, List.append_toArray, List.nil_append, List.cons_append]
          gi_wp2_with (first
            | (refine ⟨trivial, ?_⟩; gi_at_call 115; refine (callsIn_wide.2 H1).mono ?_; clear H1; rintro e w1 ⟨rfl, rfl⟩)
            | (refine ⟨trivial, ?_⟩; gi_at_call 101; refine (callsIn_wide.2 H2).mono ?_; clear H2; rintro e w1 ⟨rfl, rfl⟩))
          refine bodyPost_end (results_none (by rfl) _ _ _) (by rfl) ?_
          exact ⟨⟨_, rfl⟩, hend _ rfl hr⟩

end Go.Proofs.YtkombdkhodjckaaGreat

namespace Go.Proofs.YtkombdkhodjckaaGreat
set_option linter.unusedVariables false
set_option linter.unusedSimpArgs false
open Go.RowKit Go.Shelf

attribute [local go_sem] Oper.semAt_some

variable {n₀ bh b lim used : Nat} {vw vb : Value} {w : World} {M : List Ob}

theorem below_2 (w : World) (o1 o2 : Obj) : Below w.heap.size w ((w.alloc o1).alloc o2) := (below1 w o1).alloc (by simp) _

/-- An iterator that is called by another, in a world that has grown since: what is told to the inner one. -/
theorem TellsAt.after {α : Type} {P : Program} {g : Nat} {front : Array Value} {enc : α → Array Value} {Pk : Nat → Prop} {xs : List α} {W V : World} (hB : Below W.heap.size W V) (h : TellsAt P g front enc Pk xs V)
    (l : Nat) (J : Nat → List α → World → Prop) (hJ : ∀ m, AbidesFrom W.heap.size (J m))
    (hY : ∀ m pre x W1, W.heap.size ≤ m → J m pre W1 → pre.length < xs.length → YieldAt Fence.wide 0 P l (enc x) W1 fun e W' => e = .returned (.bool true) ∧ J m (pre ++ [x]) W' ∧ KpP (Upto Pk W.heap.size m) W1 W')
    (h0 : ∀ W2, Below W.heap.size W W2 → J W2.heap.size [] W2) :
    Calls P g (front ++ #[.func (.yield l) #[] #[]]) V fun e W' => (∃ v, e = .returned v) ∧ ∃ m, W.heap.size ≤ m ∧ J m xs W' := by
  refine callsIn_wide.1 ((h l J (fun m s X Y row hs hg hr => hJ m s X Y row hs hg (fun r e => ⟨Nat.le_trans hB.size (hr r e).1, (hr r e).2⟩)) (fun m pre x W1 hm hj hl => ?_) (fun W2 h2 => h0 W2 (hB.trans (h2.mono hB.size)))).mono ?_)
  · obtain ⟨fn, tmps, as_, body, hy, hR⟩ := hY m pre x W1 (Nat.le_trans hB.size hm) hj hl
    refine ⟨fn, tmps, as_, body, hy, hR.mono ?_⟩
    rintro e W' ⟨h1, h2, h3⟩
    refine ⟨h1, h2, h3.weak ?_⟩
    rintro k (hk | hk)
    · exact .inl hk
    · exact .inr ⟨Nat.le_trans hB.size hk.1, hk.2⟩
  · rintro e W' ⟨h1, m, h2, h3⟩
    exact ⟨h1, m, Nat.le_trans hB.size h2, h3⟩

set_option maxRecDepth 100000 in
set_option maxHeartbeats 2000000 in
theorem links_tells {lq rq : List Ob} {o : Ob} {P : Nat → Prop} (hP : Heaps bh b vw vb P) {W0 : World} (hPl : ∀ k, P k → k < W0.heap.size) (h : Hp n₀ bh b vw vb W0 lim used (lq ++ o :: rq))
    {L : List Lk} (xs : List { x : Lk // x ∈ L }) (hxs : xs.map (·.val) = links (lq ++ o :: rq) o) :
    TellsAt Tryz.prog 76 #[.agg #[.pointer (some ⟨bh, 0, none⟩), .int .i64 o.at_]] (fun x : { x : Lk // x ∈ L } => #[lkv x.val]) P xs W0 := by
  intro l J hJ hY h0
  refine calls_any (n := 1) ?_
  have hrow := heap_alloc_new W0 (.cells #[.pointer (some ⟨bh, 0, none⟩), .int .i64 o.at_] 128)
  have hBV := below1 W0 (.cells #[.pointer (some ⟨bh, 0, none⟩), .int .i64 o.at_] 128)
  have ch : (W0.alloc (.cells #[.pointer (some ⟨bh, 0, none⟩), .int .i64 o.at_] 128)).cell? ⟨W0.heap.size, 0, none⟩ = some (.pointer (some ⟨bh, 0, none⟩)) := by rw [cell_of_row _ W0.heap.size 0 _ _ _ hrow]; rfl
  have ca : (W0.alloc (.cells #[.pointer (some ⟨bh, 0, none⟩), .int .i64 o.at_] 128)).cell? ⟨W0.heap.size, 1, none⟩ = some (.int .i64 o.at_) := by rw [cell_of_row _ W0.heap.size 1 _ _ _ hrow]; rfl
  have hW := h.below hBV
  have H1 := kindM hW
  have H2 := sizeM hW
  have hkn : 3 ≤ o.kind ∧ o.kind ≤ 8 := by
    obtain ⟨A, _, h2, _⟩ := h; exact h2.knd o (by simp)
  have hsz : o.ws.length ≤ 1048576 := by
    have := h.srt.2 o (by simp); have := h.le; unfold Ob.end_ at *; omega
  have hPl' : ∀ k, P k → k < (W0.alloc (.cells #[.pointer (some ⟨bh, 0, none⟩), .int .i64 o.at_] 128)).heap.size := fun k hk => Nat.lt_of_lt_of_le (hPl k hk) hBV.size
  have H3 := fun hx => (items_tells (P := P) hW xs hx).after hBV l J hJ hY h0
  have H4 := fun f t ht hf hx => (pairs_tells hP hPl' hW f t ht hf xs hx).after hBV l J hJ hY h0
  simp only [List.push_toArray, List.append_toArray, List.nil_append, List.cons_append] at H3 H4
  have hend : xs = [] → ∃ m, W0.heap.size ≤ m ∧ J m xs (W0.alloc (.cells #[.pointer (some ⟨bh, 0, none⟩), .int .i64 o.at_] 128)) := fun e' => by rw [e']; exact ⟨_, hBV.size, h0 _ hBV⟩
  clear hrow hBV hJ hY h0 hW hPl' hPl
  rcases (by omega : o.kind = 3 ∨ o.kind = 4 ∨ o.kind = 5 ∨ o.kind = 6 ∨ o.kind = 7 ∨ o.kind = 8) with hk | hk | hk | hk | hk | hk
  · rw [hk] at H1
    have hr : xs = [] := List.map_eq_nil_iff.1 (hxs.trans (by simp [links, hk]))
    clear h hk hkn H3 H4 hxs
    refine callsIn_of_wp Tryz.func76 rfl trivial ?_ rfl
    simp only [Tryz.ntmps76, List.size_toArray, List.length_cons, List.length_nil, Nat.reduceAdd, Nat.reduceSub, Array.replicate_succ, Array.replicate_zero, List.push_toArray, List.append_toArray, List.nil_append, List.cons_append]
    gi_wp2_with (first
      | (refine ⟨trivial, ?_⟩; gi_at_call 101; refine (callsIn_wide.2 H1).mono ?_; clear H1; rintro e w' ⟨rfl, rfl⟩)
      | (refine ⟨trivial, ?_⟩; gi_at_call 98; refine (callsIn_wide.2 H2).mono ?_; clear H2; rintro e w' ⟨rfl, rfl⟩))
    refine bodyPost_end (results_none (by rfl) _ _ _) (by rfl) ?_
    exact ⟨⟨_, rfl⟩, hend hr⟩
  · rw [hk] at H1
    have H5 := H3 (hxs.trans (by unfold links; rw [if_pos (.inl hk)]))
    clear h hk hkn H3 H4 hxs hend
    refine callsIn_of_wp Tryz.func76 rfl trivial ?_ rfl
    simp only [Tryz.ntmps76, List.size_toArray, List.length_cons, List.length_nil, Nat.reduceAdd, Nat.reduceSub, Array.replicate_succ, Array.replicate_zero, List.push_toArray, List.append_toArray, List.nil_append, List.cons_append]
    gi_wp2_with (first
      | (refine ⟨trivial, ?_⟩; gi_at_call 101; refine (callsIn_wide.2 H1).mono ?_; clear H1; rintro e w' ⟨rfl, rfl⟩)
      | (refine ⟨trivial, ?_⟩; gi_at_call 98; refine (callsIn_wide.2 H2).mono ?_; clear H2; rintro e w' ⟨rfl, rfl⟩)
      | (refine ⟨trivial, ?_⟩; gi_at_call 107; refine (callsIn_wide.2 H5).mono ?_; clear H5; rintro e w' ⟨⟨v, rfl⟩, hJe⟩))
    refine bodyPost_end (results_none (by rfl) _ _ _) (by rfl) ?_
    exact ⟨⟨_, rfl⟩, hJe⟩
  · rw [hk] at H1
    have H5 := H3 (hxs.trans (by unfold links; rw [if_pos (.inr hk)]))
    clear h hk hkn H3 H4 hxs hend
    refine callsIn_of_wp Tryz.func76 rfl trivial ?_ rfl
    simp only [Tryz.ntmps76, List.size_toArray, List.length_cons, List.length_nil, Nat.reduceAdd, Nat.reduceSub, Array.replicate_succ, Array.replicate_zero, List.push_toArray, List.append_toArray, List.nil_append, List.cons_append]
    gi_wp2_with (first
      | (refine ⟨trivial, ?_⟩; gi_at_call 101; refine (callsIn_wide.2 H1).mono ?_; clear H1; rintro e w' ⟨rfl, rfl⟩)
      | (refine ⟨trivial, ?_⟩; gi_at_call 98; refine (callsIn_wide.2 H2).mono ?_; clear H2; rintro e w' ⟨rfl, rfl⟩)
      | (refine ⟨trivial, ?_⟩; gi_at_call 107; refine (callsIn_wide.2 H5).mono ?_; clear H5; rintro e w' ⟨⟨v, rfl⟩, hJe⟩))
    refine bodyPost_end (results_none (by rfl) _ _ _) (by rfl) ?_
    exact ⟨⟨_, rfl⟩, hJe⟩
  · rw [hk] at H1
    have H5 := H4 1 o.ws.length (Nat.le_refl _) (by omega) (hxs.trans (by simp [links, hk]))
    simp only [Int.cast_ofNat_Int] at H5
    clear h hk hkn H3 H4 hxs hend
    refine callsIn_of_wp Tryz.func76 rfl trivial ?_ rfl
    simp only [Tryz.ntmps76, List.size_toArray, List.length_cons, List.length_nil, Nat.reduceAdd, Nat.reduceSub, Array.replicate_succ, Array.replicate_zero, List.push_toArray, List.append_toArray, List.nil_append, List.cons_append]
    gi_wp2_with (first
      | (refine ⟨trivial, ?_⟩; gi_at_call 101; refine (callsIn_wide.2 H1).mono ?_; clear H1; rintro e w' ⟨rfl, rfl⟩)
      | (refine ⟨trivial, ?_⟩; gi_at_call 98; refine (callsIn_wide.2 H2).mono ?_; clear H2; rintro e w' ⟨rfl, rfl⟩)
      | (refine ⟨trivial, ?_⟩; gi_at_call 108; refine (callsIn_wide.2 H5).mono ?_; clear H5; rintro e w' ⟨⟨v, rfl⟩, hJe⟩))
    refine bodyPost_end (results_none (by rfl) _ _ _) (by rfl) ?_
    exact ⟨⟨_, rfl⟩, hJe⟩
  · rw [hk] at H1
    have hmn : min o.ws.length 2 ≤ o.ws.length := by omega
    have H5 := H4 0 (min o.ws.length 2) hmn (by omega) (hxs.trans (by simp [links, hk]; rw [Nat.min_comm, ← List.take_take]; simp))
    simp only [Int.cast_ofNat_Int] at H5
    clear h hk hkn H3 H4 hxs hend
    by_cases h2 : o.ws.length ≤ 2
    · have e2 : min o.ws.length 2 = o.ws.length := by omega
      rw [e2] at H5
      refine callsIn_of_wp Tryz.func76 rfl trivial ?_ rfl
      simp only [Tryz.ntmps76, List.size_toArray, List.length_cons, List.length_nil, Nat.reduceAdd, Nat.reduceSub, Array.replicate_succ, Array.replicate_zero, List.push_toArray, List.append_toArray, List.nil_append, List.cons_append]
      gi_wp2_with (first
        | (refine ⟨trivial, ?_⟩; gi_at_call 101; refine (callsIn_wide.2 H1).mono ?_; clear H1; rintro e w' ⟨rfl, rfl⟩)
        | (refine ⟨trivial, ?_⟩; gi_at_call 98; refine (callsIn_wide.2 H2).mono ?_; clear H2; rintro e w' ⟨rfl, rfl⟩)
        | (refine ⟨trivial, ?_⟩; gi_at_call 108; refine (callsIn_wide.2 H5).mono ?_; clear H5; rintro e w' ⟨⟨v, rfl⟩, hJe⟩))
      refine bodyPost_end (results_none (by rfl) _ _ _) (by rfl) ?_
      exact ⟨⟨_, rfl⟩, hJe⟩
    · have e2 : min o.ws.length 2 = 2 := by omega
      rw [e2] at H5
      simp only [Int.cast_ofNat_Int] at H5
      refine callsIn_of_wp Tryz.func76 rfl trivial ?_ rfl
      simp only [Tryz.ntmps76, List.size_toArray, List.length_cons, List.length_nil, Nat.reduceAdd, Nat.reduceSub, Array.replicate_succ, Array.replicate_zero, List.push_toArray, List.append_toArray, List.nil_append, List.cons_append]
      gi_wp2_with (first
        | (refine ⟨trivial, ?_⟩; gi_at_call 101; refine (callsIn_wide.2 H1).mono ?_; clear H1; rintro e w' ⟨rfl, rfl⟩)
        | (refine ⟨trivial, ?_⟩; gi_at_call 98; refine (callsIn_wide.2 H2).mono ?_; clear H2; rintro e w' ⟨rfl, rfl⟩)
        | (refine ⟨trivial, ?_⟩; gi_at_call 108; refine (callsIn_wide.2 H5).mono ?_; clear H5; rintro e w' ⟨⟨v, rfl⟩, hJe⟩))
      refine bodyPost_end (results_none (by rfl) _ _ _) (by rfl) ?_
      exact ⟨⟨_, rfl⟩, hJe⟩
  · rw [hk] at H1
    have H5 := H4 0 o.ws.length (Nat.le_refl _) (by omega) (hxs.trans (by simp [links, hk]))
    simp only [Int.cast_ofNat_Int] at H5
    clear h hk hkn H3 H4 hxs hend
    refine callsIn_of_wp Tryz.func76 rfl trivial ?_ rfl
    simp only [Tryz.ntmps76, List.size_toArray, List.length_cons, List.length_nil, Nat.reduceAdd, Nat.reduceSub, Array.replicate_succ, Array.replicate_zero, List.push_toArray, List.append_toArray, List.nil_append, List.cons_append]
    gi_wp2_with (first
      | (refine ⟨trivial, ?_⟩; gi_at_call 101; refine (callsIn_wide.2 H1).mono ?_; clear H1; rintro e w' ⟨rfl, rfl⟩)
      | (refine ⟨trivial, ?_⟩; gi_at_call 98; refine (callsIn_wide.2 H2).mono ?_; clear H2; rintro e w' ⟨rfl, rfl⟩)
      | (refine ⟨trivial, ?_⟩; gi_at_call 108; refine (callsIn_wide.2 H5).mono ?_; clear H5; rintro e w' ⟨⟨v, rfl⟩, hJe⟩))
    refine bodyPost_end (results_none (by rfl) _ _ _) (by rfl) ?_
    exact ⟨⟨_, rfl⟩, hJe⟩

theorem infoHolder : (Tryz.prog.info? 128).map (·.size) = some 2 := by kernel_rfl

set_option maxHeartbeats 400000 in
theorem holds_in (at_ : Int) (w : World) : Calls Tryz.prog 75 #[.pointer (some ⟨bh, 0, none⟩), .int .i64 at_] w fun e w' => e = .returned (.agg #[.pointer (some ⟨bh, 0, none⟩), .int .i64 at_]) ∧ Below w.heap.size w w' := by
  go_enter Tryz.func75, Tryz.ntmps75
  go_wp2
  refine bodyPost_ret (results_cell_row (by rfl) _ _ w.heap.size 128 _ _ _ (by rfl) (heap_alloc_new w _) Tryz.underlying128 (by rfl) infoHolder) (by rfl) ?_
  exact ⟨rfl, below1 _ _⟩

end Go.Proofs.YtkombdkhodjckaaGreat
