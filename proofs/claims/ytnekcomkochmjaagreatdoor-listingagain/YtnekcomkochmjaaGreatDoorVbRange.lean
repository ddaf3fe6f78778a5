/- Ranging over a method value: an iterator with its receiver ahead of the yield function. It tells each of a list, and no round is left early. -/
import Derived.RangeFuncNested
import Derived.Test.YtnekcomkochmjaaGreatDoorVbTaken
namespace Go.Proofs.YtnekcomkochmjaaGreatDoor
open Go.RowKit

variable {P : Program}

/-- What an iterator wants kept. -/
def KpP (P : Nat → Prop) (W W' : World) : Prop := ∀ k, P k → W'.heap[k]? = W.heap[k]?

theorem KpP.refl (P : Nat → Prop) (W : World) : KpP P W W := fun _ _ => rfl

theorem KpP.trans {P : Nat → Prop} {A B C : World} (h : KpP P A B) (k : KpP P B C) : KpP P A C := fun i hi => (k i hi).trans (h i hi)

theorem KpP.weak {P R : Nat → Prop} {A B : World} (h : KpP P A B) (hr : ∀ k, R k → P k) : KpP R A B := fun i hi => h i (hr i hi)

theorem KpP.cell {P : Nat → Prop} {W W' : World} (h : KpP P W W') {B i : Nat} (hB : P B) {v : Value} (hv : W.cell? ⟨B, i, none⟩ = some v) : W'.cell? ⟨B, i, none⟩ = some v :=
  (World.cell?_of_block (a := ⟨B, i, none⟩) (h B hB)).trans hv

/-- What lies from B up to m, besides what P names. -/
def Upto (P : Nat → Prop) (B m : Nat) (k : Nat) : Prop := P k ∨ (B ≤ k ∧ k < m)

/-- The iterator g, called with 'front' ahead of its yield function, tells xs one behind the other, if each round keeps what Pk names and what the iterator has laid of its own ahead of the first round (from where the heap ended, up to m). -/
def TellsAt {α : Type} (P : Program) (g : Nat) (front : Array Value) (enc : α → Array Value) (Pk : Nat → Prop) (xs : List α) (W : World) : Prop :=
  ∀ (l : Nat) (J : Nat → List α → World → Prop), (∀ m, AbidesFrom W.heap.size (J m)) →
    (∀ m pre x W1, W.heap.size ≤ m → J m pre W1 → pre.length < xs.length → YieldAt Fence.wide 0 P l (enc x) W1 fun e W' => e = .returned (.bool true) ∧ J m (pre ++ [x]) W' ∧ KpP (Upto Pk W.heap.size m) W1 W') →
    (∀ W2, Below W.heap.size W W2 → J W2.heap.size [] W2) → CallsIn Fence.wide 0 P g (front ++ #[.func (.yield l) #[] #[]]) W fun e W' => (∃ v, e = .returned v) ∧ ∃ m, W.heap.size ≤ m ∧ J m xs W'

theorem calls_any {n m : Nat} {f : FuncId} {args : Array Value} {w : World} {R : Ending → World → Prop} (h : CallsIn Fence.wide n P f args w R) : CallsIn Fence.wide m P f args w R := callsIn_wide.2 (callsIn_wide.1 h)

theorem yield_any {n m l : Nat} {args : Array Value} {w : World} {R : Ending → World → Prop} (h : YieldAt Fence.wide n P l args w R) : YieldAt Fence.wide m P l args w R := by
  obtain ⟨fn, tmps, as_, body, hy, hF, hR⟩ := h
  exact ⟨fn, tmps, as_, body, hy, hF, fun c cs _ => hR c cs (room_wide _)⟩

/-- The two blocks that a running loop has: what it is to call at its end, and its record. -/
structure Lies (B : Nat) (r : Loop) (W : World) : Prop where
  mark : W.heap[B]? = some (.deferred (some []))
  rec_ : W.heap[B + 1]? = some (.loop r)

theorem Lies.lt {B : Nat} {r : Loop} {W : World} (h : Lies B r W) : B + 1 < W.heap.size := (Array.getElem?_eq_some_iff.1 h.rec_).1

theorem Lies.keeps {B : Nat} {r : Loop} {W W' : World} (h : Lies B r W) (k : KeepsFrom B W W') : Lies B r W' := ⟨k.same _ _ (Nat.le_refl _) h.mark rfl, k.same _ _ (by omega) h.rec_ rfl⟩

theorem Lies.turned {B : Nat} {r : Loop} {W : World} (h : Lies B r W) (r' : Loop) : Lies B r' (W.putObj (B + 1) (.loop r')) :=
  ⟨(World.putObj_heap_other (by omega)).trans h.mark, World.putObj_heap_same h.lt⟩

theorem Lies.grown {B C : Nat} {r : Loop} {W W' : World} {row : Option Nat} (h : Lies B r W) (hg : W.grownBy W' row) (hr : ∀ x, row = some x → C ≤ x ∧ ∃ o : Obj, W.heap[x]? = some o ∧ o.isWalk = true) : Lies B r W' :=
  ⟨(grownBy_keeps hg (fun x e => (hr x e).2) h.mark rfl).trans h.mark, (grownBy_keeps hg (fun x e => (hr x e).2) h.rec_ rfl).trans h.rec_⟩

theorem wp_range_method {α : Type} {n : Nat} {g : Operand} {ps : Array Tmp} {assign body : Code} {Q : Exit → Act → World → Prop} {a : Act} {w : World} {gf : Nat} {front : Array Value} {enc : α → Array Value} {Pk : Nat → Prop} {xs : List α}
    (h1 : 1 ≤ n) (hg : a.eval g = .func (.func gf) front #[]) (eg : ∀ args w, (callFunc gf args).run P w = .ok (.enter gf args) w)
    (hPk : ∀ k, Pk k → k < w.heap.size) (hT : ∀ W, Below w.heap.size w W → TellsAt P gf front enc Pk xs W) (hps : ∀ x, (enc x).size = ps.size)
    (I : Nat → List α → World → Prop) (hI : ∀ m, OwnFrom w.heap.size (I m)) (h0 : ∀ W, Below w.heap.size w W → I W.heap.size [] W) (Ax : α → Act → World → Prop) (hAx : ∀ x a', OwnFrom w.heap.size (fun (_ : Unit) W => Ax x a' W))
    (hassign : ∀ (l m : Nat) (pre : List α) (x : α) (W : World) (K : Act → World → Prop), I m pre W → (∀ a' W', KeepsFrom w.heap.size W W' → KpP (Upto Pk (w.heap.size + 1 + 1) m) W W' → I m pre W' → Ax x a' W' → K a' W') →
      assign.wpIn (Fence.wide.inRound l) (n - 1 - 1) P (Exit.then K (fun _ _ _ => False)) { tmps := (ps.zip (enc x)).foldl (fun t (p, v) => t.setIfInBounds p v) a.tmps, defers := [] } W)
    (hbody : ∀ (l m : Nat) (pre : List α) (x : α) (a' : Act) (W : World), w.heap.size ≤ l → w.heap.size + 1 + 1 ≤ m → I m pre W → Ax x a' W → pre.length < xs.length →
      body.wpIn (Fence.wide.inRound l) (n - 1 - 1) P (Exit.then (fun _ W' => KeepsFrom w.heap.size W W' ∧ KpP (Upto Pk (w.heap.size + 1 + 1) m) W W' ∧ I m (pre ++ [x]) W') (fun _ _ _ => False)) a' W)
    (hdone : ∀ (D m : Nat) (W : World), w.heap.size ≤ D → w.heap.size ≤ m → I m xs W → W.heap[D]? = some (.deferred (some [])) → Q .normal { a with defers := { target := .collected D, args := #[] } :: a.defers } W) :
    (Code.rangeFunc g ps assign body).wpIn Fence.wide n P Q a w := by
  refine wpIn_rangeFunc fun fn hfn => ?_
  obtain ⟨B, hB⟩ : ∃ B, B = w.heap.size := ⟨_, rfl⟩
  obtain ⟨rc, hrc⟩ : ∃ rc : LoopState → Loop, rc = fun st => { state := st, pending := none, fn, tmps := a.tmps, params := ps, assign, body, defers := B } := ⟨_, rfl⟩
  have est : ∀ st, (rc st).state = st := fun st => by rw [hrc]
  obtain ⟨W1, hW1⟩ : ∃ W1, (w.alloc (.deferred (some []))).alloc (.loop (rc .ready)) = W1 := ⟨_, rfl⟩
  have s1 : W1.heap.size = w.heap.size + 1 + 1 := by rw [← hW1]; simp
  have L1 : Lies B (rc .ready) W1 := by
    rw [← hW1, hB]
    refine ⟨(Below.heap_alloc _ _ _ (by simp)).trans (World.alloc_heap_new w _), ?_⟩
    have := World.alloc_heap_new (w.alloc (.deferred (some []))) (.loop (rc .ready))
    rwa [World.size_alloc] at this
  have B1 : Below w.heap.size w W1 := by
    rw [← hW1]; exact ((Below.refl _ w).alloc (Nat.le_refl _) _).alloc (by simp) _
  have en := run_enterLoop_outer (P := P) (w := w) fn a.tmps ps assign body
  rw [← hB] at en
  have er : (Instr.enterLoop fn a.tmps ps assign body none).run P w = .ok (B + 1, [{ target := .collected B, args := #[] }]) W1 := by rw [en, ← hW1, hrc]
  have put : ∀ (m : Nat) (W : World) (r : Loop), KpP (Upto Pk (w.heap.size + 1 + 1) m) W (W.putObj (B + 1) (.loop r)) := fun m W r k hk => World.putObj_heap_other (by
    rcases hk with hk | hk
    · have := hPk k hk; omega
    · omega)
  refine ⟨B + 1, _, W1, { target := .fn (.func gf) #[], args := front ++ #[.func (.yield (B + 1)) #[] #[]] }, W1, gf, front ++ #[.func (.yield (B + 1)) #[] #[]], W1, er, ?_, fun _ _ => trivial, ?_, fun _ => h1, ?_⟩
  · simp only [resolve, hg]
    simp [go_sem]
  · simp [invoke, go_sem, eg]
  have hcall := hT W1 B1 (B + 1) (fun m pre W => w.heap.size + 1 + 1 ≤ m ∧ I m pre W ∧ Lies B (rc .ready) W)
    (fun m s X Y row hs hg' hr => ⟨hs.1, hI m s X Y row hs.2.1 hg' (fun x e => by
      obtain ⟨q1, o, q2, q3⟩ := hr x e
      exact ⟨by omega, o, q2, Obj.not_cells_of_walk q3⟩), hs.2.2.grown hg' hr⟩)
  refine calls_any ((hcall ?_ (fun W2 hW2 => ⟨by have := hW2.size; omega, h0 W2 (B1.trans (hW2.mono (by omega))), (hW2.block B (by omega)).trans L1.mark, (hW2.block (B + 1) (by omega)).trans L1.rec_⟩)).mono ?_)
  · rintro m pre x W - ⟨hm, hi, hl⟩ hlen
    have hy := run_yield (P := P) (args := enc x) hl.rec_ (by rw [hrc]; exact hps x)
    rw [hrc] at hy
    refine yield_any (n := n - 1 - 1) ⟨fn, _, assign, body, hy, roundIn_of_wpIn hfn (hassign _ m pre x W _ hi fun a' V kf kp hi' ha => ?_)⟩
    clear hy
    have hv := hl.keeps (by rw [hB]; exact kf)
    have hv2 := hv.turned { rc .ready with state := .busy }
    refine ⟨_, run_beginRound hv.rec_ (est _), wpIn_mono (hbody _ m pre x a' _ (by omega) hm ((hI m).putObj _ hi' (by omega) hv.rec_ rfl) ((hAx x a').putObj (s := ()) _ ha (by omega) hv.rec_ rfl) hlen) ?_⟩
    rintro e a3 V3 hp
    cases e with
    | normal =>
      obtain ⟨k3, p3, i3⟩ := hp
      rw [← hB] at k3
      have hv3 := hv2.keeps k3
      have hend := run_endRound (P := P) none hv3.rec_
      have hv4 := hv3.turned (rc .ready)
      have erc : ({ ({ rc .ready with state := .busy } : Loop) with state := if (none : Option Code).isNone then LoopState.ready else .done, pending := none } : Loop) = rc .ready := by rw [hrc]; rfl
      rw [erc] at hend
      rw [s1]
      exact ⟨_, _, hend, rfl, ⟨hm, (hI m).putObj _ i3 (by omega) hv3.rec_ rfl, hv4⟩, kp.trans (((put m _ _).trans p3).trans (put m _ _))⟩
    | ret => exact hp.elim
    | exit id => exact hp.elim
    | goto t => exact hp.elim
    | panic ch => exact hp.elim
    | outgrown => exact hp.elim
  · rintro e W2 ⟨⟨v, rfl⟩, m, hm, -, hi, hl⟩
    have hend := run_endLoop (P := P) hl.rec_ (by rw [est]; simp)
    rw [show (rc .ready).pending = none by rw [hrc]] at hend
    exact ⟨none, _, hend, hdone B m _ (by omega) (by omega) ((hI m).putObj _ hi (by omega) hl.rec_ rfl) ((World.putObj_heap_other (by omega)).trans hl.mark)⟩

end Go.Proofs.YtnekcomkochmjaaGreatDoor

namespace Go.Proofs.YtnekcomkochmjaaGreatDoor
set_option linter.unusedVariables false
set_option linter.unusedSimpArgs false
open Go.RowKit Go.Shelf

/-- How a round ends: it goes on, with less to be taken; or it is left by an exit. -/
def rPost (B m : Nat) (I : Nat → List Nat → Nat → World → Prop) (Ix : Code → World → Prop) (W : World) : Exit → Act → World → Prop
  | .normal, _, W' => KeepsFrom B W W' ∧ ∃ m' bs' lst', m' < m ∧ I m' bs' lst' W'
  | .exit id, _, W' => KeepsFrom B W W' ∧ Ix (.exit id) W'
  | _, _, _ => False

theorem Lies.dr {B : Nat} {r : Loop} {A C : World} (h : Lies B r A) (hd : Dr A C) : Lies B r C := ⟨by rw [hd.heap]; exact h.mark, by rw [hd.heap]; exact h.rec_⟩

theorem wp_range_taken {n : Nat} {g : Operand} {ps : Array Tmp} {assign body : Code} {Q : Exit → Act → World → Prop} {a : Act} {w : World} {bw gb cb len m0 lst0 : Nat} {bs0 : List Nat}
    (h1 : 1 ≤ n) (hg : a.eval g = .func (.func 54) #[.pointer (some ⟨bw, 1, none⟩)] #[]) (hps : ps.size = 1)
    (I : Nat → List Nat → Nat → World → Prop) (Ir : Nat → Nat → World → Prop) (Ix : Code → World → Prop)
    (hI : ∀ m bs lst, OwnFrom w.heap.size (fun (_ : Unit) W => I m bs lst W)) (hIr : ∀ m pc, OwnFrom w.heap.size (fun (_ : Unit) W => Ir m pc W)) (hIx : ∀ c, OwnFrom w.heap.size (fun (_ : Unit) W => Ix c W))
    (h0 : I m0 bs0 lst0 w)
    (hV : ∀ m bs lst A, I m bs lst A → Vw bw gb cb bs lst A ∧ bs.length = len ∧ lst ≤ len)
    (hD : ∀ m bs lst A B, I m bs lst A → Dr A B → I m bs lst B)
    (hS : ∀ m bs lst A B, I m bs lst A → lst < len → bs.getD lst 0 = 0 → Dr (A.setCell ⟨bw, 2, none⟩ (.int .i64 (lst + 1 : Nat))) B → I m bs (lst + 1) B)
    (hP : ∀ m bs lst A B, I m bs lst A → lst < len → bs.getD lst 0 ≠ 0 → Dr (A.setCell ⟨gb, lst, none⟩ (.int .u64 (bs.getD lst 0 &&& (bs.getD lst 0 - 1) : Nat))) B → Ir m (64 * lst + Lib.ctz 64 (bs.getD lst 0)) B)
    (ax : Nat → Act)
    (hassign : ∀ (l pc : Nat) (W : World) (K : Act → World → Prop), K (ax pc) W → assign.wpIn (Fence.wide.inRound l) (n - 1 - 1) Tryz.prog (Exit.then K (fun _ _ _ => False)) { tmps := (ps.zip #[.int .i64 pc]).foldl (fun t (p, v) => t.setIfInBounds p v) a.tmps, defers := [] } W)
    (hbody : ∀ (l m pc : Nat) (W : World), Ir m pc W → body.wpIn (Fence.wide.inRound l) (n - 1 - 1) Tryz.prog (rPost w.heap.size m I Ix W) (ax pc) W)
    (hdone : ∀ (D m : Nat) (bs : List Nat) (lst : Nat) (W : World), w.heap.size ≤ D → I m bs lst W → len ≤ lst → W.heap[D]? = some (.deferred (some [])) → Q .normal { a with defers := { target := .collected D, args := #[] } :: a.defers } W)
    (hstop : ∀ (D : Nat) (c : Code) (W : World), w.heap.size ≤ D → Ix c W → W.heap[D]? = some (.deferred (some [])) → c.wpIn Fence.wide n Tryz.prog Q { a with defers := { target := .collected D, args := #[] } :: a.defers } W) :
    (Code.rangeFunc g ps assign body).wpIn Fence.wide n Tryz.prog Q a w := by
  refine wpIn_rangeFunc fun fn hfn => ?_
  obtain ⟨B, hB⟩ : ∃ B, B = w.heap.size := ⟨_, rfl⟩
  obtain ⟨rc, hrc⟩ : ∃ rc : LoopState → Option Code → Loop, rc = fun st pe => { state := st, pending := pe, fn, tmps := a.tmps, params := ps, assign, body, defers := B } := ⟨_, rfl⟩
  have est : ∀ st pe, (rc st pe).state = st := fun st pe => by rw [hrc]
  obtain ⟨W1, hW1⟩ : ∃ W1, (w.alloc (.deferred (some []))).alloc (.loop (rc .ready none)) = W1 := ⟨_, rfl⟩
  have L1 : Lies B (rc .ready none) W1 := by
    rw [← hW1, hB]
    refine ⟨(Below.heap_alloc _ _ _ (by simp)).trans (World.alloc_heap_new w _), ?_⟩
    have := World.alloc_heap_new (w.alloc (.deferred (some []))) (.loop (rc .ready none))
    rwa [World.size_alloc] at this
  have I1 : I m0 bs0 lst0 W1 := by
    rw [← hW1]
    exact (hI m0 bs0 lst0).alloc (s := ()) _ ((hI m0 bs0 lst0).alloc (s := ()) _ h0)
  have en := run_enterLoop_outer (P := Tryz.prog) (w := w) fn a.tmps ps assign body
  rw [← hB] at en
  have er : (Instr.enterLoop fn a.tmps ps assign body none).run Tryz.prog w = .ok (B + 1, [{ target := .collected B, args := #[] }]) W1 := by rw [en, ← hW1, hrc]
  have eg := enters_of Tryz.func54 (by kernel_rfl) rfl
  refine ⟨B + 1, _, W1, { target := .fn (.func 54) #[], args := #[.pointer (some ⟨bw, 1, none⟩)] ++ #[.func (.yield (B + 1)) #[] #[]] }, W1, 54, #[.pointer (some ⟨bw, 1, none⟩)] ++ #[.func (.yield (B + 1)) #[] #[]], W1, er, ?_, fun _ _ => trivial, ?_, fun _ => h1, ?_⟩
  · simp only [resolve, hg]
    simp [go_sem]
  · simp [invoke, go_sem, eg]
  have hcall := taken_in bw gb cb (B + 1) (fun m bs lst W => I m bs lst W ∧ Lies B (rc .ready none) W) (fun m pc W => Ir m pc W ∧ Lies B (rc .ready none) W) (fun W => ∃ c, Ix c W ∧ Lies B (rc .done (some c)) W) W1 m0 bs0 lst0 len
    (fun m bs lst A h => hV m bs lst A h.1) (fun m bs lst A C h hd => ⟨hD m bs lst A C h.1 hd, h.2.dr hd⟩)
    (fun m bs lst A C h hl hz hd => ⟨hS m bs lst A C h.1 hl hz hd, (h.2.keeps ((KeepsOthers.setCell _ _ _).from _)).dr hd⟩)
    (fun m bs lst A C h hl hz hd => ⟨hP m bs lst A C h.1 hl hz hd, (h.2.keeps ((KeepsOthers.setCell _ _ _).from _)).dr hd⟩) ?_ ⟨I1, L1⟩
  · refine calls_any (hcall.mono ?_)
    rintro e W2 ⟨⟨v, rfl⟩, ⟨m, bs, lst, ⟨hi, hl⟩, hlen⟩ | ⟨c, hx, hl⟩⟩
    · have hend := run_endLoop (P := Tryz.prog) hl.rec_ (by rw [est]; simp)
      rw [show (rc .ready none).pending = none by rw [hrc]] at hend
      exact ⟨none, _, hend, hdone B m bs lst _ (by omega) ((hI m bs lst).putObj (s := ()) _ hi (by omega) hl.rec_ rfl) hlen ((World.putObj_heap_other (by omega)).trans hl.mark)⟩
    · have hend := run_endLoop (P := Tryz.prog) hl.rec_ (by rw [est]; simp)
      rw [show (rc .done (some c)).pending = some c by rw [hrc]] at hend
      exact ⟨some c, _, hend, hstop B c _ (by omega) ((hIx c).putObj (s := ()) _ hx (by omega) hl.rec_ rfl) ((World.putObj_heap_other (by omega)).trans hl.mark)⟩
  · rintro m pc W ⟨hi, hl⟩
    have hy := run_yield (P := Tryz.prog) (args := #[.int .i64 (pc : Int)]) hl.rec_ (by rw [hrc]; exact hps.symm)
    rw [hrc] at hy
    refine yield_any (n := n - 1 - 1) ⟨fn, _, assign, body, hy, roundIn_of_wpIn hfn (hassign _ pc W _ ?_)⟩
    clear hy
    have hv2 := hl.turned { rc .ready none with state := .busy }
    refine ⟨_, run_beginRound hl.rec_ (est _ _), wpIn_mono (hbody _ m pc _ ((hIr m pc).putObj (s := ()) _ hi (by omega) hl.rec_ rfl)) ?_⟩
    rintro e a3 V3 hp
    cases e with
    | normal =>
      obtain ⟨k3, m', bs', lst', hm', i3⟩ := hp
      rw [← hB] at k3
      have hv3 := hv2.keeps k3
      have hend := run_endRound (P := Tryz.prog) none hv3.rec_
      have hv4 := hv3.turned (rc .ready none)
      have erc : ({ ({ rc .ready none with state := .busy } : Loop) with state := if (none : Option Code).isNone then LoopState.ready else .done, pending := none } : Loop) = rc .ready none := by rw [hrc]; rfl
      rw [erc] at hend
      exact ⟨_, _, hend, true, rfl, .inl ⟨rfl, m', bs', lst', hm', (hI m' bs' lst').putObj (s := ()) _ i3 (by omega) hv3.rec_ rfl, hv4⟩⟩
    | exit id =>
      obtain ⟨k3, x3⟩ := hp
      rw [← hB] at k3
      have hv3 := hv2.keeps k3
      have hend := run_endRound (P := Tryz.prog) (some (.exit id)) hv3.rec_
      have hv4 := hv3.turned (rc .done (some (.exit id)))
      have erc : ({ ({ rc .ready none with state := .busy } : Loop) with state := if (some (Code.exit id) : Option Code).isNone then LoopState.ready else .done, pending := some (.exit id) } : Loop) = rc .done (some (.exit id)) := by rw [hrc]; rfl
      rw [erc] at hend
      exact ⟨_, _, hend, false, rfl, .inr ⟨rfl, .exit id, (hIx _).putObj (s := ()) _ x3 (by omega) hv3.rec_ rfl, hv4⟩⟩
    | ret => exact hp.elim
    | goto t => exact hp.elim
    | panic ch => exact hp.elim
    | outgrown => exact hp.elim

end Go.Proofs.YtnekcomkochmjaaGreatDoor
