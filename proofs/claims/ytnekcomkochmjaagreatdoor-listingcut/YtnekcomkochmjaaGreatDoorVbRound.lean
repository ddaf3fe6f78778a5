/- A region that draws its order, in a round: by the law for a condition on the world that is held. -/
import Derived.Deep.RegionHeld3
import Derived.RangeFuncNested
import Derived.OrdersIn
import Derived.TacticsIn
import Derived.Test.YtnekcomkochmjaaGreatDoorVbTaken
import Derived.Test.YtnekcomkochmjaaGreatDoorVfPGuards
import Derived.Test.YtnekcomkochmjaaGreatDoorVbRange
namespace Go.Proofs.YtnekcomkochmjaaGreatDoor
set_option linter.unusedVariables false
set_option linter.unusedSimpArgs false
open Go.RowKit

variable {P : Program} {ops : Array Oper} {Q : Exit → Act → World → Prop} {md : Region.Mode} {S : World → Prop} {l n : Nat}

theorem wpOp_round {i : Nat} {K : Act → World → Prop} {a : Act} {w : World} (hd : ∀ (j : Nat) (o : Oper), ops[j]? = some o → ∀ c, o.op ≠ Op.defer c) (hL : ¬ LetsOut Q) (h : wpOp P ops Q i K a w) : wpOpIn (Fence.wide.inRound l) n P ops Q i K a w := by
  unfold wpOp at h
  unfold wpOpIn
  cases ho : ops[i]? with
  | none => simpa [ho] using h
  | some o =>
    simp only [ho] at h ⊢
    split at h
    · rename_i hw
      rw [if_pos hw]
      rcases h with h | ⟨_, hq⟩
      · refine ⟨fun _ _ => trivial, ?_⟩
        rw [show (Fence.wide.inRound l).round = some l from rfl, Oper.semAt_some l _ o (hd i o ho)]
        unfold Oper.wp at h
        generalize (execOp a.eval o).run P w = r at *
        cases r with
        | ok x w' =>
          cases x <;> simp only [Oper.upon] at h <;> simp only [Oper.uponIn]
          case value v => exact h
          case skip => exact h
          case defer d => exact h
          case enter f args => exact ⟨fun e => by simp [Fence.wide] at e, CallsIn.inRound l (callsIn_wide.2 h)⟩
          case row row args => exact ⟨fun e => by simp [Fence.wide] at e, fun c cs _ => let ⟨v, w', r, s⟩ := h c cs; ⟨v, w', r, stepsIn_wide.2 s⟩⟩
        | halt x w' =>
          cases x <;> simp only [Oper.upon] at h <;> simp only [Oper.uponIn]
          case panic u => exact h
      · exact (hL hq).elim
    · rename_i hw
      rw [if_neg hw]
      exact ⟨fun _ _ => trivial, h⟩

theorem wpAny_round (hd : ∀ (j : Nat) (o : Oper), ops[j]? = some o → ∀ c, o.op ≠ Op.defer c) (hL : ¬ LetsOut Q) : ∀ (fuel : Nat) (listed : Array Bool) (a : Act) (w : World), wpAny P md ops Q fuel listed a w → wpAnyIn (Fence.wide.inRound l) n P md ops Q fuel listed a w
  | 0, _, _, _, h => h
  | fuel + 1, _, _, _, h => ⟨h.1, fun i hi => wpOp_round hd hL (wpOp_mono (fun a' w' h' => wpAny_round hd hL fuel _ a' w' h') (h.2 i hi))⟩

theorem noDefer {l : List Oper} (h : l.all (fun o => match o.op with | .defer _ => false | _ => true) = true) : ∀ (j : Nat) (o : Oper), l.toArray[j]? = some o → ∀ c, o.op ≠ Op.defer c := fun j o ho c e => by
  have hm : o ∈ l := by
    rw [List.getElem?_toArray] at ho
    exact List.mem_of_getElem? ho
  have := List.all_eq_true.1 h o hm
  rw [e] at this
  cases this

theorem wpIn_region_heldR {id : Nat} {os : List Oper} {a : Act} {w : World} (hm : P.follows .mixedOrders = true) (hd : os.all (fun o => match o.op with | .defer _ => false | _ => true) = true) (hL : ¬ LetsOut Q) (hS : S w.drew)
    (h : S w.drew → wpAnyH P .any os.toArray Q S os.toArray.size (Array.replicate os.toArray.size false) a w.drew) : (Code.region id os.toArray true).wpIn (Fence.wide.inRound l) n P Q a w :=
  wpIn_region_any hm (wpAny_round (noDefer hd) hL _ _ _ _ (wpAny_of_held _ _ _ _ (h hS)))

theorem unwanted_ifR {o : Oper} {a : Act} {j d : Nat} {b : Bool} (hg : o.guard = some (j, b)) (hd : ((ops[j]?).bind (·.dst)) = some d) (ht : a.tmps[d]? = some (.bool (!b))) : YieldsIf P ops S o undef a :=
  Or.inr ⟨by unfold Region.wanted yielded; rw [hg]; simp only [hd, Option.bind_some, ht]; cases b <;> rfl, rfl⟩

theorem take_atR {i d : Nat} {oi : Oper} {v : Value} {fuel : Nat} {listed : Array Bool} {a : Act} {w : World} (hi : ops[i]? = some oi) (hd : oi.dst = some d)
    (hs : Region.noSelect ops = true) (hf : Region.free md ops listed i = true) (hr : (Region.ready md ops listed).contains i = true)
    (hQ : ∀ c a w, Q (.panic c) (a.put (some d) v) w → Q (.panic c) a w) (hy : YieldsIf P ops S oi v a) (hS : S w)
    (h : wpAnyH P md ops Q S fuel (listed.setIfInBounds i true) { a with tmps := a.tmps.setIfInBounds d v } w) : wpAnyH P md ops Q S (fuel + 1) listed a w :=
  wpAnyH_take hi hs hf hr (by rw [hd]; exact hQ) hy hS (by rw [hd]; exact h)

end Go.Proofs.YtnekcomkochmjaaGreatDoor

namespace Go.Proofs.YtnekcomkochmjaaGreatDoor
set_option linter.unusedVariables false
set_option linter.unusedSimpArgs false
open Go.RowKit Go.Shelf

variable {w : World}

theorem Gd.mono {W : World} {base base' gg : Nat} {ks : List Kn} {vs : List Value} (h : Gd W base gg ks vs) (hb : base' ≤ base) : Gd W base' gg ks vs :=
  ⟨h.gb, h.len, fun i v hv => ownsRow_mono (h.row i v hv) hb, h.ap, Nat.le_trans hb h.bs, h.nil⟩

theorem blk_ne {W : World} {a b : Nat} {cs cs' : Array Value} {t t' : TypeId} {f f' : Nat × Nat} (h1 : W.heap[a]? = some (.cells cs t f)) (h2 : W.heap[b]? = some (.cells cs' t' f')) (ht : t ≠ t') : a ≠ b := by
  rintro rfl
  rw [h1] at h2
  simp at h2
  exact ht h2.2.1

theorem Gd.objs {W : World} {base gg : Nat} {ks : List Kn} {vs : List Value} (h : Gd W base gg ks vs) {x : Value} (hx : x ∈ vs) {g : Nat} (e : x.ownBlock = some g) : (∃ cur, W.heap[g]? = some (.cells cur 3 (0, 0))) ∧ base ≤ g ∧ g < W.heap.size := by
  obtain ⟨i, hi⟩ := List.getElem?_of_mem hx
  have hr := h.row i x hi
  exact ⟨row_obj hr e, hr.lt g e⟩

/-- What stands in memory while depths are told. -/
structure Ctx (w W : World) (b0 o bw gt ct gb cb n : Nat) (gv : Value) (B4 B5 : Nat) (flt : Int) (told : List Int) (taken : List Bool) (bs : List Nat) (lst : Nat) (ks : List Kn) (vs : List Value) : Prop where
  bel : Below w.heap.size w W
  st : St W (w.heap.size + 2) bw gt ct gb cb n told taken bs lst
  gx : (gv = .slice none 0 0 ∧ ∀ y, kn ks y = ⟨0, []⟩) ∨ ∃ gg, gv = .slice (some ⟨gg, 0, none⟩) (2 * n) (2 * n) ∧ Gd W (w.heap.size + 2) gg ks vs ∧ ks.length = 2 * n ∧ ∀ x ∈ vs, ∀ g, x.ownBlock = some g → g ≠ gt
  b1 : W.heap[w.heap.size]? = some (.cells #[.pointer (some ⟨b0, o, none⟩)] 54 (0, 0))
  b3 : W.heap[w.heap.size + 1]? = some (.cells #[.int .i64 flt] 3 (0, 0))
  b4 : W.heap[B4]? = some (.cells #[.pointer (some ⟨bw, 0, none⟩)] 119 (0, 0))
  b5 : W.heap[B5]? = some (.cells #[gv] 122 (0, 0))
  d4 : w.heap.size + 2 ≤ B4
  d5 : w.heap.size + 2 ≤ B5
section

variable {W W' : World} {b0 o bw gt ct gb cb n : Nat} {gv : Value} {B4 B5 : Nat} {flt : Int} {told told' : List Int} {taken taken' : List Bool} {bs bs' : List Nat} {lst lst' : Nat} {ks : List Kn} {vs : List Value}

theorem lt_of_blk {W : World} {k : Nat} {o : Obj} (h : W.heap[k]? = some o) : k < W.heap.size := (Array.getElem?_eq_some_iff.1 h).1

/-- All that is cells stays. -/
theorem Ctx.cells (h : Ctx w W b0 o bw gt ct gb cb n gv B4 B5 flt told taken bs lst ks vs) (hB : Below w.heap.size w W') (hk : ∀ (k : Nat) (cs : Array Value) (t : TypeId) (f : Nat × Nat), W.heap[k]? = some (Obj.cells cs t f) → W'.heap[k]? = some (Obj.cells cs t f)) : Ctx w W' b0 o bw gt ct gb cb n gv B4 B5 flt told taken bs lst ks vs := by
  obtain ⟨c1, h1, -⟩ := h.st.wk.tr.obj
  obtain ⟨c2, h2, -⟩ := h.st.wk.br.obj
  refine ⟨hB, ⟨h.st.wk.keptB ((hk _ _ _ _ h.st.wk.tb).trans h.st.wk.tb.symm) ((hk _ _ _ _ h1).trans h1.symm) ((hk _ _ _ _ h2).trans h2.symm), h.st.qb, h.st.lo⟩, ?_, hk _ _ _ _ h.b1, hk _ _ _ _ h.b3, hk _ _ _ _ h.b4, hk _ _ _ _ h.b5, h.d4, h.d5⟩
  rcases h.gx with hx | ⟨gg, e, gd, hl, hg⟩
  · exact .inl hx
  · refine .inr ⟨gg, e, gd.kept ((hk _ _ _ _ gd.gb).trans gd.gb.symm) (fun x hx g e2 => ?_), hl, hg⟩
    obtain ⟨⟨cur, hc⟩, -⟩ := gd.objs hx e2
    exact (hk _ _ _ _ hc).trans hc.symm

theorem Ctx.fr (h : Ctx w W b0 o bw gt ct gb cb n gv B4 B5 flt told taken bs lst ks vs) (hf : Fr bw gt gb W W') (hs : St W' (w.heap.size + 2) bw gt ct gb cb n told' taken' bs' lst') : Ctx w W' b0 o bw gt ct gb cb n gv B4 B5 flt told' taken' bs' lst' ks vs := by
  obtain ⟨c1, h1, -⟩ := h.st.wk.tr.obj
  obtain ⟨c2, h2, -⟩ := h.st.wk.br.obj
  have l0 := h.st.wk.bs_
  have l1 := h.st.wk.tr.lt
  have l2 := h.st.wk.br.lt
  have ne : ∀ (k : Nat) (cs : Array Value) (t : TypeId), W.heap[k]? = some (Obj.cells cs t (0, 0)) → t ≠ 129 → t ≠ 3 → t ≠ 168 → W'.heap[k]? = some (Obj.cells cs t (0, 0)) := fun k cs t hk q1 q2 q3 =>
    (hf.block k (lt_of_blk hk) (blk_ne hk h.st.wk.tb q1) (blk_ne hk h1 q2) (blk_ne hk h2 q3)).trans hk
  refine ⟨h.bel.trans (hf.below (by omega) (by omega) (by omega) h.bel.size), hs, ?_, ne _ _ _ h.b1 (by decide) (by decide) (by decide), (hf.block _ (lt_of_blk h.b3) (by omega) (by omega) (by omega)).trans h.b3, ne _ _ _ h.b4 (by decide) (by decide) (by decide), ne _ _ _ h.b5 (by decide) (by decide) (by decide), h.d4, h.d5⟩
  rcases h.gx with hx | ⟨gg, e, gd, hl, hg⟩
  · exact .inl hx
  · refine .inr ⟨gg, e, gd.kept ((ne _ _ _ gd.gb (by decide) (by decide) (by decide)).trans gd.gb.symm) (fun x hx g e2 => ?_), hl, hg⟩
    obtain ⟨⟨cur, hc⟩, hge, hlt⟩ := gd.objs hx e2
    exact hf.block g hlt (blk_ne hc h.st.wk.tb (by decide)) (hg x hx g e2) (blk_ne hc h2 (by decide))

theorem Ctx.below (h : Ctx w W b0 o bw gt ct gb cb n gv B4 B5 flt told taken bs lst ks vs) (hB : Below W.heap.size W W') : Ctx w W' b0 o bw gt ct gb cb n gv B4 B5 flt told taken bs lst ks vs :=
  h.fr (.of_below hB) (h.st.kept hB)

theorem Ctx.fset (h : Ctx w W b0 o bw gt ct gb cb n gv B4 B5 flt told taken bs lst ks vs) (x : Int) : Ctx w (W.setCell ⟨w.heap.size + 1, 0, none⟩ (.int .i64 x)) b0 o bw gt ct gb cb n gv B4 B5 x told taken bs lst ks vs := by
  have l0 := h.st.wk.bs_
  have l1 := h.st.wk.tr.lt
  have l2 := h.st.wk.br.lt
  have l4 := h.d4
  have l5 := h.d5
  have ne : ∀ k, k ≠ w.heap.size + 1 → (W.setCell ⟨w.heap.size + 1, 0, none⟩ (.int .i64 x)).heap[k]? = W.heap[k]? := fun k hk => heap_setCell_other W ⟨w.heap.size + 1, 0, none⟩ k _ hk
  refine ⟨⟨h.bel.os, h.bel.tape, h.bel.output, by simpa [World.setCell] using h.bel.size, fun k hk => (ne k (by omega)).trans (h.bel.block k hk)⟩, ⟨h.st.wk.keptB (ne _ (by omega)) (ne _ (by omega)) (ne _ (by omega)), h.st.qb, h.st.lo⟩, ?_, (ne _ (by omega)).trans h.b1, ?_, (ne _ (by omega)).trans h.b4, (ne _ (by omega)).trans h.b5, h.d4, h.d5⟩
  · rcases h.gx with hx | ⟨gg, e, gd, hl, hg⟩
    · exact .inl hx
    · refine .inr ⟨gg, e, gd.kept (ne _ (by have := gd.bs; omega)) (fun y hy g e2 => ne _ ?_), hl, hg⟩
      have := (gd.objs hy e2).2
      omega
  · have := heap_setCell_same W (w.heap.size + 1) 0 _ _ (.int .i64 x) h.b3
    simpa using this

/-- What reads are there. -/
theorem Ctx.reads (h : Ctx w W b0 o bw gt ct gb cb n gv B4 B5 flt told taken bs lst ks vs) : W.cell? ⟨w.heap.size, 0, none⟩ = some (.pointer (some ⟨b0, o, none⟩)) ∧ W.cell? ⟨w.heap.size + 1, 0, none⟩ = some (.int .i64 flt) ∧ W.cell? ⟨B4, 0, none⟩ = some (.pointer (some ⟨bw, 0, none⟩)) ∧ W.cell? ⟨B5, 0, none⟩ = some gv ∧ W.cell? ⟨bw, 0, none⟩ = some (.slice (some ⟨gt, 0, none⟩) told.length ct) ∧ W.frozen? ⟨w.heap.size + 1, 0, none⟩ = false := by
  refine ⟨?_, ?_, ?_, ?_, h.st.wk.cells.1.1, frozen_of_row _ _ 0 _ _ h.b3⟩
  · rw [cell_of_row _ _ 0 _ _ _ h.b1]; rfl
  · rw [cell_of_row _ _ 0 _ _ _ h.b3]; rfl
  · rw [cell_of_row _ _ 0 _ _ _ h.b4]; rfl
  · rw [cell_of_row _ _ 0 _ _ _ h.b5]; rfl

theorem Fr.others {base : Nat} (h : Fr bw gt gb W W') (hw : Wk W base bw gt ct gb cb told bs lst) : KeepsOthers W W' := by
  obtain ⟨c1, h1, -⟩ := hw.tr.obj
  obtain ⟨c2, h2, -⟩ := hw.br.obj
  have hb := hw.tb
  refine ⟨h.size, fun k ob hk ho => ?_⟩
  refine (h.block k (lt_of_blk hk) (fun e => ?_) (fun e => ?_) (fun e => ?_)).trans hk
  · subst e; rw [hb] at hk; cases hk; simp [Obj.isCells] at ho
  · subst e; rw [h1] at hk; cases hk; simp [Obj.isCells] at ho
  · subst e; rw [h2] at hk; cases hk; simp [Obj.isCells] at ho

theorem below_others (h : Below W.heap.size W W') : KeepsOthers W W' := ⟨h.size, fun k ob hk _ => (h.block k (lt_of_blk hk)).trans hk⟩

theorem newsF_zero {ks : List Kn} (h : ∀ y, kn ks y = ⟨0, []⟩) : ∀ l : List Nat, newsF ks l = []
  | [] => rfl
  | y :: l => by
    have e : newsF ks (y :: l) = (kn ks y).hs ++ newsF ks l := rfl
    rw [e, h y, newsF_zero h l]; rfl

theorem deepF_zero {ks : List Kn} (h : ∀ y, kn ks y = ⟨0, []⟩) : ∀ l : List Nat, deepF ks l 0 = 0
  | [] => rfl
  | y :: l => by
    have e : deepF ks (y :: l) 0 = deepF ks l (max 0 (kn ks y).deep) := rfl
    rw [e, h y]
    exact deepF_zero h l

theorem clrF_zero {ks : List Kn} (h : ∀ y, kn ks y = ⟨0, []⟩) (l : List Nat) : ∀ y, kn (clrF ks l) y = ⟨0, []⟩ := fun y => by
  rw [clrF_kn, h y]
  split <;> rfl

theorem deepest_ctx (h : Ctx w W b0 o bw gt ct gb cb n gv B4 B5 flt told taken bs lst ks vs) (hn : n ≤ 16384) {pc : Nat} (hp : pc < n) :
    Calls Tryz.prog 56 #[gv, .int .i64 pc] W fun e W' => e = .returned (.int .i64 (kn ks (n + pc)).deep) ∧ W' = W := by
  rcases h.gx with ⟨e, hx⟩ | ⟨gg, e, gd, hl, hg⟩
  · rw [e, hx]
    exact deepest_nil _
  · rw [e, ← hl]
    exact deepest_in ks.length gd hl hn hp

theorem news_ctx (h : Ctx w W b0 o bw gt ct gb cb n gv B4 B5 flt told taken bs lst ks vs) (hn : n ≤ 16384) {pc : Nat} (hp : pc < n) (hb : ∀ y, (kn ks y).hs.length ≤ 1073741824) :
    Calls Tryz.prog 57 #[gv, .int .i64 pc] W fun e W' => ∃ v vs', e = .returned v ∧ W'.ownsRow W.heap.size 3 1 v (newsF ks (path (n + pc) (n + pc))).length ((newsF ks (path (n + pc) (n + pc))).map nv) ∧ Ctx w W' b0 o bw gt ct gb cb n gv B4 B5 flt told taken bs lst (clrF ks (path (n + pc) (n + pc))) vs' ∧ KeepsOthers W W' := by
  rcases h.gx with ⟨e, hx⟩ | ⟨gg, e, gd, hl, hg⟩
  · rw [e, newsF_zero hx]
    refine (news_nil (w := W) pc).mono ?_
    rintro e2 W' ⟨rfl, rfl⟩
    exact ⟨_, vs, rfl, World.ownsRow_nil _ _ _ _, ⟨h.bel, h.st, .inl ⟨rfl, clrF_zero hx _⟩, h.b1, h.b3, h.b4, by rw [← e]; exact h.b5, h.d4, h.d5⟩, .refl _⟩
  · rw [e, ← hl]
    refine (news_in ks.length gd hl hn hp hb).mono ?_
    rintro e2 W' ⟨v, vs', rfl, hr, hg', hf, hsub⟩
    obtain ⟨c1, h1, -⟩ := h.st.wk.tr.obj
    obtain ⟨c2, h2, -⟩ := h.st.wk.br.obj
    have l1 := h.st.wk.tr.lt
    have hge := gd.bs
    have own : ∀ x ∈ vs, ∀ k, x.ownBlock = some k → (∃ cur, W.heap[k]? = some (.cells cur 3 (0, 0))) ∧ w.heap.size + 2 ≤ k ∧ k < W.heap.size := fun x hx k e3 => gd.objs hx e3
    have ne : ∀ (k : Nat) (cs : Array Value) (t : TypeId), W.heap[k]? = some (Obj.cells cs t (0, 0)) → t ≠ 164 → (t ≠ 3 ∨ k < w.heap.size + 2 ∨ k = gt) → W'.heap[k]? = some (Obj.cells cs t (0, 0)) := fun k cs t hk q1 q2 =>
      (hf.block k (lt_of_blk hk) (blk_ne hk gd.gb q1) (fun x hx e3 => by
        obtain ⟨⟨cur, hc⟩, hge2, -⟩ := own x hx k e3
        rcases q2 with q2 | q2 | q2
        · exact (blk_ne hk hc q2) rfl
        · omega
        · exact hg x hx k e3 q2)).trans hk
    refine ⟨v, vs', rfl, hr, ⟨h.bel.trans (hf.below (by omega) (fun x hx g e3 => by have := (own x hx g e3).2; omega) h.bel.size), ⟨h.st.wk.keptB ((ne _ _ _ h.st.wk.tb (by decide) (.inl (by decide))).trans h.st.wk.tb.symm) ((ne _ _ _ h1 (by decide) (.inr (.inr rfl))).trans h1.symm) ((ne _ _ _ h2 (by decide) (.inl (by decide))).trans h2.symm), h.st.qb, h.st.lo⟩, .inr ⟨gg, by rw [hl], hg', by rw [clrF_len]; exact hl, fun x hx g e3 => ?_⟩, ne _ _ _ h.b1 (by decide) (.inl (by decide)), ne _ _ _ h.b3 (by decide) (.inr (.inl (by omega))), ne _ _ _ h.b4 (by decide) (.inl (by decide)), by rw [hl, ← e]; exact ne _ _ _ h.b5 (by decide) (.inl (by decide)), h.d4, h.d5⟩, ⟨hf.size, fun k ob hk ho => ?_⟩⟩
    · obtain ⟨y, hy, e4⟩ := hsub x hx g e3
      exact hg y hy g e4
    · refine (hf.block k (lt_of_blk hk) (fun e3 => ?_) (fun x hx e3 => ?_)).trans hk
      · subst e3; rw [gd.gb] at hk; cases hk; simp [Obj.isCells] at ho
      · obtain ⟨⟨cur, hc⟩, -⟩ := own x hx k e3
        rw [hc] at hk; cases hk; simp [Obj.isCells] at ho
end

/-- What stands when the walk begins. -/
theorem ctx_begin {w W0 W1 W2 : World} {b0 o bw gt ct gb cb : Nat} {f : Fm} {gv : Value} (hB0 : Below w.heap.size w W0) (hs0 : W0.heap.size = w.heap.size + 2)
    (g1 : W0.heap[w.heap.size]? = some (.cells #[.pointer (some ⟨b0, o, none⟩)] 54 (0, 0))) (g3 : W0.heap[w.heap.size + 1]? = some (.cells #[.int .i64 0] 3 (0, 0)))
    (hwk : Wk W1 W0.heap.size bw gt ct gb cb (List.replicate f.code.length (-1)) (List.replicate (f.code.length / 64 + 1) 0) 0) (hB1 : Below W0.heap.size W0 W1)
    (hgr : GuardsR (W1.alloc (.cells #[.pointer (some ⟨bw, 0, none⟩)] 119)) W2 f gv) :
    ∃ ks ks' vs, Ctx w (W2.alloc (.cells #[gv] 122)) b0 o bw gt ct gb cb f.code.length gv W1.heap.size W2.heap.size 0 (List.replicate f.code.length (-1)) (List.replicate f.code.length false) (List.replicate (f.code.length / 64 + 1) 0) 0 ks' vs ∧ Dn ks ks' ∧ Built f.code.length f.hs ks ∧ ∀ y, (kn ks y).hs.length ≤ f.hs.length * 32 := by
  obtain ⟨V, hV⟩ : ∃ V, W1.alloc (.cells #[.pointer (some ⟨bw, 0, none⟩)] 119) = V := ⟨_, rfl⟩
  have hBV : Below W1.heap.size W1 V := by rw [← hV]; exact below1 _ _
  have hsV : V.heap.size = W1.heap.size + 1 := by rw [← hV]; simp
  have gV : V.heap[W1.heap.size]? = some (.cells #[.pointer (some ⟨bw, 0, none⟩)] 119 (0, 0)) := by rw [← hV]; exact heap_alloc_new W1 _
  rw [hV] at hgr
  have hs1 := hB1.size
  have hB2 : Below V.heap.size V W2 := by
    rcases hgr with ⟨-, -, rfl⟩ | ⟨gg, ks, ks', vs, -, -, hb, -⟩
    · exact Below.refl _ _
    · exact hb
  have hs2 := hB2.size
  have hB3 := below1 W2 (.cells #[gv] 122)
  have g5 := heap_alloc_new W2 (.cells #[gv] 122)
  generalize hW3 : W2.alloc (.cells #[gv] 122) = W3 at hB3 g5
  have b1 : Below W1.heap.size W1 W3 := (hBV.trans (hB2.mono (by omega))).trans (hB3.mono (by omega))
  have b0' : Below W0.heap.size W0 W3 := hB1.trans (b1.mono hs1)
  have hst : St W3 (w.heap.size + 2) bw gt ct gb cb f.code.length (List.replicate f.code.length (-1)) (List.replicate f.code.length false) (List.replicate (f.code.length / 64 + 1) 0) 0 := ⟨by rw [← hs0]; exact hwk.kept b1, qb_begin, rep_lo⟩
  have k1 := (b0'.block w.heap.size (by omega)).trans g1
  have k3 := (b0'.block (w.heap.size + 1) (by omega)).trans g3
  have k4 := ((hB2.trans (hB3.mono hs2)).block W1.heap.size (by omega)).trans gV
  have hzero : ∀ y, kn (List.replicate (2 * f.code.length) (⟨0, []⟩ : Kn)) y = ⟨0, []⟩ := fun y => by
    unfold kn
    rw [List.getD_eq_getElem?_getD, List.getElem?_replicate]
    split <;> rfl
  rcases hgr with ⟨hh, rfl, -⟩ | ⟨gg, ks, ks', vs, rfl, gd, -, dn, bu, le⟩
  · refine ⟨List.replicate (2 * f.code.length) ⟨0, []⟩, List.replicate (2 * f.code.length) ⟨0, []⟩, [], ⟨hB0.trans (b0'.mono hB0.size), hst, .inl ⟨rfl, hzero⟩, k1, k3, k4, g5, by omega, by omega⟩, ⟨rfl, fun _ => rfl, fun y _ _ => by rw [hzero, deepF_zero hzero]⟩, by rw [hh]; exact built_none _, fun y => by rw [hzero]; simp⟩
  · refine ⟨ks, ks', vs, ⟨hB0.trans (b0'.mono hB0.size), hst, .inr ⟨gg, rfl, (gd.below hB3).mono (by omega), by rw [dn.len, bu.len], fun x hx g e => ?_⟩, k1, k3, k4, g5, by omega, by omega⟩, dn, bu, le⟩
    have h1 := (gd.objs hx e).2
    have h2 := hwk.tr.lt
    omega

end Go.Proofs.YtnekcomkochmjaaGreatDoor

namespace Go.Proofs.YtnekcomkochmjaaGreatDoor
set_option linter.unusedVariables false
set_option linter.unusedSimpArgs false
open Go.RowKit Go.Shelf

variable {w : World}

theorem take_map {L : List Nat} {f : Fm} {j m A : Nat} {h : Hn} (hm : L[j]? = some m) (hh : f.hs[m]? = some h) (hA : h.at_ = (A : Int)) : (L.take (j + 1)).map (htell f) = (L.take j).map (htell f) ++ [(A, h.deep + 1)] := by
  rw [List.take_add_one, hm]
  have : htell f m = (A, h.deep + 1) := by unfold htell; rw [hh]; simp [hA]
  simp [this]

theorem split_map {L : List Nat} {g : Nat → Nat × Int} (j : Nat) : L.map g = (L.take j).map g ++ (L.drop j).map g := by rw [← List.map_append, List.take_append_drop]

theorem nrow_cell {base g c n : Nat} {W : World} {L : List Nat} {j m : Nat} (h : W.ownsRow base 3 1 (.slice (some ⟨g, 0, none⟩) n c) n (L.map nv)) (hm : L[j]? = some m) : W.cell? ⟨g, j, none⟩ = some (.int .i64 m) := by
  have := h.cells (g := g) rfl j (.int .i64 m) (by rw [List.getElem?_map, hm]; rfl)
  have ea : (⟨g, 0, none⟩ : Addr).add j = ⟨g, j, none⟩ := by simp only [Addr.add]; split <;> simp_all
  rw [ea] at this
  exact this

theorem tells_hi {l : List (Nat × Int)} {t u : List Int} (h : tellsP l t = some u) (hl : ∀ x ∈ l, x.1 < t.length ∧ 0 ≤ x.2 ∧ x.2 ≤ 256) (ht : ∀ k, t.getD k (-1) ≤ 257) : ∀ k, u.getD k (-1) ≤ 257 := by
  obtain ⟨_, h2, _, h4⟩ := (tellsP_char (fun x hx => ⟨(hl x hx).1, (hl x hx).2.1⟩)).1 h
  intro k
  by_cases e : ∃ x ∈ l, x.1 = k
  · obtain ⟨x, hx, rfl⟩ := e
    rw [h2 x hx]
    have := (hl x hx).2.2
    omega
  · rw [h4 k (fun x hx e2 => e ⟨x, hx, e2⟩)]
    exact ht k

theorem clr_hs {ks : List Kn} {b : Nat} (h : ∀ y, (kn ks y).hs.length ≤ b) (l : List Nat) : ∀ y, (kn (clrF ks l) y).hs.length ≤ b := by
  intro y
  rw [clrF_kn]
  split
  · simp
  · exact h y

/-- While one list of tellings is gone through. -/
structure Rs (w W0 W : World) (b0 o bw gt ct gb cb n : Nat) (gv : Value) (B4 B5 : Nat) (taken : List Bool) (told0 : List Int) (ks : List Kn) (vs : List Value) (B7 : Nat) (v : Value) (L : List Nat) (l : List (Nat × Int)) (told : List Int) (bs : List Nat) (lst : Nat) : Prop where
  cx : Ctx w W b0 o bw gt ct gb cb n gv B4 B5 (-1) told taken bs lst ks vs
  ko : KeepsOthers W0 W
  row : W.ownsRow B7 3 1 v L.length (L.map nv)
  lt7 : bw < B7 ∧ gt < B7 ∧ gb < B7
  tells : tellsP l told0 = some told

theorem Rs.next {W0 W W1 W' : World} {b0 o bw gt ct gb cb n : Nat} {gv : Value} {B4 B5 : Nat} {taken : List Bool} {told0 : List Int} {ks : List Kn} {vs : List Value} {B7 : Nat} {v : Value} {L : List Nat} {l : List (Nat × Int)} {told : List Int} {bs : List Nat} {lst : Nat}
    (h : Rs w W0 W b0 o bw gt ct gb cb n gv B4 B5 taken told0 ks vs B7 v L l told bs lst) {l2 : List (Nat × Int)} {b : Bool} (hB : Below W.heap.size W W1) (ht : TellsP (w.heap.size + 2) bw gt ct gb cb n told taken l2 b W1 W') :
    ∃ told' bs' lst', Ctx w W' b0 o bw gt ct gb cb n gv B4 B5 (-1) told' taken bs' lst' ks vs ∧ KeepsOthers W0 W' ∧ ((b = true ∧ Rs w W0 W' b0 o bw gt ct gb cb n gv B4 B5 taken told0 ks vs B7 v L (l ++ l2) told' bs' lst') ∨ (b = false ∧ tellsP (l ++ l2) told0 = none)) := by
  obtain ⟨told', bs', lst', h1, h2, h3⟩ := ht
  have e : tellsP (l ++ l2) told0 = tellsP l2 told := by rw [tellsP_append, h.tells]; rfl
  have c1 := h.cx.below hB
  have c2 := c1.fr h2 h1
  have k1 := (h.ko.trans (below_others hB)).trans (h2.others c1.st.wk)
  refine ⟨told', bs', lst', c2, k1, ?_⟩
  rcases h3 with ⟨hb, h3⟩ | ⟨hb, h3⟩
  · refine .inl ⟨hb, c2, k1, row_kept h.row (fun g eg => ?_), h.lt7, e.trans h3⟩
    have hl := h.row.lt g eg
    obtain ⟨h7a, h7b, h7c⟩ := h.lt7
    exact (h2.block g (Nat.lt_of_lt_of_le hl.2 hB.size) (by omega) (by omega) (by omega)).trans (hB.block g hl.2)
  · exact .inr ⟨hb, e.trans h3⟩

end Go.Proofs.YtnekcomkochmjaaGreatDoor
