/- The iterator that tells pairs of words: gc's holder.pairs. -/
import Derived.Test.YtampilfebmfhaaaGreatDoorGcHolds
import Derived.Test.YtampilfebmfhaaaGreatDoorGcBound
namespace Go.Proofs.YtampilfebmfhaaaGreatDoor
set_option linter.unusedVariables false
set_option linter.unusedSimpArgs false
open Go.RowKit Go.Shelf

attribute [local go_sem] Oper.semAt_some

variable {n₀ bh b lim used : Nat} {vw vb : Value} {w : World} {M : List Ob}

theorem Hp.keptP {P : Nat → Prop} {W W' : World} (h : Hp n₀ bh b vw vb W lim used M) (hP : ∀ k, (k = bh ∨ k = b ∨ vw.ownBlock = some k ∨ vb.ownBlock = some k) → P k) (hk : KpP P W W') : Hp n₀ bh b vw vb W' lim used M :=
  h.kept (fun k e => hk k (hP k e))

def lkv (x : Lk) : Value := .agg #[.int .i64 x.word, .int .i64 x.to, .int .u64 x.more]

theorem grown_belowG {A B : World} (h : Below A.heap.size A B) : A.grownBy B none := ⟨h.os, h.tape, h.output, h.size, fun k hk _ => h.block k hk⟩

theorem abides_below {β : Type} {n : Nat} {J : β → World → Prop} (hJ : AbidesFrom n J) {s : β} {A B : World} (h : J s A) (hB : Below A.heap.size A B) : J s B :=
  hJ s A B none h (grown_belowG hB) (fun r e => by cases e)

theorem prs_step {M : List Ob} {ws : List Nat} {i k n : Nat} (hk : ws[i]? = some k) (hn : ws[i + 1]? = some n) : prs M i (ws.drop i) = (if Leads M k n then [⟨i + 1, n, 0⟩] else []) ++ prs M (i + 2) (ws.drop (i + 2)) := by
  have h1 : i < ws.length := (List.getElem?_eq_some_iff.1 hk).1
  have h2 : i + 1 < ws.length := (List.getElem?_eq_some_iff.1 hn).1
  rw [List.drop_eq_getElem_cons h1, List.drop_eq_getElem_cons h2]
  rw [List.getElem?_eq_getElem h1] at hk
  rw [List.getElem?_eq_getElem h2] at hn
  simp only [Option.some.injEq] at hk hn
  rw [hk, hn]
  rfl

theorem prs_end {M : List Ob} {ws : List Nat} {i : Nat} (h : ws.length ≤ i + 1) : prs M i (ws.drop i) = [] := by
  have : (ws.drop i).length ≤ 1 := by simp; omega
  match e : ws.drop i with
  | [] => rfl
  | [_] => rfl
  | _ :: _ :: _ => rw [e] at this; simp at this

def Heaps (bh b : Nat) (vw vb : Value) (P : Nat → Prop) : Prop := ∀ k, (k = bh ∨ k = b ∨ vw.ownBlock = some k ∨ vb.ownBlock = some k) → P k

set_option maxRecDepth 100000 in
set_option maxHeartbeats 2000000 in
theorem pairs_tells {lq rq : List Ob} {o : Ob} {P : Nat → Prop} (hP : Heaps bh b vw vb P) {W : World} (hPl : ∀ k, P k → k < W.heap.size) (hW0 : Hp n₀ bh b vw vb W lim used (lq ++ o :: rq))
    (from_ to_ : Nat) (hto : to_ ≤ o.ws.length) (hfr : from_ ≤ 1) {L : List Lk} (xs : List { x : Lk // x ∈ L }) (hxs : xs.map (·.val) = prs (lq ++ o :: rq) from_ ((o.ws.take to_).drop from_)) :
    TellsAt Tryz.prog 186 #[.agg #[.pointer (some ⟨bh, 0, none⟩), .int .i64 o.at_], .int .i64 from_, .int .i64 to_] (fun x : { x : Lk // x ∈ L } => #[lkv x.val]) P xs W := by
  intro l J hJ hY h0
  have hb20 : o.ws.length ≤ 1048576 := by
    have := hW0.srt.2 o (by simp); have := hW0.le; unfold Ob.end_ at *; omega
  have hu : ∀ q ∈ lq ++ o :: rq, q.at_ < 1048576 := fun q hq => by
    have := hW0.srt.2 q hq; have := hW0.le; unfold Ob.end_ at *; omega
  refine calls_any (n := 1) ?_
  refine callsIn_of_wp Tryz.func186 rfl trivial ?_ rfl
  simp only [Tryz.ntmps186, List.size_toArray, List.length_cons, List.length_nil, Nat.reduceAdd, Nat.reduceSub, Array.replicate_succ, Array.replicate_zero, List.push_toArray, List.append_toArray, List.nil_append, List.cons_append]
  gi_wp2
  obtain ⟨V, hV⟩ : ∃ V, W.alloc (.cells #[.pointer (some ⟨bh, 0, none⟩), .int .i64 o.at_] 129) = V := ⟨_, rfl⟩
  have hBV : Below W.heap.size W V := by rw [← hV]; exact below1 _ _
  have hrow : V.heap[W.heap.size]? = some (.cells #[.pointer (some ⟨bh, 0, none⟩), .int .i64 o.at_] 129 (0, 0)) := by rw [← hV]; exact heap_alloc_new W _
  have ch : V.cell? ⟨W.heap.size, 0, none⟩ = some (.pointer (some ⟨bh, 0, none⟩)) := by rw [cell_of_row _ W.heap.size 0 _ _ _ hrow]; rfl
  have ca : V.cell? ⟨W.heap.size, 1, none⟩ = some (.int .i64 o.at_) := by rw [cell_of_row _ W.heap.size 1 _ _ _ hrow]; rfl
  have hVs : V.heap.size = W.heap.size + 1 := by rw [← hV]; simp
  have hW := hW0.below hBV
  have h0 := h0 V hBV
  rw [hV]
  clear hV hrow
  obtain ⟨Bo, hBo⟩ : ∃ Bo, W.heap.size = Bo := ⟨_, rfl⟩
  obtain ⟨m, hm⟩ : ∃ m, V.heap.size = m := ⟨_, rfl⟩
  rw [hm] at h0
  rw [hBo] at hY ch ca hVs ⊢
  have hPt : ∀ k, Upto P Bo m k → k < V.heap.size := fun k hk => by
    rcases hk with hk | hk
    · have := hPl k hk; omega
    · omega
  have hPlt : ∀ k, Upto P Bo m k → ∀ wr, KpP (Upto P Bo m) V wr → k < wr.heap.size := fun k hk wr h => by
    have h1 := h k hk
    rw [Array.getElem?_eq_getElem (hPt k hk)] at h1
    exact (Array.getElem?_eq_some_iff.1 h1).1
  have hPB : Upto P Bo m Bo := .inr ⟨Nat.le_refl _, by omega⟩
  gi_loopw [8] (fun p wr => ∃ (pre rest : List { x : Lk // x ∈ L }) (i : Nat), p = .int .i64 i ∧ xs = pre ++ rest ∧ rest.map (·.val) = prs (lq ++ o :: rq) i ((o.ws.take to_).drop i) ∧ J m pre wr ∧ KpP (Upto P Bo m) V wr ∧ i ≤ to_ + 1)
    (fun p _ => to_ - (intOf p).toNat)
  case atStart => exact ⟨[], xs, from_, rfl, rfl, hxs, h0, KpP.refl _ _, by omega⟩
  case round =>
    obtain ⟨pre, rest, i, rfl, hx, hl, hJs, hk, hib⟩ := hrel
    have hWr := hW.keptP (fun k e => .inl (hP k e)) hk
    have ch' := hk.cell hPB ch
    have ca' := hk.cell hPB ca
    by_cases hi : i + 1 < to_
    · obtain ⟨k0, hk0⟩ : ∃ k0, o.ws[i]? = some k0 := ⟨o.ws[i]'(by omega), by simp⟩
      obtain ⟨m0, hm0⟩ : ∃ m0, o.ws[i + 1]? = some m0 := ⟨o.ws[i + 1]'(by omega), by simp⟩
      have h64 := hWr.word_lt hm0
      rw [prs_step (k := k0) (n := m0) (by rw [List.getElem?_take, if_pos (by omega)]; exact hk0) (by rw [List.getElem?_take, if_pos (by omega)]; exact hm0)] at hl
      have H1 := held_in hWr i k0 m0 hk0 hm0
      have H2 := fun w' (hB : Below wr.heap.size wr w') => leads_in (hWr.below hB) (heldK k0) (heldN k0 m0)
      have hi' : (i : Int) + 1 < (to_ : Int) := by omega
      by_cases hL : Leads (lq ++ o :: rq) k0 m0
      · rw [if_pos hL] at hl
        cases rest with
        | nil => simp at hl
        | cons x rest =>
          simp only [List.map_cons, List.cons_append, List.nil_append, List.cons.injEq] at hl
          obtain ⟨hx1, hl⟩ := hl
          have hY' := fun W2 (hB : Below wr.heap.size wr W2) => hY m pre x W2 (by omega) (abides_below (hJ m) hJs hB) (by rw [hx]; simp)
          rw [hx1] at hY'
          have ed : decide (Leads (lq ++ o :: rq) (heldK k0) (heldN k0 m0)) = true := by simpa using (held_leads hu h64).2 hL
          rw [ed] at H2
          rw [held_at hu h64 hL] at H1 H2
          have hx0 : x.val = ⟨i + 1, m0, 0⟩ := hx1
          have HX : Hid _ := And.intro hx (And.intro hx0 hl)
          clear hx hx0 hx1 hl ed hxs
          gi_wp2_with (first
            | (refine ⟨trivial, ?_⟩; gi_at_call 195; refine (callsIn_wide.2 H1).mono ?_; clear H1; rintro e w1 ⟨rfl, hB1⟩; have ch1 := (hB1.cell (p := ⟨Bo, 0, none⟩) (World.block_lt_of_cell? wr _ ch')).trans ch'; have ch2 := cell_alloc_l (.cells #[.int .u8 (heldK k0), .int .i64 m0] 76) ch1)
            | (refine ⟨trivial, ?_⟩; gi_at_call 118; refine (callsIn_wide.2 (H2 _ (hB1.alloc hB1.size _))).mono ?_; clear H2; rintro e w2 ⟨rfl, hB2⟩; have c5 : w2.cell? ⟨w1.heap.size, 1, none⟩ = some (.int .i64 m0) := (hB2.cell (p := ⟨w1.heap.size, 1, none⟩) (by simp)).trans (by rw [cell_of_row _ w1.heap.size 1 _ _ _ (heap_alloc_new w1 _)]; rfl); have hB3 : Below wr.heap.size wr w2 := (hB1.alloc hB1.size _).trans (hB2.mono (by have := hB1.size; simp; omega)); obtain ⟨fn, tmps, assign, body, hy, hR⟩ := hY' w2 hB3; simp only [lkv, Int.natCast_add, Int.cast_ofNat_Int] at hy))
          refine hR.mono ?_
          rintro e W3 ⟨rfl, hJ3, hk3⟩
          have hkB : KpP (Upto P Bo m) wr w2 := fun k hk' => hB3.block k (hPlt k hk' wr hk)
          gi_wp2
          go_roundw
          case rel =>
            obtain ⟨q1, q2, q3⟩ := HX.out
            exact ⟨pre ++ [x], rest, i + 2, by simp, by simp [q1], q3, hJ3, hk.trans (hkB.trans hk3), by omega⟩
          case measure => simp [intOf]; omega
      · rw [if_neg hL] at hl
        simp only [List.nil_append] at hl
        have ed : decide (Leads (lq ++ o :: rq) (heldK k0) (heldN k0 m0)) = false := by
          simp only [decide_eq_false_iff_not]; exact fun h => hL ((held_leads hu h64).1 h)
        rw [ed] at H2
        have HX : Hid _ := And.intro hx hl
        clear hx hl ed hxs
        gi_wp2_with (first
          | (refine ⟨trivial, ?_⟩; gi_at_call 195; refine (callsIn_wide.2 H1).mono ?_; clear H1; rintro e w1 ⟨rfl, hB1⟩; have ch1 := (hB1.cell (p := ⟨Bo, 0, none⟩) (World.block_lt_of_cell? wr _ ch')).trans ch'; have ch2 := cell_alloc_l (.cells #[.int .u8 (heldK k0), .int .i64 (heldN k0 m0)] 76) ch1)
          | (refine ⟨trivial, ?_⟩; gi_at_call 118; refine (callsIn_wide.2 (H2 _ (hB1.alloc hB1.size _))).mono ?_; clear H2; rintro e w2 ⟨rfl, hB2⟩; have hB3 : Below wr.heap.size wr w2 := (hB1.alloc hB1.size _).trans (hB2.mono (by have := hB1.size; simp; omega))))
        refine ⟨fun _ h => (by cases h), ?_⟩
        gi_wp2
        have hkB : KpP (Upto P Bo m) wr w2 := fun k hk' => hB3.block k (hPlt k hk' wr hk)
        go_roundw
        case rel =>
          obtain ⟨q1, q3⟩ := HX.out
          exact ⟨pre, rest, i + 2, by simp, q1, q3, abides_below (hJ m) hJs hB3, hk.trans hkB, by omega⟩
        case measure => simp [intOf]; omega
    · have hi' : ¬ ((i : Int) + 1 < (to_ : Int)) := by omega
      rw [prs_end (by simp; omega)] at hl
      have hr : rest = [] := List.map_eq_nil_iff.1 hl
      have HX : Hid _ := And.intro hx hr
      clear hx hl hr hxs
      gi_wp2
      refine bodyPost_end (results_none (by rfl) _ _ _) (by rfl) ?_
      obtain ⟨q1, q3⟩ := HX.out
      have q4 : xs = pre := by simp [q1, q3]
      rw [← q4] at hJs
      exact ⟨⟨_, rfl⟩, m, by omega, hJs⟩

end Go.Proofs.YtampilfebmfhaaaGreatDoor
