/- The iterator that tells a List's or a Map's Items. -/
import Derived.Test.YtampilfebmfhaaaGreatDoorGcPairs
namespace Go.Proofs.YtampilfebmfhaaaGreatDoor
set_option linter.unusedVariables false
set_option linter.unusedSimpArgs false
open Go.RowKit Go.Shelf

attribute [local go_sem] Oper.semAt_some

variable {n₀ bh b lim used : Nat} {vw vb : Value} {w : World} {M : List Ob}

set_option maxRecDepth 100000 in
set_option maxHeartbeats 2000000 in
theorem items_tells {lq rq : List Ob} {o : Ob} {P : Nat → Prop} {W0 : World} (hW0 : Hp n₀ bh b vw vb W0 lim used (lq ++ o :: rq))
    {L : List Lk} (xs : List { x : Lk // x ∈ L }) (hxs : xs.map (·.val) = itemsL (lq ++ o :: rq) o.ws) :
    TellsAt Tryz.prog 185 #[.agg #[.pointer (some ⟨bh, 0, none⟩), .int .i64 o.at_]] (fun x : { x : Lk // x ∈ L } => #[lkv x.val]) P xs W0 := by
  intro l J hJ hY h0
  refine calls_any (n := 1) ?_
  have hrow := heap_alloc_new W0 (.cells #[.pointer (some ⟨bh, 0, none⟩), .int .i64 o.at_] 129)
  have hBV := below1 W0 (.cells #[.pointer (some ⟨bh, 0, none⟩), .int .i64 o.at_] 129)
  have ch : (W0.alloc (.cells #[.pointer (some ⟨bh, 0, none⟩), .int .i64 o.at_] 129)).cell? ⟨W0.heap.size, 0, none⟩ = some (.pointer (some ⟨bh, 0, none⟩)) := by rw [cell_of_row _ W0.heap.size 0 _ _ _ hrow]; rfl
  have ca : (W0.alloc (.cells #[.pointer (some ⟨bh, 0, none⟩), .int .i64 o.at_] 129)).cell? ⟨W0.heap.size, 1, none⟩ = some (.int .i64 o.at_) := by rw [cell_of_row _ W0.heap.size 1 _ _ _ hrow]; rfl
  have hW := hW0.below hBV
  have h0 := h0 _ hBV
  have hY := fun x hx => hY _ [] x _ hBV.size h0 hx
  have hend : ∀ V : World, V = W0.alloc (.cells #[.pointer (some ⟨bh, 0, none⟩), .int .i64 o.at_] 129) → xs = [] → ∃ m, W0.heap.size ≤ m ∧ J m xs V := fun V e e' => by rw [e, e']; exact ⟨_, hBV.size, h0⟩
  clear hrow hBV
  have hu : ∀ q ∈ lq ++ o :: rq, q.at_ < 1048576 := fun q hq => by
    have := hW.srt.2 q hq; have := hW.le; unfold Ob.end_ at *; omega
  cases h1 : o.ws[1]? with
  | none =>
    have H1 := readM_out hW 1 (.inr (by rw [List.getElem?_eq_none_iff] at h1; omega))
    have hr : xs = [] := List.map_eq_nil_iff.1 (hxs.trans (by simp [itemsL, h1]))
    clear hxs hY h1
    refine callsIn_of_wp Tryz.func185 rfl trivial ?_ rfl
    simp only [Tryz.ntmps185, List.size_toArray, List.length_cons, List.length_nil, Nat.reduceAdd, Nat.reduceSub, Array.replicate_succ, Array.replicate_zero, List.push_toArray, List.append_toArray, List.nil_append, List.cons_append]
    gi_wp2_with (first
      | (refine ⟨trivial, ?_⟩; gi_at_call 34; refine (callsIn_wide.2 H1).mono ?_; clear H1; rintro e w1 ⟨rfl, rfl⟩))
    refine bodyPost_ret (results_none (by rfl) _ _ _) (by rfl) ?_
    exact ⟨⟨_, rfl⟩, hend _ rfl hr⟩
  | some x =>
    have H1 := readM hW 1 x h1
    have h64 := hW.word_lt h1
    by_cases hx0 : x = 0
    · subst hx0
      have hr : xs = [] := List.map_eq_nil_iff.1 (hxs.trans (by simp [itemsL, h1]))
      clear hxs hY h1
      refine callsIn_of_wp Tryz.func185 rfl trivial ?_ rfl
      simp only [Tryz.ntmps185, List.size_toArray, List.length_cons, List.length_nil, Nat.reduceAdd, Nat.reduceSub, Array.replicate_succ, Array.replicate_zero, List.push_toArray, List.append_toArray, List.nil_append, List.cons_append]
      gi_wp2_with (first
        | (refine ⟨trivial, ?_⟩; gi_at_call 34; refine (callsIn_wide.2 H1).mono ?_; clear H1; rintro e w1 ⟨rfl, rfl⟩))
      refine bodyPost_ret (results_none (by rfl) _ _ _) (by rfl) ?_
      exact ⟨⟨_, rfl⟩, hend _ rfl hr⟩
    · have hx1b : ((x : Int) == 0) = false := by simp; omega
      have ez : wrap64 ((x : Int) - 1) = wrap64 ((x - 1 : Nat) : Int) := by congr 1; omega
      have hI := wrap_at hu (n := x - 1) (by omega) 8
      rw [← ez] at hI
      obtain ⟨z, hz⟩ : ∃ z, wrap64 ((x : Int) - 1) = z := ⟨_, rfl⟩
      rw [hz] at hI
      have hzu : ∀ q ∈ lq ++ o :: rq, (q.at_ : Int) = z → x - 1 = q.at_ := by
        intro q hq e
        have := hu q hq
        rw [← hz] at e
        simp only [wrap64] at e
        omega
      clear ez
      rcases at_cases (lq ++ o :: rq) z with hno | ⟨l2, q, r2, hq, hqz⟩
      · have H2 := kindM_none hW z hno
        have hr : xs = [] := List.map_eq_nil_iff.1 (hxs.trans (by
          have : ¬ Is (lq ++ o :: rq) 8 ((x - 1 : Nat) : Int) := fun h => by
            obtain ⟨q, hq, e, _⟩ := hI.2 h
            exact hno q hq e
          simp only [itemsL, h1]
          rw [if_neg (fun h => this h.2)]))
        clear hxs hY h1 hI hzu hno
        refine callsIn_of_wp Tryz.func185 rfl trivial ?_ rfl
        simp only [Tryz.ntmps185, List.size_toArray, List.length_cons, List.length_nil, Nat.reduceAdd, Nat.reduceSub, Array.replicate_succ, Array.replicate_zero, List.push_toArray, List.append_toArray, List.nil_append, List.cons_append]
        gi_wp2_with (first
          | (refine ⟨trivial, ?_⟩; gi_at_call 34; refine (callsIn_wide.2 H1).mono ?_; clear H1; rintro e w1 ⟨rfl, rfl⟩)
          | (refine ⟨trivial, ?_⟩; gi_at_call 32; refine (callsIn_wide.2 H2).mono ?_; clear H2; rintro e w1 ⟨rfl, rfl⟩))
        refine bodyPost_end (results_none (by rfl) _ _ _) (by rfl) ?_
        exact ⟨⟨_, rfl⟩, hend _ rfl hr⟩
      · have hqm : q ∈ lq ++ o :: rq := by rw [hq]; simp
        have hWq := hW
        rw [hq] at hWq
        have H2 := kindM hWq
        rw [hqz] at H2
        have hxq := hzu q hqm hqz
        by_cases h8 : q.kind = 8
        · have hI8 : Is (lq ++ o :: rq) 8 ((x - 1 : Nat) : Int) := ⟨q, hqm, by omega, h8⟩
          have hl : xs.map (·.val) = [⟨1, x - 1, 1⟩] := hxs.trans (by
            simp only [itemsL, h1]
            rw [if_pos ⟨hx0, hI8⟩])
          cases xs with
          | nil => simp at hl
          | cons y ys =>
            simp only [List.map_cons, List.cons.injEq] at hl
            obtain ⟨hy1, hys⟩ := hl
            have hys := List.map_eq_nil_iff.1 hys
            subst hys
            rw [h8] at H2
            have hzx : z = ((x - 1 : Nat) : Int) := by rw [hxq, ← hqz]
            obtain ⟨fn, tmps, assign, body, hy, hR⟩ := hY y (by simp)
            change Sem.run _ (Instr.yield l #[lkv y.val]) _ = _ at hy
            rw [hy1] at hy
            simp only [lkv, Int.cast_ofNat_Int] at hy
            rw [← hzx] at hy
            clear hxs hY h1 hI hzu hI8 hy1 hWq hzx
            refine callsIn_of_wp Tryz.func185 rfl trivial ?_ rfl
            simp only [Tryz.ntmps185, List.size_toArray, List.length_cons, List.length_nil, Nat.reduceAdd, Nat.reduceSub, Array.replicate_succ, Array.replicate_zero, List.push_toArray, List.append_toArray, List.nil_append, List.cons_append]
            gi_wp2_with (first
              | (refine ⟨trivial, ?_⟩; gi_at_call 34; refine (callsIn_wide.2 H1).mono ?_; clear H1; rintro e w1 ⟨rfl, rfl⟩)
              | (refine ⟨trivial, ?_⟩; gi_at_call 32; refine (callsIn_wide.2 H2).mono ?_; clear H2; rintro e w1 ⟨rfl, rfl⟩))
            refine hR.mono ?_
            rintro e W3 ⟨rfl, hJ3, hk3⟩
            gi_wp2
            refine bodyPost_end (results_none (by rfl) _ _ _) (by rfl) ?_
            exact ⟨⟨_, rfl⟩, _, by simp, hJ3⟩
        · have hr : xs = [] := List.map_eq_nil_iff.1 (hxs.trans (by
            have : ¬ Is (lq ++ o :: rq) 8 ((x - 1 : Nat) : Int) := fun h => by
              obtain ⟨q', hq', e, e8⟩ := h
              obtain rfl := hW.srt.1.uniq hq' hqm (by omega)
              exact h8 e8
            simp only [itemsL, h1]
            rw [if_neg (fun h => this h.2)]))
          have h8b : ((q.kind : Int) == 8) = false := by simp; omega
          clear hxs hY h1 hI hzu hWq
          refine callsIn_of_wp Tryz.func185 rfl trivial ?_ rfl
          simp only [Tryz.ntmps185, List.size_toArray, List.length_cons, List.length_nil, Nat.reduceAdd, Nat.reduceSub, Array.replicate_succ, Array.replicate_zero, List.push_toArray, List.append_toArray, List.nil_append, List.cons_append]
          gi_wp2_with (first
            | (refine ⟨trivial, ?_⟩; gi_at_call 34; refine (callsIn_wide.2 H1).mono ?_; clear H1; rintro e w1 ⟨rfl, rfl⟩)
            | (refine ⟨trivial, ?_⟩; gi_at_call 32; refine (callsIn_wide.2 H2).mono ?_; clear H2; rintro e w1 ⟨rfl, rfl⟩))
          refine bodyPost_end (results_none (by rfl) _ _ _) (by rfl) ?_
          exact ⟨⟨_, rfl⟩, hend _ rfl hr⟩

end Go.Proofs.YtampilfebmfhaaaGreatDoor
