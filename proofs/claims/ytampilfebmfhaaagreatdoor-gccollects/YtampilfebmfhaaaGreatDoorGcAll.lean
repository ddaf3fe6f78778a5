/- The iterator that tells a List's or a Map's Items. -/
import Derived.Test.YtampilfebmfhaaaGreatDoorGcPairs
namespace Go.Proofs.YtampilfebmfhaaaGreatDoor
set_option linter.unusedVariables false
set_option linter.unusedSimpArgs false
open Go.RowKit Go.Shelf

attribute [local go_sem] Oper.semAt_some

variable {n₀ bh b lim used : Nat} {vw vb : Value} {w : World} {M : List Ob}

set_option maxRecDepth 100000 in
set_option maxHeartbeats 2000000 in
theorem items_tells {lq rq : List Ob} {o : Ob} {P : Nat → Prop} {W0 : World} (hW0 : Hp n₀ bh b vw vb W0 lim used (lq ++ o :: rq))
    {L : List Lk} (xs : List { x : Lk // x ∈ L }) (hxs : xs.map (·.val) = itemsL (lq ++ o :: rq) o.ws) :
    TellsAt Tryz.prog 185 #[.agg #[.pointer (some ⟨bh, 0, none⟩), .int .i64 o.at_]] (fun x : { x : Lk // x ∈ L } => #[lkv x.val]) P xs W0 := by
  intro l J hJ hY h0
  refine calls_any (n := 1) ?_
  have hrow := heap_alloc_new W0 (.cells #[.pointer (some ⟨bh, 0, none⟩), .int .i64 o.at_] 129)
  have hBV := below1 W0 (.cells #[.pointer (some ⟨bh, 0, none⟩), .int .i64 o.at_] 129)
  have ch : (W0.alloc (.cells #[.pointer (some ⟨bh, 0, none⟩), .int .i64 o.at_] 129)).cell? ⟨W0.heap.size, 0, none⟩ = some (.pointer (some ⟨bh, 0, none⟩)) := by rw [cell_of_row _ W0.heap.size 0 _ _ _ hrow]; rfl
  have ca : (W0.alloc (.cells #[.pointer (some ⟨bh, 0, none⟩), .int .i64 o.at_] 129)).cell? ⟨W0.heap.size, 1, none⟩ = some (.int .i64 o.at_) := by rw [cell_of_row _ W0.heap.size 1 _ _ _ hrow]; rfl
  have hW := hW0.below hBV
  have h0 := h0 _ hBV
  have hY := fun x hx => hY _ [] x _ hBV.size h0 hx
  have hend : ∀ V : World, V = W0.alloc (.cells #[.pointer (some ⟨bh, 0, none⟩), .int .i64 o.at_] 129) → xs = [] → ∃ m, W0.heap.size ≤ m ∧ J m xs V := fun V e e' => by rw [e, e']; exact ⟨_, hBV.size, h0⟩
  clear hrow hBV
  have hu : ∀ q ∈ lq ++ o :: rq, q.at_ < 1048576 := fun q hq => by
    have := hW.srt.2 q hq; have := hW.le; unfold Ob.end_ at *; omega
  cases h1 : o.ws[1]? with
  | none =>
    have H1 := readM_out hW 1 (.inr (by rw [List.getElem?_eq_none_iff] at h1; omega))
    have hr : xs = [] := List.map_eq_nil_iff.1 (hxs.trans (by simp [itemsL, h1]))
    clear hxs hY h1
    refine callsIn_of_wp Tryz.func185 rfl trivial ?_ rfl
    simp only [Tryz.ntmps185, List.size_toArray, List.length_cons, List.length_nil, Nat.reduceAdd, Nat.reduceSub, Array.replicate_succ, Array.replicate_zero, List.push_toArray, List.append_toArray, List.nil_append, List.cons_append]
    gi_wp2_with (first
      | (refine ⟨trivial, ?_⟩; gi_at_call 34; refine (callsIn_wide.2 H1).mono ?_; clear H1; rintro e w1 ⟨rfl, rfl⟩))
    refine bodyPost_ret (results_none (by rfl) _ _ _) (by rfl) ?_
    exact ⟨⟨_, rfl⟩, hend _ rfl hr⟩
  | some x =>
    have H1 := readM hW 1 x h1
    have h64 := hW.word_lt h1
    by_cases hx0 : x = 0
    · subst hx0
      have hr : xs = [] := List.map_eq_nil_iff.1 (hxs.trans (by simp [itemsL, h1]))
      clear hxs hY h1
      refine callsIn_of_wp Tryz.func185 rfl trivial ?_ rfl
      simp only [Tryz.ntmps185, List.size_toArray, List.length_cons, List.length_nil, Nat.reduceAdd, Nat.reduceSub, Array.replicate_succ, Array.replicate_zero, List.push_toArray, List.append_toArray, List.nil_append, List.cons_append]
      gi_wp2_with (first
        | (refine ⟨trivial, ?_⟩; gi_at_call 34; refine (callsIn_wide.2 H1).mono ?_; clear H1; rintro e w1 ⟨rfl, rfl⟩))
      refine bodyPost_ret (results_none (by rfl) _ _ _) (by rfl) ?_
      exact ⟨⟨_, rfl⟩, hend _ rfl hr⟩
    · have hx1b : ((x : Int) == 0) = false := by simp; omega
      have ez : wrap64 ((x : Int) - 1) = wrap64 ((x - 1 : Nat) : Int) := by congr 1; omega
      have hI := wrap_at hu (n := x - 1) (by omega) 8
      rw [← ez] at hI
      obtain ⟨z, hz⟩ : ∃ z, wrap64 ((x : Int) - 1) = z := ⟨_, rfl⟩
      rw [hz] at hI
      have hzu : ∀ q ∈ lq ++ o :: rq, (q.at_ : Int) = z → x - 1 = q.at_ := by
        intro q hq e
        have := hu q hq
        rw [← hz] at e
        simp only [wrap64] at e
        omega
      clear ez
      rcases at_cases (lq ++ o :: rq) z with hno | ⟨l2, q, r2, hq, hqz⟩
      · have H2 := kindM_none hW z hno
        have hr : xs = [] := List.map_eq_nil_iff.1 (hxs.trans (by
          have : ¬ Is (lq ++ o :: rq) 8 ((x - 1 : Nat) : Int) := fun h => by
            obtain ⟨q, hq, e, _⟩ := hI.2 h
            exact hno q hq e
          simp only [itemsL, h1]
          rw [if_neg (fun h => this h.2)]))
        clear hxs hY h1 hI hzu hno
        refine callsIn_of_wp Tryz.func185 rfl trivial ?_ rfl
        simp only [Tryz.ntmps185, List.size_toArray, List.length_cons, List.length_nil, Nat.reduceAdd, Nat.reduceSub, Array.replicate_succ, Array.replicate_zero, List.push_toArray, List.append_toArray, List.nil_append, List.cons_append]
        gi_wp2_with (first
          | (refine ⟨trivial, ?_⟩; gi_at_call 34; refine (callsIn_wide.2 H1).mono ?_; clear H1; rintro e w1 ⟨rfl, rfl⟩)
          | (refine ⟨trivial, ?_⟩; gi_at_call 32; refine (callsIn_wide.2 H2).mono ?_; clear H2; rintro e w1 ⟨rfl, rfl⟩))
        refine bodyPost_end (results_none (by rfl) _ _ _) (by rfl) ?_
        exact ⟨⟨_, rfl⟩, hend _ rfl hr⟩
      · have hqm : q ∈ lq ++ o :: rq := by rw [hq]; simp
        have hWq := hW
        rw [hq] at hWq
        have H2 := kindM hWq
        rw [hqz] at H2
        have hxq := hzu q hqm hqz
        by_cases h8 : q.kind = 8
        · have hI8 : Is (lq ++ o :: rq) 8 ((x - 1 : Nat) : Int) := ⟨q, hqm, by omega, h8⟩
          have hl : xs.map (·.val) = [⟨1, x - 1, 1⟩] := hxs.trans (by
            simp only [itemsL, h1]
            rw [if_pos ⟨hx0, hI8⟩])
          cases xs with
          | nil => simp at hl
          | cons y ys =>
            simp only [List.map_cons, List.cons.injEq] at hl
            obtain ⟨hy1, hys⟩ := hl
            have hys := List.map_eq_nil_iff.1 hys
            subst hys
            rw [h8] at H2
            have hzx : z = ((x - 1 : Nat) : Int) := by rw [hxq, ← hqz]
            obtain ⟨fn, tmps, assign, body, hy, hR⟩ := hY y (by simp)
            change Sem.run _ (Instr.yield l #[lkv y.val]) _ = _ at hy
            rw [hy1] at hy
            simp only [lkv, Int.cast_ofNat_Int] at hy
            rw [← hzx] at hy
            clear hxs hY h1 hI hzu hI8 hy1 hWq hzx
            refine callsIn_of_wp Tryz.func185 rfl trivial ?_ rfl
            simp only [Tryz.ntmps185, List.size_toArray, List.length_cons, List.length_nil, Nat.reduceAdd, Nat.reduceSub, Array.replicate_succ, Array.replicate_zero, List.push_toArray, List.append_toArray, List.nil_append, List.cons_append]
            gi_wp2_with (first
              | (refine ⟨trivial, ?_⟩; gi_at_call 34; refine (callsIn_wide.2 H1).mono ?_; clear H1; rintro e w1 ⟨rfl, rfl⟩)
              | (refine ⟨trivial, ?_⟩; gi_at_call 32; refine (callsIn_wide.2 H2).mono ?_; clear H2; rintro e w1 ⟨rfl, rfl⟩))
            refine hR.mono ?_
            rintro e W3 ⟨rfl, hJ3, hk3⟩
            gi_wp2
            refine bodyPost_end (results_none (by rfl) _ _ _) (by rfl) ?_
            exact ⟨⟨_, rfl⟩, _, by simp, hJ3⟩
        · have hr : xs = [] := List.map_eq_nil_iff.1 (hxs.trans (by
            have : ¬ Is (lq ++ o :: rq) 8 ((x - 1 : Nat) : Int) := fun h => by
              obtain ⟨q', hq', e, e8⟩ := h
              obtain rfl := hW.srt.1.uniq hq' hqm (by omega)
              exact h8 e8
            simp only [itemsL, h1]
            rw [if_neg (fun h => this h.2)]))
          have h8b : ((q.kind : Int) == 8) = false := by simp; omega
          clear hxs hY h1 hI hzu hWq
          refine callsIn_of_wp Tryz.func185 rfl trivial ?_ rfl
          simp only [Tryz.ntmps185, List.size_toArray, List.length_cons, List.length_nil, Nat.reduceAdd, Nat.reduceSub, Array.replicate_succ, Array.replicate_zero, List.push_toArray, List.append_toArray, List.nil_append, List.cons_append]
          gi_wp2_with (first
            | (refine ⟨trivial, ?_⟩; gi_at_call 34; refine (callsIn_wide.2 H1).mono ?_; clear H1; rintro e w1 ⟨rfl, rfl⟩)
            | (refine ⟨trivial, ?_⟩; gi_at_call 32; refine (callsIn_wide.2 H2).mono ?_; clear H2; rintro e w1 ⟨rfl, rfl⟩))
          refine bodyPost_end (results_none (by rfl) _ _ _) (by rfl) ?_
          exact ⟨⟨_, rfl⟩, hend _ rfl hr⟩

end Go.Proofs.YtampilfebmfhaaaGreatDoor

namespace Go.Proofs.YtampilfebmfhaaaGreatDoor
set_option linter.unusedVariables false
set_option linter.unusedSimpArgs false
open Go.RowKit Go.Shelf

attribute [local go_sem] Oper.semAt_some

variable {n₀ bh b lim used : Nat} {vw vb : Value} {w : World} {M : List Ob}

theorem below_2 (w : World) (o1 o2 : Obj) : Below w.heap.size w ((w.alloc o1).alloc o2) := (below1 w o1).alloc (by simp) _

/-- An iterator that is called by another, in a world that has grown since: what is told to the inner one. -/
theorem TellsAt.after {α : Type} {P : Program} {g : Nat} {front : Array Value} {enc : α → Array Value} {Pk : Nat → Prop} {xs : List α} {W V : World} (hB : Below W.heap.size W V) (h : TellsAt P g front enc Pk xs V)
    (l : Nat) (J : Nat → List α → World → Prop) (hJ : ∀ m, AbidesFrom W.heap.size (J m))
    (hY : ∀ m pre x W1, W.heap.size ≤ m → J m pre W1 → pre.length < xs.length → YieldAt Fence.wide 0 P l (enc x) W1 fun e W' => e = .returned (.bool true) ∧ J m (pre ++ [x]) W' ∧ KpP (Upto Pk W.heap.size m) W1 W')
    (h0 : ∀ W2, Below W.heap.size W W2 → J W2.heap.size [] W2) :
    Calls P g (front ++ #[.func (.yield l) #[] #[]]) V fun e W' => (∃ v, e = .returned v) ∧ ∃ m, W.heap.size ≤ m ∧ J m xs W' := by
  refine callsIn_wide.1 ((h l J (fun m s X Y row hs hg hr => hJ m s X Y row hs hg (fun r e => ⟨Nat.le_trans hB.size (hr r e).1, (hr r e).2⟩)) (fun m pre x W1 hm hj hl => ?_) (fun W2 h2 => h0 W2 (hB.trans (h2.mono hB.size)))).mono ?_)
  · obtain ⟨fn, tmps, as_, body, hy, hR⟩ := hY m pre x W1 (Nat.le_trans hB.size hm) hj hl
    refine ⟨fn, tmps, as_, body, hy, hR.mono ?_⟩
    rintro e W' ⟨h1, h2, h3⟩
    refine ⟨h1, h2, h3.weak ?_⟩
    rintro k (hk | hk)
    · exact .inl hk
    · exact .inr ⟨Nat.le_trans hB.size hk.1, hk.2⟩
  · rintro e W' ⟨h1, m, h2, h3⟩
    exact ⟨h1, m, Nat.le_trans hB.size h2, h3⟩

set_option maxRecDepth 100000 in
set_option maxHeartbeats 2000000 in
theorem links_tells {lq rq : List Ob} {o : Ob} {P : Nat → Prop} (hP : Heaps bh b vw vb P) {W0 : World} (hPl : ∀ k, P k → k < W0.heap.size) (h : Hp n₀ bh b vw vb W0 lim used (lq ++ o :: rq))
    {L : List Lk} (xs : List { x : Lk // x ∈ L }) (hxs : xs.map (·.val) = links (lq ++ o :: rq) o) :
    TellsAt Tryz.prog 122 #[.agg #[.pointer (some ⟨bh, 0, none⟩), .int .i64 o.at_]] (fun x : { x : Lk // x ∈ L } => #[lkv x.val]) P xs W0 := by
  intro l J hJ hY h0
  refine calls_any (n := 1) ?_
  have hrow := heap_alloc_new W0 (.cells #[.pointer (some ⟨bh, 0, none⟩), .int .i64 o.at_] 129)
  have hBV := below1 W0 (.cells #[.pointer (some ⟨bh, 0, none⟩), .int .i64 o.at_] 129)
  have ch : (W0.alloc (.cells #[.pointer (some ⟨bh, 0, none⟩), .int .i64 o.at_] 129)).cell? ⟨W0.heap.size, 0, none⟩ = some (.pointer (some ⟨bh, 0, none⟩)) := by rw [cell_of_row _ W0.heap.size 0 _ _ _ hrow]; rfl
  have ca : (W0.alloc (.cells #[.pointer (some ⟨bh, 0, none⟩), .int .i64 o.at_] 129)).cell? ⟨W0.heap.size, 1, none⟩ = some (.int .i64 o.at_) := by rw [cell_of_row _ W0.heap.size 1 _ _ _ hrow]; rfl
  have hW := h.below hBV
  have H1 := kindM hW
  have H2 := sizeM hW
  have hkn : 3 ≤ o.kind ∧ o.kind ≤ 8 := by
    obtain ⟨A, _, h2, _⟩ := h; exact h2.knd o (by simp)
  have hsz : o.ws.length ≤ 1048576 := by
    have := h.srt.2 o (by simp); have := h.le; unfold Ob.end_ at *; omega
  have hPl' : ∀ k, P k → k < (W0.alloc (.cells #[.pointer (some ⟨bh, 0, none⟩), .int .i64 o.at_] 129)).heap.size := fun k hk => Nat.lt_of_lt_of_le (hPl k hk) hBV.size
  have H3 := fun hx => (items_tells (P := P) hW xs hx).after hBV l J hJ hY h0
  have H4 := fun f t ht hf hx => (pairs_tells hP hPl' hW f t ht hf xs hx).after hBV l J hJ hY h0
  simp only [List.push_toArray, List.append_toArray, List.nil_append, List.cons_append] at H3 H4
  have hend : xs = [] → ∃ m, W0.heap.size ≤ m ∧ J m xs (W0.alloc (.cells #[.pointer (some ⟨bh, 0, none⟩), .int .i64 o.at_] 129)) := fun e' => by rw [e']; exact ⟨_, hBV.size, h0 _ hBV⟩
  clear hrow hBV hJ hY h0 hW hPl' hPl
  rcases (by omega : o.kind = 3 ∨ o.kind = 4 ∨ o.kind = 5 ∨ o.kind = 6 ∨ o.kind = 7 ∨ o.kind = 8) with hk | hk | hk | hk | hk | hk
  · rw [hk] at H1
    have hr : xs = [] := List.map_eq_nil_iff.1 (hxs.trans (by simp [links, hk]))
    clear h hk hkn H3 H4 hxs
    refine callsIn_of_wp Tryz.func122 rfl trivial ?_ rfl
    simp only [Tryz.ntmps122, List.size_toArray, List.length_cons, List.length_nil, Nat.reduceAdd, Nat.reduceSub, Array.replicate_succ, Array.replicate_zero, List.push_toArray, List.append_toArray, List.nil_append, List.cons_append]
    gi_wp2_with (first
      | (refine ⟨trivial, ?_⟩; gi_at_call 32; refine (callsIn_wide.2 H1).mono ?_; clear H1; rintro e w' ⟨rfl, rfl⟩)
      | (refine ⟨trivial, ?_⟩; gi_at_call 33; refine (callsIn_wide.2 H2).mono ?_; clear H2; rintro e w' ⟨rfl, rfl⟩))
    refine bodyPost_end (results_none (by rfl) _ _ _) (by rfl) ?_
    exact ⟨⟨_, rfl⟩, hend hr⟩
  · rw [hk] at H1
    have H5 := H3 (hxs.trans (by unfold links; rw [if_pos (.inl hk)]))
    clear h hk hkn H3 H4 hxs hend
    refine callsIn_of_wp Tryz.func122 rfl trivial ?_ rfl
    simp only [Tryz.ntmps122, List.size_toArray, List.length_cons, List.length_nil, Nat.reduceAdd, Nat.reduceSub, Array.replicate_succ, Array.replicate_zero, List.push_toArray, List.append_toArray, List.nil_append, List.cons_append]
    gi_wp2_with (first
      | (refine ⟨trivial, ?_⟩; gi_at_call 32; refine (callsIn_wide.2 H1).mono ?_; clear H1; rintro e w' ⟨rfl, rfl⟩)
      | (refine ⟨trivial, ?_⟩; gi_at_call 33; refine (callsIn_wide.2 H2).mono ?_; clear H2; rintro e w' ⟨rfl, rfl⟩)
      | (refine ⟨trivial, ?_⟩; gi_at_call 185; refine (callsIn_wide.2 H5).mono ?_; clear H5; rintro e w' ⟨⟨v, rfl⟩, hJe⟩))
    refine bodyPost_end (results_none (by rfl) _ _ _) (by rfl) ?_
    exact ⟨⟨_, rfl⟩, hJe⟩
  · rw [hk] at H1
    have H5 := H3 (hxs.trans (by unfold links; rw [if_pos (.inr hk)]))
    clear h hk hkn H3 H4 hxs hend
    refine callsIn_of_wp Tryz.func122 rfl trivial ?_ rfl
    simp only [Tryz.ntmps122, List.size_toArray, List.length_cons, List.length_nil, Nat.reduceAdd, Nat.reduceSub, Array.replicate_succ, Array.replicate_zero, List.push_toArray, List.append_toArray, List.nil_append, List.cons_append]
    gi_wp2_with (first
      | (refine ⟨trivial, ?_⟩; gi_at_call 32; refine (callsIn_wide.2 H1).mono ?_; clear H1; rintro e w' ⟨rfl, rfl⟩)
      | (refine ⟨trivial, ?_⟩; gi_at_call 33; refine (callsIn_wide.2 H2).mono ?_; clear H2; rintro e w' ⟨rfl, rfl⟩)
      | (refine ⟨trivial, ?_⟩; gi_at_call 185; refine (callsIn_wide.2 H5).mono ?_; clear H5; rintro e w' ⟨⟨v, rfl⟩, hJe⟩))
    refine bodyPost_end (results_none (by rfl) _ _ _) (by rfl) ?_
    exact ⟨⟨_, rfl⟩, hJe⟩
  · rw [hk] at H1
    have H5 := H4 1 o.ws.length (Nat.le_refl _) (by omega) (hxs.trans (by simp [links, hk]))
    simp only [Int.cast_ofNat_Int] at H5
    clear h hk hkn H3 H4 hxs hend
    refine callsIn_of_wp Tryz.func122 rfl trivial ?_ rfl
    simp only [Tryz.ntmps122, List.size_toArray, List.length_cons, List.length_nil, Nat.reduceAdd, Nat.reduceSub, Array.replicate_succ, Array.replicate_zero, List.push_toArray, List.append_toArray, List.nil_append, List.cons_append]
    gi_wp2_with (first
      | (refine ⟨trivial, ?_⟩; gi_at_call 32; refine (callsIn_wide.2 H1).mono ?_; clear H1; rintro e w' ⟨rfl, rfl⟩)
      | (refine ⟨trivial, ?_⟩; gi_at_call 33; refine (callsIn_wide.2 H2).mono ?_; clear H2; rintro e w' ⟨rfl, rfl⟩)
      | (refine ⟨trivial, ?_⟩; gi_at_call 186; refine (callsIn_wide.2 H5).mono ?_; clear H5; rintro e w' ⟨⟨v, rfl⟩, hJe⟩))
    refine bodyPost_end (results_none (by rfl) _ _ _) (by rfl) ?_
    exact ⟨⟨_, rfl⟩, hJe⟩
  · rw [hk] at H1
    have hmn : min o.ws.length 2 ≤ o.ws.length := by omega
    have H5 := H4 0 (min o.ws.length 2) hmn (by omega) (hxs.trans (by simp [links, hk]; rw [Nat.min_comm, ← List.take_take]; simp))
    simp only [Int.cast_ofNat_Int] at H5
    clear h hk hkn H3 H4 hxs hend
    by_cases h2 : o.ws.length ≤ 2
    · have e2 : min o.ws.length 2 = o.ws.length := by omega
      rw [e2] at H5
      refine callsIn_of_wp Tryz.func122 rfl trivial ?_ rfl
      simp only [Tryz.ntmps122, List.size_toArray, List.length_cons, List.length_nil, Nat.reduceAdd, Nat.reduceSub, Array.replicate_succ, Array.replicate_zero, List.push_toArray, List.append_toArray, List.nil_append, List.cons_append]
      gi_wp2_with (first
        | (refine ⟨trivial, ?_⟩; gi_at_call 32; refine (callsIn_wide.2 H1).mono ?_; clear H1; rintro e w' ⟨rfl, rfl⟩)
        | (refine ⟨trivial, ?_⟩; gi_at_call 33; refine (callsIn_wide.2 H2).mono ?_; clear H2; rintro e w' ⟨rfl, rfl⟩)
        | (refine ⟨trivial, ?_⟩; gi_at_call 186; refine (callsIn_wide.2 H5).mono ?_; clear H5; rintro e w' ⟨⟨v, rfl⟩, hJe⟩))
      refine bodyPost_end (results_none (by rfl) _ _ _) (by rfl) ?_
      exact ⟨⟨_, rfl⟩, hJe⟩
    · have e2 : min o.ws.length 2 = 2 := by omega
      rw [e2] at H5
      simp only [Int.cast_ofNat_Int] at H5
      refine callsIn_of_wp Tryz.func122 rfl trivial ?_ rfl
      simp only [Tryz.ntmps122, List.size_toArray, List.length_cons, List.length_nil, Nat.reduceAdd, Nat.reduceSub, Array.replicate_succ, Array.replicate_zero, List.push_toArray, List.append_toArray, List.nil_append, List.cons_append]
      gi_wp2_with (first
        | (refine ⟨trivial, ?_⟩; gi_at_call 32; refine (callsIn_wide.2 H1).mono ?_; clear H1; rintro e w' ⟨rfl, rfl⟩)
        | (refine ⟨trivial, ?_⟩; gi_at_call 33; refine (callsIn_wide.2 H2).mono ?_; clear H2; rintro e w' ⟨rfl, rfl⟩)
        | (refine ⟨trivial, ?_⟩; gi_at_call 186; refine (callsIn_wide.2 H5).mono ?_; clear H5; rintro e w' ⟨⟨v, rfl⟩, hJe⟩))
      refine bodyPost_end (results_none (by rfl) _ _ _) (by rfl) ?_
      exact ⟨⟨_, rfl⟩, hJe⟩
  · rw [hk] at H1
    have H5 := H4 0 o.ws.length (Nat.le_refl _) (by omega) (hxs.trans (by simp [links, hk]))
    simp only [Int.cast_ofNat_Int] at H5
    clear h hk hkn H3 H4 hxs hend
    refine callsIn_of_wp Tryz.func122 rfl trivial ?_ rfl
    simp only [Tryz.ntmps122, List.size_toArray, List.length_cons, List.length_nil, Nat.reduceAdd, Nat.reduceSub, Array.replicate_succ, Array.replicate_zero, List.push_toArray, List.append_toArray, List.nil_append, List.cons_append]
    gi_wp2_with (first
      | (refine ⟨trivial, ?_⟩; gi_at_call 32; refine (callsIn_wide.2 H1).mono ?_; clear H1; rintro e w' ⟨rfl, rfl⟩)
      | (refine ⟨trivial, ?_⟩; gi_at_call 33; refine (callsIn_wide.2 H2).mono ?_; clear H2; rintro e w' ⟨rfl, rfl⟩)
      | (refine ⟨trivial, ?_⟩; gi_at_call 186; refine (callsIn_wide.2 H5).mono ?_; clear H5; rintro e w' ⟨⟨v, rfl⟩, hJe⟩))
    refine bodyPost_end (results_none (by rfl) _ _ _) (by rfl) ?_
    exact ⟨⟨_, rfl⟩, hJe⟩

theorem infoHolder : (Tryz.prog.info? 129).map (·.size) = some 2 := by kernel_rfl

set_option maxHeartbeats 400000 in
theorem holds_in (at_ : Int) (w : World) : Calls Tryz.prog 121 #[.pointer (some ⟨bh, 0, none⟩), .int .i64 at_] w fun e w' => e = .returned (.agg #[.pointer (some ⟨bh, 0, none⟩), .int .i64 at_]) ∧ Below w.heap.size w w' := by
  go_enter Tryz.func121, Tryz.ntmps121
  go_wp2
  refine bodyPost_ret (results_cell_row (by rfl) _ _ w.heap.size 129 _ _ _ (by rfl) (heap_alloc_new w _) Tryz.underlying129 (by rfl) infoHolder) (by rfl) ?_
  exact ⟨rfl, below1 _ _⟩

end Go.Proofs.YtampilfebmfhaaaGreatDoor
