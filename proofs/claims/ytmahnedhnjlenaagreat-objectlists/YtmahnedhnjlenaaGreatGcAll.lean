/- The iterators that tell what an object holds: gc's pairs, items, holds. -/
import Derived.Test.YtmahnedhnjlenaaGreatGcHolds
namespace Go.Proofs.YtmahnedhnjlenaaGreat
set_option linter.unusedVariables false
set_option linter.unusedSimpArgs false
open Go.RowKit Go.Shelf

attribute [local go_sem] Oper.semAt_some

variable {n₀ bh b lim used : Nat} {vw vb : Value} {w : World} {M : List Ob}

/-- What an iterator wants kept. -/
def KpP (P : Nat → Prop) (W W' : World) : Prop := ∀ k, P k → W'.heap[k]? = W.heap[k]?

theorem KpP.refl (P : Nat → Prop) (W : World) : KpP P W W := fun _ _ => rfl

theorem KpP.trans {P : Nat → Prop} {A B C : World} (h : KpP P A B) (k : KpP P B C) : KpP P A C := fun i hi => (k i hi).trans (h i hi)

theorem KpP.cell {P : Nat → Prop} {W W' : World} (h : KpP P W W') {B i : Nat} (hB : P B) {v : Value} (hv : W.cell? ⟨B, i, none⟩ = some v) : W'.cell? ⟨B, i, none⟩ = some v :=
  (World.cell?_of_block (a := ⟨B, i, none⟩) (h B hB)).trans hv

theorem Hp.keptP {P : Nat → Prop} {W W' : World} (h : Hp n₀ bh b vw vb W lim used M) (hP : ∀ k, (k = bh ∨ k = b ∨ vw.ownBlock = some k ∨ vb.ownBlock = some k) → P k) (hk : KpP P W W') : Hp n₀ bh b vw vb W' lim used M :=
  h.kept (fun k e => hk k (hP k e))

def lkv (x : Lk) : Value := .agg #[.int .i64 x.word, .int .i64 x.to, .int .u64 x.more]

theorem grown_belowG {A B : World} (h : Below A.heap.size A B) : A.grownBy B none := ⟨h.os, h.tape, h.output, h.size, fun k hk _ => h.block k hk⟩

theorem abides_below {β : Type} {n : Nat} {J : β → World → Prop} (hJ : AbidesFrom n J) {s : β} {A B : World} (h : J s A) (hB : Below A.heap.size A B) : J s B :=
  hJ s A B none h (grown_belowG hB) (fun r e => by cases e)

theorem prs_step {M : List Ob} {ws : List Nat} {i k n : Nat} (hk : ws[i]? = some k) (hn : ws[i + 1]? = some n) : prs M i (ws.drop i) = (if Leads M k n then [⟨i + 1, n, 0⟩] else []) ++ prs M (i + 2) (ws.drop (i + 2)) := by
  have h1 : i < ws.length := (List.getElem?_eq_some_iff.1 hk).1
  have h2 : i + 1 < ws.length := (List.getElem?_eq_some_iff.1 hn).1
  rw [List.drop_eq_getElem_cons h1, List.drop_eq_getElem_cons h2]
  rw [List.getElem?_eq_getElem h1] at hk
  rw [List.getElem?_eq_getElem h2] at hn
  simp only [Option.some.injEq] at hk hn
  rw [hk, hn]
  rfl

theorem prs_end {M : List Ob} {ws : List Nat} {i : Nat} (h : ws.length ≤ i + 1) : prs M i (ws.drop i) = [] := by
  have : (ws.drop i).length ≤ 1 := by simp; omega
  match e : ws.drop i with
  | [] => rfl
  | [_] => rfl
  | _ :: _ :: _ => rw [e] at this; simp at this

set_option maxRecDepth 100000 in
set_option maxHeartbeats 2000000 in
theorem pairs1_in (n l : Nat) (hn : 1 ≤ n) {lq rq : List Ob} {o : Ob} (P : Nat → Prop) (hP : ∀ k, (k = bh ∨ k = b ∨ vw.ownBlock = some k ∨ vb.ownBlock = some k) → P k) (Bf Bt Bh Ba : Nat) (hPf : P Bf) (hPt : P Bt) (hPh : P Bh) (hPa : P Ba)
    (from_ to_ : Nat) (hto : to_ ≤ o.ws.length) (hfr : from_ ≤ 1) {L : List Lk} (xs : List { x : Lk // x ∈ L }) (hxs : xs.map (·.val) = prs (lq ++ o :: rq) from_ ((o.ws.take to_).drop from_)) (J Jx : List { x : Lk // x ∈ L } → World → Prop)
    (W : World) (hJ : AbidesFrom W.heap.size J)
    (hY : ∀ pre x W, J pre W → pre.length < xs.length → YieldAt Fence.wide (n - 1) Tryz.prog l #[lkv x.val] W fun e W' =>
      (e = .returned (.bool true) ∧ J (pre ++ [x]) W' ∧ KpP P W W') ∨ (e = .returned (.bool false) ∧ Jx (pre ++ [x]) W'))
    (hPl : ∀ k, P k → k < W.heap.size) (hW : Hp n₀ bh b vw vb W lim used (lq ++ o :: rq)) (cf : W.cell? ⟨Bf, 0, none⟩ = some (.int .i64 from_)) (ct : W.cell? ⟨Bt, 0, none⟩ = some (.int .i64 to_))
    (ch : W.cell? ⟨Bh, 0, none⟩ = some (.pointer (some ⟨bh, 0, none⟩))) (ca : W.cell? ⟨Ba, 0, none⟩ = some (.int .i64 o.at_)) (h0 : J [] W) :
    CallsIn Fence.wide n Tryz.prog 127 #[.func (.yield l) #[] #[], .pointer (some ⟨Bf, 0, none⟩), .pointer (some ⟨Bt, 0, none⟩), .pointer (some ⟨Bh, 0, none⟩), .pointer (some ⟨Ba, 0, none⟩)] W fun e W' => (∃ v, e = .returned v) ∧
      ((∃ ys, ys = xs ∧ J ys W') ∨ (∃ pre, pre <+: xs ∧ Jx pre W')) := by
  have hb20 : o.ws.length ≤ 1048576 := by
    have := hW.srt.2 o (by simp); have := hW.le; unfold Ob.end_ at *; omega
  have hu : ∀ q ∈ lq ++ o :: rq, q.at_ < 1048576 := fun q hq => by
    have := hW.srt.2 q hq; have := hW.le; unfold Ob.end_ at *; omega
  have hPlt : ∀ k, P k → ∀ wr, KpP P W wr → k < wr.heap.size := fun k hk wr h => by
    have h1 := h k hk
    rw [Array.getElem?_eq_getElem (hPl k hk)] at h1
    exact (Array.getElem?_eq_some_iff.1 h1).1
  refine callsIn_of_wp Tryz.func127 rfl trivial ?_ rfl
  simp only [Tryz.ntmps127, List.size_toArray, List.length_cons, List.length_nil, Nat.reduceAdd, Nat.reduceSub, Array.replicate_succ, Array.replicate_zero, List.push_toArray, List.append_toArray, List.nil_append, List.cons_append]
  gi_wp2
  gi_loopw [6] (fun p wr => ∃ (pre rest : List { x : Lk // x ∈ L }) (i : Nat), p = .int .i64 i ∧ xs = pre ++ rest ∧ rest.map (·.val) = prs (lq ++ o :: rq) i ((o.ws.take to_).drop i) ∧ J pre wr ∧ KpP P W wr ∧ i ≤ to_ + 1)
    (fun p _ => to_ - (intOf p).toNat)
  case atStart => exact ⟨[], xs, from_, rfl, rfl, hxs, h0, KpP.refl _ _, by omega⟩
  case round =>
    obtain ⟨pre, rest, i, rfl, hx, hl, hJs, hk, hib⟩ := hrel
    have hWr := hW.keptP hP hk
    have ct' := hk.cell hPt ct
    have ch' := hk.cell hPh ch
    have ca' := hk.cell hPa ca
    by_cases hi : i + 1 < to_
    · obtain ⟨k0, hk0⟩ : ∃ k0, o.ws[i]? = some k0 := ⟨o.ws[i]'(by omega), by simp⟩
      obtain ⟨m0, hm0⟩ : ∃ m0, o.ws[i + 1]? = some m0 := ⟨o.ws[i + 1]'(by omega), by simp⟩
      have h64 := hWr.word_lt hm0
      rw [prs_step (k := k0) (n := m0) (by rw [List.getElem?_take, if_pos (by omega)]; exact hk0) (by rw [List.getElem?_take, if_pos (by omega)]; exact hm0)] at hl
      have H1 := held_in hWr i k0 m0 hk0 hm0
      have H2 := fun w' (hB : Below wr.heap.size wr w') => leads_in (hWr.below hB) (heldK k0) (heldN k0 m0)
      have hi' : (i : Int) + 1 < (to_ : Int) := by omega
      by_cases hL : Leads (lq ++ o :: rq) k0 m0
      · rw [if_pos hL] at hl
        cases rest with
        | nil => simp at hl
        | cons x rest =>
          simp only [List.map_cons, List.cons_append, List.nil_append, List.cons.injEq] at hl
          obtain ⟨hx1, hl⟩ := hl
          have hY' := fun W2 (hB : Below wr.heap.size wr W2) => hY pre x W2 (abides_below hJ hJs hB) (by rw [hx]; simp)
          rw [hx1] at hY'
          have ed : decide (Leads (lq ++ o :: rq) (heldK k0) (heldN k0 m0)) = true := by simpa using (held_leads hu h64).2 hL
          rw [ed] at H2
          rw [held_at hu h64 hL] at H1 H2
          have hx0 : x.val = ⟨i + 1, m0, 0⟩ := hx1
          have HX : Hid _ := And.intro hx (And.intro hx0 hl)
          clear hx hx0 hx1 hl ed hxs
          gi_wp2_with (first
            | (refine ⟨trivial, ?_⟩; gi_at_call 128; refine (callsIn_wide.2 H1).mono ?_; clear H1; rintro e w1 ⟨rfl, hB1⟩; have ch1 := (hB1.cell (p := ⟨Bh, 0, none⟩) (World.block_lt_of_cell? wr _ ch')).trans ch'; have ch2 := cell_alloc_l (.cells #[.int .u8 (heldK k0), .int .i64 m0] 29) ch1)
            | (refine ⟨trivial, ?_⟩; gi_at_call 72; refine (callsIn_wide.2 (H2 _ (hB1.alloc hB1.size _))).mono ?_; clear H2; rintro e w2 ⟨rfl, hB2⟩; have c5 : w2.cell? ⟨w1.heap.size, 1, none⟩ = some (.int .i64 m0) := (hB2.cell (p := ⟨w1.heap.size, 1, none⟩) (by simp)).trans (by rw [cell_of_row _ w1.heap.size 1 _ _ _ (heap_alloc_new w1 _)]; rfl); have hB3 : Below wr.heap.size wr w2 := (hB1.alloc hB1.size _).trans (hB2.mono (by have := hB1.size; simp; omega)); obtain ⟨fn, tmps, assign, body, hy, hR⟩ := hY' w2 hB3; simp only [lkv, Int.natCast_add, Int.cast_ofNat_Int] at hy))
          refine hR.mono ?_
          rintro e W3 (⟨rfl, hJ3, hk3⟩ | ⟨rfl, hJx3⟩)
          · have hkB : KpP P wr w2 := fun k hk' => hB3.block k (hPlt k hk' wr hk)
            gi_wp2
            go_roundw
            case rel =>
              obtain ⟨q1, q2, q3⟩ := HX.out
              exact ⟨pre ++ [x], rest, i + 2, by simp, by simp [q1], q3, hJ3, hk.trans (hkB.trans hk3), by omega⟩
            case measure => simp [intOf]; omega
          · gi_wp2
            refine bodyPost_ret (results_none (by rfl) _ _ _) (by rfl) ?_
            obtain ⟨q1, q2, q3⟩ := HX.out
            exact ⟨⟨_, rfl⟩, .inr ⟨pre ++ [x], ⟨rest, by simp [q1]⟩, hJx3⟩⟩
      · rw [if_neg hL] at hl
        simp only [List.nil_append] at hl
        have ed : decide (Leads (lq ++ o :: rq) (heldK k0) (heldN k0 m0)) = false := by
          simp only [decide_eq_false_iff_not]; exact fun h => hL ((held_leads hu h64).1 h)
        rw [ed] at H2
        have HX : Hid _ := And.intro hx hl
        clear hx hl ed hxs
        gi_wp2_with (first
          | (refine ⟨trivial, ?_⟩; gi_at_call 128; refine (callsIn_wide.2 H1).mono ?_; clear H1; rintro e w1 ⟨rfl, hB1⟩; have ch1 := (hB1.cell (p := ⟨Bh, 0, none⟩) (World.block_lt_of_cell? wr _ ch')).trans ch'; have ch2 := cell_alloc_l (.cells #[.int .u8 (heldK k0), .int .i64 (heldN k0 m0)] 29) ch1)
          | (refine ⟨trivial, ?_⟩; gi_at_call 72; refine (callsIn_wide.2 (H2 _ (hB1.alloc hB1.size _))).mono ?_; clear H2; rintro e w2 ⟨rfl, hB2⟩; have hB3 : Below wr.heap.size wr w2 := (hB1.alloc hB1.size _).trans (hB2.mono (by have := hB1.size; simp; omega))))
        refine ⟨fun _ h => (by cases h), ?_⟩
        gi_wp2
        have hkB : KpP P wr w2 := fun k hk' => hB3.block k (hPlt k hk' wr hk)
        go_roundw
        case rel =>
          obtain ⟨q1, q3⟩ := HX.out
          exact ⟨pre, rest, i + 2, by simp, q1, q3, abides_below hJ hJs hB3, hk.trans hkB, by omega⟩
        case measure => simp [intOf]; omega
    · have hi' : ¬ ((i : Int) + 1 < (to_ : Int)) := by omega
      rw [prs_end (by simp; omega)] at hl
      have hr : rest = [] := List.map_eq_nil_iff.1 hl
      have HX : Hid _ := And.intro hx hr
      clear hx hl hr hxs
      gi_wp2
      refine bodyPost_end (results_none (by rfl) _ _ _) (by rfl) ?_
      obtain ⟨q1, q3⟩ := HX.out
      have q4 : xs = pre := by simp [q1, q3]
      rw [← q4] at hJs
      exact ⟨⟨_, rfl⟩, .inl hJs⟩

theorem pairs1_stops (n : Nat) (hn : 1 ≤ n) {lq rq : List Ob} {o : Ob} (P : Nat → Prop) (hP : ∀ k, (k = bh ∨ k = b ∨ vw.ownBlock = some k ∨ vb.ownBlock = some k) → P k) (Bf Bt Bh Ba : Nat) (hPf : P Bf) (hPt : P Bt) (hPh : P Bh) (hPa : P Ba) (hPl : ∀ k, P k → k < w.heap.size)
    (from_ to_ : Nat) (hto : to_ ≤ o.ws.length) (hfr : from_ ≤ 1) {L : List Lk} (xs : List { x : Lk // x ∈ L }) (hxs : xs.map (·.val) = prs (lq ++ o :: rq) from_ ((o.ws.take to_).drop from_))
    (hW : Hp n₀ bh b vw vb w lim used (lq ++ o :: rq)) (cf : w.cell? ⟨Bf, 0, none⟩ = some (.int .i64 from_)) (ct : w.cell? ⟨Bt, 0, none⟩ = some (.int .i64 to_))
    (ch : w.cell? ⟨Bh, 0, none⟩ = some (.pointer (some ⟨bh, 0, none⟩))) (ca : w.cell? ⟨Ba, 0, none⟩ = some (.int .i64 o.at_)) :
    SeqStopsK Fence.wide n Tryz.prog 127 #[.pointer (some ⟨Bf, 0, none⟩), .pointer (some ⟨Bt, 0, none⟩), .pointer (some ⟨Bh, 0, none⟩), .pointer (some ⟨Ba, 0, none⟩)] (fun x : { x : Lk // x ∈ L } => #[lkv x.val]) (KpP P) (fun ys => ys = xs) (fun pre => pre <+: xs) xs.length w := by
  intro l J Jx W hBl hJ hJx hY h0
  have hk : KpP P w W := fun k hk => hBl.block k (hPl k hk)
  exact pairs1_in n l hn P hP Bf Bt Bh Ba hPf hPt hPh hPa from_ to_ hto hfr xs hxs J Jx W hJ hY (fun k h => Nat.lt_of_lt_of_le (hPl k h) hBl.size) (hW.keptP hP hk) (hk.cell hPf cf) (hk.cell hPt ct) (hk.cell hPh ch) (hk.cell hPa ca) h0

end Go.Proofs.YtmahnedhnjlenaaGreat

namespace Go.Proofs.YtmahnedhnjlenaaGreat
set_option linter.unusedVariables false
set_option linter.unusedSimpArgs false
open Go.RowKit Go.Shelf

attribute [local go_sem] Oper.semAt_some

variable {n₀ bh b lim used : Nat} {vw vb : Value} {w : World} {M : List Ob}

set_option maxRecDepth 100000 in
set_option maxHeartbeats 2000000 in
theorem items1_in (n l : Nat) (hn : 1 ≤ n) {lq rq : List Ob} {o : Ob} (P : Nat → Prop) (Bh Ba : Nat) {L : List Lk} (xs : List { x : Lk // x ∈ L }) (hxs : xs.map (·.val) = itemsL (lq ++ o :: rq) o.ws) (J Jx : List { x : Lk // x ∈ L } → World → Prop)
    (W : World) (hJ : AbidesFrom W.heap.size J)
    (hY : ∀ pre x W, J pre W → pre.length < xs.length → YieldAt Fence.wide (n - 1) Tryz.prog l #[lkv x.val] W fun e W' =>
      (e = .returned (.bool true) ∧ J (pre ++ [x]) W' ∧ KpP P W W') ∨ (e = .returned (.bool false) ∧ Jx (pre ++ [x]) W'))
    (hW : Hp n₀ bh b vw vb W lim used (lq ++ o :: rq)) 
    (ch : W.cell? ⟨Bh, 0, none⟩ = some (.pointer (some ⟨bh, 0, none⟩))) (ca : W.cell? ⟨Ba, 0, none⟩ = some (.int .i64 o.at_)) (h0 : J [] W) :
    CallsIn Fence.wide n Tryz.prog 126 #[.func (.yield l) #[] #[], .pointer (some ⟨Bh, 0, none⟩), .pointer (some ⟨Ba, 0, none⟩)] W fun e W' => (∃ v, e = .returned v) ∧
      ((∃ ys, ys = xs ∧ J ys W') ∨ (∃ pre, pre <+: xs ∧ Jx pre W')) := by
  have hu : ∀ q ∈ lq ++ o :: rq, q.at_ < 1048576 := fun q hq => by
    have := hW.srt.2 q hq; have := hW.le; unfold Ob.end_ at *; omega
  cases h1 : o.ws[1]? with
  | none =>
    have H1 := readM_out hW 1 (.inr (by rw [List.getElem?_eq_none_iff] at h1; omega))
    have hr : xs = [] := List.map_eq_nil_iff.1 (hxs.trans (by simp [itemsL, h1]))
    subst hr
    clear hxs hY h1
    refine callsIn_of_wp Tryz.func126 rfl trivial ?_ rfl
    simp only [Tryz.ntmps126, List.size_toArray, List.length_cons, List.length_nil, Nat.reduceAdd, Nat.reduceSub, Array.replicate_succ, Array.replicate_zero, List.push_toArray, List.append_toArray, List.nil_append, List.cons_append]
    gi_wp2_with (first
      | (refine ⟨trivial, ?_⟩; gi_at_call 116; refine (callsIn_wide.2 H1).mono ?_; clear H1; rintro e w1 ⟨rfl, rfl⟩))
    refine bodyPost_ret (results_none (by rfl) _ _ _) (by rfl) ?_
    exact ⟨⟨_, rfl⟩, .inl ⟨[], rfl, h0⟩⟩
  | some x =>
    have H1 := readM hW 1 x h1
    have h64 := hW.word_lt h1
    by_cases hx0 : x = 0
    · subst hx0
      have hr : xs = [] := List.map_eq_nil_iff.1 (hxs.trans (by simp [itemsL, h1]))
      subst hr
      clear hxs hY h1
      refine callsIn_of_wp Tryz.func126 rfl trivial ?_ rfl
      simp only [Tryz.ntmps126, List.size_toArray, List.length_cons, List.length_nil, Nat.reduceAdd, Nat.reduceSub, Array.replicate_succ, Array.replicate_zero, List.push_toArray, List.append_toArray, List.nil_append, List.cons_append]
      gi_wp2_with (first
        | (refine ⟨trivial, ?_⟩; gi_at_call 116; refine (callsIn_wide.2 H1).mono ?_; clear H1; rintro e w1 ⟨rfl, rfl⟩))
      refine bodyPost_ret (results_none (by rfl) _ _ _) (by rfl) ?_
      exact ⟨⟨_, rfl⟩, .inl ⟨[], rfl, h0⟩⟩
    · have hx1b : ((x : Int) == 0) = false := by simp; omega
      have ez : wrap64 ((x : Int) - 1) = wrap64 ((x - 1 : Nat) : Int) := by congr 1; omega
      have hI := wrap_at hu (n := x - 1) (by omega) 8
      rw [← ez] at hI
      obtain ⟨z, hz⟩ : ∃ z, wrap64 ((x : Int) - 1) = z := ⟨_, rfl⟩
      rw [hz] at hI
      have hzu : ∀ q ∈ lq ++ o :: rq, (q.at_ : Int) = z → x - 1 = q.at_ := by
        intro q hq e
        have := hu q hq
        rw [← hz] at e
        simp only [wrap64] at e
        omega
      clear ez
      rcases at_cases (lq ++ o :: rq) z with hno | ⟨l2, q, r2, hq, hqz⟩
      · have H2 := kindM_none hW z hno
        have hr : xs = [] := List.map_eq_nil_iff.1 (hxs.trans (by
          have : ¬ Is (lq ++ o :: rq) 8 ((x - 1 : Nat) : Int) := fun h => by
            obtain ⟨q, hq, e, _⟩ := hI.2 h
            exact hno q hq e
          simp only [itemsL, h1]
          rw [if_neg (fun h => this h.2)]))
        subst hr
        clear hxs hY h1 hI hzu hno
        refine callsIn_of_wp Tryz.func126 rfl trivial ?_ rfl
        simp only [Tryz.ntmps126, List.size_toArray, List.length_cons, List.length_nil, Nat.reduceAdd, Nat.reduceSub, Array.replicate_succ, Array.replicate_zero, List.push_toArray, List.append_toArray, List.nil_append, List.cons_append]
        gi_wp2_with (first
          | (refine ⟨trivial, ?_⟩; gi_at_call 116; refine (callsIn_wide.2 H1).mono ?_; clear H1; rintro e w1 ⟨rfl, rfl⟩)
          | (refine ⟨trivial, ?_⟩; gi_at_call 101; refine (callsIn_wide.2 H2).mono ?_; clear H2; rintro e w1 ⟨rfl, rfl⟩))
        refine bodyPost_end (results_none (by rfl) _ _ _) (by rfl) ?_
        exact ⟨⟨_, rfl⟩, .inl ⟨[], rfl, h0⟩⟩
      · have hqm : q ∈ lq ++ o :: rq := by rw [hq]; simp
        have hWq := hW
        rw [hq] at hWq
        have H2 := kindM hWq
        rw [hqz] at H2
        have hxq := hzu q hqm hqz
        by_cases h8 : q.kind = 8
        · have hI8 : Is (lq ++ o :: rq) 8 ((x - 1 : Nat) : Int) := ⟨q, hqm, by omega, h8⟩
          have hl : xs.map (·.val) = [⟨1, x - 1, 1⟩] := hxs.trans (by
            simp only [itemsL, h1]
            rw [if_pos ⟨hx0, hI8⟩])
          cases xs with
          | nil => simp at hl
          | cons y ys =>
            simp only [List.map_cons, List.cons.injEq] at hl
            obtain ⟨hy1, hys⟩ := hl
            have hys := List.map_eq_nil_iff.1 hys
            subst hys
            rw [h8] at H2
            have hzx : z = ((x - 1 : Nat) : Int) := by rw [hxq, ← hqz]
            obtain ⟨fn, tmps, assign, body, hy, hR⟩ := hY [] y W h0 (by simp)
            rw [hy1] at hy
            simp only [lkv, Int.cast_ofNat_Int] at hy
            rw [← hzx] at hy
            clear hxs hY h1 hI hzu hI8 hy1 hWq hzx
            refine callsIn_of_wp Tryz.func126 rfl trivial ?_ rfl
            simp only [Tryz.ntmps126, List.size_toArray, List.length_cons, List.length_nil, Nat.reduceAdd, Nat.reduceSub, Array.replicate_succ, Array.replicate_zero, List.push_toArray, List.append_toArray, List.nil_append, List.cons_append]
            gi_wp2_with (first
              | (refine ⟨trivial, ?_⟩; gi_at_call 116; refine (callsIn_wide.2 H1).mono ?_; clear H1; rintro e w1 ⟨rfl, rfl⟩)
              | (refine ⟨trivial, ?_⟩; gi_at_call 101; refine (callsIn_wide.2 H2).mono ?_; clear H2; rintro e w1 ⟨rfl, rfl⟩))
            refine hR.mono ?_
            rintro e W3 (⟨rfl, hJ3, hk3⟩ | ⟨rfl, hJx3⟩)
            · gi_wp2
              refine bodyPost_end (results_none (by rfl) _ _ _) (by rfl) ?_
              exact ⟨⟨_, rfl⟩, .inl ⟨_, rfl, hJ3⟩⟩
            · gi_wp2
              refine bodyPost_end (results_none (by rfl) _ _ _) (by rfl) ?_
              exact ⟨⟨_, rfl⟩, .inr ⟨_, List.prefix_refl _, hJx3⟩⟩
        · have hr : xs = [] := List.map_eq_nil_iff.1 (hxs.trans (by
            have : ¬ Is (lq ++ o :: rq) 8 ((x - 1 : Nat) : Int) := fun h => by
              obtain ⟨q', hq', e, e8⟩ := h
              obtain rfl := hW.srt.1.uniq hq' hqm (by omega)
              exact h8 e8
            simp only [itemsL, h1]
            rw [if_neg (fun h => this h.2)]))
          subst hr
          have h8b : ((q.kind : Int) == 8) = false := by simp; omega
          clear hxs hY h1 hI hzu hWq
          refine callsIn_of_wp Tryz.func126 rfl trivial ?_ rfl
          simp only [Tryz.ntmps126, List.size_toArray, List.length_cons, List.length_nil, Nat.reduceAdd, Nat.reduceSub, Array.replicate_succ, Array.replicate_zero, List.push_toArray, List.append_toArray, List.nil_append, List.cons_append]
          gi_wp2_with (first
            | (refine ⟨trivial, ?_⟩; gi_at_call 116; refine (callsIn_wide.2 H1).mono ?_; clear H1; rintro e w1 ⟨rfl, rfl⟩)
            | (refine ⟨trivial, ?_⟩; gi_at_call 101; refine (callsIn_wide.2 H2).mono ?_; clear H2; rintro e w1 ⟨rfl, rfl⟩))
          refine bodyPost_end (results_none (by rfl) _ _ _) (by rfl) ?_
          exact ⟨⟨_, rfl⟩, .inl ⟨[], rfl, h0⟩⟩

end Go.Proofs.YtmahnedhnjlenaaGreat

namespace Go.Proofs.YtmahnedhnjlenaaGreat
set_option linter.unusedVariables false
set_option linter.unusedSimpArgs false
open Go.RowKit Go.Shelf

attribute [local go_sem] Oper.semAt_some

variable {n₀ bh b lim used : Nat} {vw vb : Value} {w : World} {M : List Ob}

theorem items1_stops (n : Nat) (hn : 1 ≤ n) {lq rq : List Ob} {o : Ob} (P : Nat → Prop) (hP : ∀ k, (k = bh ∨ k = b ∨ vw.ownBlock = some k ∨ vb.ownBlock = some k) → P k) (Bh Ba : Nat) (hPh : P Bh) (hPa : P Ba) (hPl : ∀ k, P k → k < w.heap.size)
    {L : List Lk} (xs : List { x : Lk // x ∈ L }) (hxs : xs.map (·.val) = itemsL (lq ++ o :: rq) o.ws)
    (hW : Hp n₀ bh b vw vb w lim used (lq ++ o :: rq)) (ch : w.cell? ⟨Bh, 0, none⟩ = some (.pointer (some ⟨bh, 0, none⟩))) (ca : w.cell? ⟨Ba, 0, none⟩ = some (.int .i64 o.at_)) :
    SeqStopsK Fence.wide n Tryz.prog 126 #[.pointer (some ⟨Bh, 0, none⟩), .pointer (some ⟨Ba, 0, none⟩)] (fun x : { x : Lk // x ∈ L } => #[lkv x.val]) (KpP P) (fun ys => ys = xs) (fun pre => pre <+: xs) xs.length w := by
  intro l J Jx W hBl hJ hJx hY h0
  have hk : KpP P w W := fun k hk => hBl.block k (hPl k hk)
  exact items1_in n l hn P Bh Ba xs hxs J Jx W hJ hY (hW.keptP hP hk) (hk.cell hPh ch) (hk.cell hPa ca) h0

set_option maxHeartbeats 400000 in
theorem none1_stops (n : Nat) {L : List Lk} (P : Nat → Prop) (xs : List { x : Lk // x ∈ L }) (hxs : xs = []) :
    SeqStopsK Fence.wide n Tryz.prog 109 #[] (fun x : { x : Lk // x ∈ L } => #[lkv x.val]) (KpP P) (fun ys => ys = xs) (fun pre => pre <+: xs) xs.length w := by
  intro l J Jx W hBl hJ hJx hY h0
  subst hxs
  refine callsIn_of_wp Tryz.func109 rfl trivial ?_ rfl
  gi_wp2
  refine bodyPost_end (results_none (by rfl) _ _ _) (by rfl) ?_
  exact ⟨⟨_, rfl⟩, .inl h0⟩

set_option maxHeartbeats 400000 in
theorem items_mk (at_ : Int) (w : World) : Calls Tryz.prog 107 #[.pointer (some ⟨bh, 0, none⟩), .int .i64 at_] w fun e w' =>
    e = .returned (.func (.func 126) #[] #[.pointer (some ⟨w.heap.size, 0, none⟩), .pointer (some ⟨w.heap.size + 1, 0, none⟩)]) ∧ w' = (w.alloc (.cells #[.pointer (some ⟨bh, 0, none⟩)] 24)).alloc (.cells #[.int .i64 at_] 2) := by
  go_enter Tryz.func107, Tryz.ntmps107
  go_wp2
  go_ret
  exact ⟨rfl, rfl⟩

set_option maxHeartbeats 400000 in
theorem pairs_mk (at_ f t : Int) (w : World) : Calls Tryz.prog 108 #[.pointer (some ⟨bh, 0, none⟩), .int .i64 at_, .int .i64 f, .int .i64 t] w fun e w' =>
    e = .returned (.func (.func 127) #[] #[.pointer (some ⟨w.heap.size + 1 + 1, 0, none⟩), .pointer (some ⟨w.heap.size + 1 + 1 + 1, 0, none⟩), .pointer (some ⟨w.heap.size, 0, none⟩), .pointer (some ⟨w.heap.size + 1, 0, none⟩)]) ∧
      w' = (((w.alloc (.cells #[.pointer (some ⟨bh, 0, none⟩)] 24)).alloc (.cells #[.int .i64 at_] 2)).alloc (.cells #[.int .i64 f] 3)).alloc (.cells #[.int .i64 t] 3) := by
  go_enter Tryz.func108, Tryz.ntmps108
  go_wp2
  go_ret
  exact ⟨rfl, rfl⟩

/-- A value that can be ranged over, and tells what an object holds. -/
def Teller (bh b : Nat) (vw vb : Value) (M : List Ob) (o : Ob) (n0 : Nat) (v : Value) (w : World) : Prop :=
  ∃ gf lb, v = .func (.func gf) #[] lb ∧ (∀ args w, (callFunc gf args).run Tryz.prog w = .ok (.enter gf args) w) ∧
    ∀ (n : Nat), 1 ≤ n → ∀ (P : Nat → Prop), (∀ k, (k = bh ∨ k = b ∨ vw.ownBlock = some k ∨ vb.ownBlock = some k) → P k) → (∀ k, n0 ≤ k → k < w.heap.size → P k) → (∀ k, P k → k < w.heap.size) →
      ∀ (L : List Lk) (xs : List { x : Lk // x ∈ L }), xs.map (·.val) = links M o →
        SeqStopsK Fence.wide n Tryz.prog gf lb (fun x : { x : Lk // x ∈ L } => #[lkv x.val]) (KpP P) (fun ys => ys = xs) (fun pre => pre <+: xs) xs.length w

theorem below_2 (w : World) (o1 o2 : Obj) : Below w.heap.size w ((w.alloc o1).alloc o2) := (below1 w o1).alloc (by simp) _

theorem below_4 (w : World) (o1 o2 o3 o4 : Obj) : Below w.heap.size w ((((w.alloc o1).alloc o2).alloc o3).alloc o4) := ((below_2 w o1 o2).alloc (by simp; omega) _).alloc (by simp; omega) _

theorem teller_items {lq rq : List Ob} {o : Ob} (h : Hp n₀ bh b vw vb w lim used (lq ++ o :: rq)) (hk : o.kind = 4 ∨ o.kind = 5) :
    Teller bh b vw vb (lq ++ o :: rq) o w.heap.size (.func (.func 126) #[] #[.pointer (some ⟨w.heap.size, 0, none⟩), .pointer (some ⟨w.heap.size + 1, 0, none⟩)]) ((w.alloc (.cells #[.pointer (some ⟨bh, 0, none⟩)] 24)).alloc (.cells #[.int .i64 o.at_] 2)) := by
  refine ⟨_, _, rfl, enters_of Tryz.func126 (by kernel_rfl) rfl, fun n hn P hP h1 h2 L xs hxs => ?_⟩
  have c0 := cell_new_l w (.pointer (some ⟨bh, 0, none⟩)) 24
  have c1 := cell_new_l (w.alloc (.cells #[.pointer (some ⟨bh, 0, none⟩)] 24)) (.int .i64 o.at_) 2
  simp only [World.size_alloc] at c1 h1
  refine items1_stops n hn P hP _ _ (h1 _ (Nat.le_refl _) (by omega)) (h1 _ (by omega) (by omega)) h2 xs (hxs.trans ?_) (h.below (below_2 _ _ _)) (cell_alloc_l _ c0.1) c1.1
  unfold links; rw [if_pos hk]

theorem teller_pairs {lq rq : List Ob} {o : Ob} (h : Hp n₀ bh b vw vb w lim used (lq ++ o :: rq)) (f t : Nat) (hf : f ≤ 1) (ht : t ≤ o.ws.length) (hl : links (lq ++ o :: rq) o = prs (lq ++ o :: rq) f ((o.ws.take t).drop f)) :
    Teller bh b vw vb (lq ++ o :: rq) o w.heap.size (.func (.func 127) #[] #[.pointer (some ⟨w.heap.size + 1 + 1, 0, none⟩), .pointer (some ⟨w.heap.size + 1 + 1 + 1, 0, none⟩), .pointer (some ⟨w.heap.size, 0, none⟩), .pointer (some ⟨w.heap.size + 1, 0, none⟩)])
      ((((w.alloc (.cells #[.pointer (some ⟨bh, 0, none⟩)] 24)).alloc (.cells #[.int .i64 o.at_] 2)).alloc (.cells #[.int .i64 f] 3)).alloc (.cells #[.int .i64 t] 3)) := by
  refine ⟨_, _, rfl, enters_of Tryz.func127 (by kernel_rfl) rfl, fun n hn P hP h1 h2 L xs hxs => ?_⟩
  have c0 := cell_new_l w (.pointer (some ⟨bh, 0, none⟩)) 24
  have c1 := cell_new_l (w.alloc (.cells #[.pointer (some ⟨bh, 0, none⟩)] 24)) (.int .i64 o.at_) 2
  have c2 := cell_new_l ((w.alloc (.cells #[.pointer (some ⟨bh, 0, none⟩)] 24)).alloc (.cells #[.int .i64 o.at_] 2)) (.int .i64 f) 3
  have c3 := cell_new_l (((w.alloc (.cells #[.pointer (some ⟨bh, 0, none⟩)] 24)).alloc (.cells #[.int .i64 o.at_] 2)).alloc (.cells #[.int .i64 f] 3)) (.int .i64 t) 3
  simp only [World.size_alloc] at c1 c2 c3 h1
  exact pairs1_stops n hn P hP _ _ _ _ (h1 _ (by omega) (by omega)) (h1 _ (by omega) (by omega)) (h1 _ (by omega) (by omega)) (h1 _ (by omega) (by omega)) h2 f t ht hf xs (hxs.trans hl) (h.below (below_4 _ _ _ _ _)) (cell_alloc_l _ c2.1) c3.1 (cell_alloc_l _ (cell_alloc_l _ (cell_alloc_l _ c0.1))) (cell_alloc_l _ (cell_alloc_l _ c1.1))

set_option maxRecDepth 20000 in
set_option maxHeartbeats 1000000 in
theorem holds_in {lq rq : List Ob} {o : Ob} (h : Hp n₀ bh b vw vb w lim used (lq ++ o :: rq)) :
    Calls Tryz.prog 75 #[.pointer (some ⟨bh, 0, none⟩), .int .i64 o.at_] w fun e w' => ∃ v, e = .returned v ∧ Below w.heap.size w w' ∧ Teller bh b vw vb (lq ++ o :: rq) o w.heap.size v w' := by
  have H1 := kindM h
  have H2 := sizeM h
  have hkn : 3 ≤ o.kind ∧ o.kind ≤ 8 := by
    obtain ⟨A, _, h2, _⟩ := h; exact h2.knd o (by simp)
  have hsz : o.ws.length ≤ 1048576 := by
    have := h.srt.2 o (by simp); have := h.le; unfold Ob.end_ at *; omega
  have H3 := items_mk (bh := bh) (o.at_ : Int) w
  have H4 := fun f t : Int => pairs_mk (bh := bh) (o.at_ : Int) f t w
  rcases (by omega : o.kind = 3 ∨ o.kind = 4 ∨ o.kind = 5 ∨ o.kind = 6 ∨ o.kind = 7 ∨ o.kind = 8) with hk | hk | hk | hk | hk | hk
  · rw [hk] at H1
    have ht : Teller bh b vw vb (lq ++ o :: rq) o w.heap.size (.func (.func 109) #[] #[]) w :=
      ⟨_, _, rfl, enters_of Tryz.func109 (by kernel_rfl) rfl, fun n hn P hP h1 h2 L xs hxs => none1_stops n P xs (List.map_eq_nil_iff.1 (hxs.trans (by simp [links, hk])))⟩
    have HT : Hid _ := ht
    clear h ht hk hkn
    go_enter Tryz.func75, Tryz.ntmps75
    go_wp2_with (first
      | (go_at_call 101; refine H1.mono ?_; clear H1; rintro e w' ⟨rfl, rfl⟩)
      | (go_at_call 97; refine H2.mono ?_; clear H2; rintro e w' ⟨rfl, rfl⟩))
    go_ret
    exact ⟨_, rfl, Below.refl _ _, HT.out⟩
  · rw [hk] at H1
    have HT : Hid _ := teller_items h (.inl hk)
    clear h hk hkn
    go_enter Tryz.func75, Tryz.ntmps75
    go_wp2_with (first
      | (go_at_call 101; refine H1.mono ?_; clear H1; rintro e w' ⟨rfl, rfl⟩)
      | (go_at_call 97; refine H2.mono ?_; clear H2; rintro e w' ⟨rfl, rfl⟩)
      | (go_at_call 107; refine H3.mono ?_; clear H3; rintro e w' ⟨rfl, rfl⟩))
    go_ret
    exact ⟨_, rfl, below_2 _ _ _, HT.out⟩
  · rw [hk] at H1
    have HT : Hid _ := teller_items h (.inr hk)
    clear h hk hkn
    go_enter Tryz.func75, Tryz.ntmps75
    go_wp2_with (first
      | (go_at_call 101; refine H1.mono ?_; clear H1; rintro e w' ⟨rfl, rfl⟩)
      | (go_at_call 97; refine H2.mono ?_; clear H2; rintro e w' ⟨rfl, rfl⟩)
      | (go_at_call 107; refine H3.mono ?_; clear H3; rintro e w' ⟨rfl, rfl⟩))
    go_ret
    exact ⟨_, rfl, below_2 _ _ _, HT.out⟩
  · rw [hk] at H1
    have HT : Hid _ := teller_pairs h 1 o.ws.length (by omega) (Nat.le_refl _) (by simp [links, hk])
    clear h hk hkn
    go_enter Tryz.func75, Tryz.ntmps75
    go_wp2_with (first
      | (go_at_call 101; refine H1.mono ?_; clear H1; rintro e w' ⟨rfl, rfl⟩)
      | (go_at_call 97; refine H2.mono ?_; clear H2; rintro e w' ⟨rfl, rfl⟩)
      | (go_at_call 108; refine (H4 _ _).mono ?_; clear H4; rintro e w' ⟨rfl, rfl⟩))
    go_ret
    exact ⟨_, rfl, below_4 _ _ _ _ _, HT.out⟩
  · rw [hk] at H1
    have hmn : min o.ws.length 2 ≤ o.ws.length := by omega
    have HT : Hid _ := teller_pairs h 0 (min o.ws.length 2) (by omega) hmn (by simp [links, hk]; rw [Nat.min_comm, ← List.take_take]; simp)
    clear h hk hkn
    by_cases h2 : o.ws.length ≤ 2
    · have e2 : min o.ws.length 2 = o.ws.length := by omega
      rw [e2] at HT
      go_enter Tryz.func75, Tryz.ntmps75
      go_wp2_with (first
        | (go_at_call 101; refine H1.mono ?_; clear H1; rintro e w' ⟨rfl, rfl⟩)
        | (go_at_call 97; refine H2.mono ?_; clear H2; rintro e w' ⟨rfl, rfl⟩)
        | (go_at_call 108; refine (H4 _ _).mono ?_; clear H4; rintro e w' ⟨rfl, rfl⟩))
      go_ret
      exact ⟨_, rfl, below_4 _ _ _ _ _, HT.out⟩
    · have e2 : min o.ws.length 2 = 2 := by omega
      rw [e2] at HT
      go_enter Tryz.func75, Tryz.ntmps75
      go_wp2_with (first
        | (go_at_call 101; refine H1.mono ?_; clear H1; rintro e w' ⟨rfl, rfl⟩)
        | (go_at_call 97; refine H2.mono ?_; clear H2; rintro e w' ⟨rfl, rfl⟩)
        | (go_at_call 108; refine (H4 _ _).mono ?_; clear H4; rintro e w' ⟨rfl, rfl⟩))
      go_ret
      exact ⟨_, rfl, below_4 _ _ _ _ _, HT.out⟩
  · rw [hk] at H1
    have HT : Hid _ := teller_pairs h 0 o.ws.length (by omega) (Nat.le_refl _) (by simp [links, hk])
    clear h hk hkn
    go_enter Tryz.func75, Tryz.ntmps75
    go_wp2_with (first
      | (go_at_call 101; refine H1.mono ?_; clear H1; rintro e w' ⟨rfl, rfl⟩)
      | (go_at_call 97; refine H2.mono ?_; clear H2; rintro e w' ⟨rfl, rfl⟩)
      | (go_at_call 108; refine (H4 _ _).mono ?_; clear H4; rintro e w' ⟨rfl, rfl⟩))
    go_ret
    exact ⟨_, rfl, below_4 _ _ _ _ _, HT.out⟩

end Go.Proofs.YtmahnedhnjlenaaGreat
