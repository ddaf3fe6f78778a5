/- LexWords: the walk. -/
import Derived.Test.YtpbempnenjfjdaaGreatDoorWkApart
import Derived.Test.YtpbempnenjfjdaaGreatDoorLxSame
import Derived.Laws.Tables
namespace Go.Proofs.YtpbempnenjfjdaaGreatDoor
set_option linter.unusedVariables false
set_option linter.unusedSimpArgs false
open Go.RowKit

variable {w : World}

/-- Every text comes to something. -/
theorem Lex.total (l : List UInt8) (ln : Nat) : ∃ rs, Lex l ln rs := by
  obtain ⟨n, hn⟩ : ∃ n, n = l.length := ⟨_, rfl⟩
  induction n using Nat.strongRecOn generalizing l ln with
  | _ n ih =>
    have hs := skip_le false l
    cases hx : (skip false l).1 with
    | nil => exact ⟨_, .done (n := (skip false l).2) (by rw [← hx])⟩
    | cons c r =>
      have hne : (skip false l).1 ≠ [] := by rw [hx]; simp
      cases hw : wordAt (skip false l).1 with
      | none => exact ⟨_, .bad rfl hne hw⟩
      | some y =>
        obtain ⟨wd, z⟩ := y
        have hz := wordAt_len hw
        obtain ⟨rs, hrs⟩ := ih z.length (by omega) z (ln + (skip false l).2) rfl
        exact ⟨_, .more rfl hw hrs⟩

theorem Lex.small {l : List UInt8} {ln : Nat} {rs : Rs} (h : Lex l ln rs) : ∀ ws, rs = .ok ws → ws.length ≤ l.length ∧ ∀ x ∈ ws, x.line ≤ ln + l.length := by
  induction h using Lex.ind with
  | done h => intro ws e; cases e; simp
  | bad h hx hw => intro ws e; cases e
  | @more l ln n x z w r h hw hr ih =>
    intro ws e
    have hs := skip_le false l
    rw [h] at hs
    simp only at hs
    have hz := wordAt_len hw
    cases r with
    | error m => cases e
    | ok ws' =>
      cases e
      obtain ⟨h1, h2⟩ := ih ws' rfl
      refine ⟨by simp; omega, fun y hy => ?_⟩
      rcases List.mem_cons.1 hy with rfl | hy
      · simp; omega
      · have := h2 y hy; omega

/-- The zero book, made by one law. -/
theorem wpList_buildBk {ops : Array Oper} {rest : List Oper} {o : Oper} {a : Act} {Q : Exit → Act → World → Prop} {w : World} (hg : o.guard = none) (ho : o.op = .build 48 #[])
    (h : wpList Tryz.prog ops Q rest (a.put o.dst (.agg #[.int .i64 0, .slice none 0 0, .slice none 0 0, .slice none 0 0, .slice none 0 0, .slice none 0 0, .slice none 0 0, .slice none 0 0, .slice none 0 0, .slice none 0 0, .slice none 0 0, .slice none 0 0, .slice none 0 0, .slice none 0 0, .slice none 0 0, .slice none 0 0, .slice none 0 0, .slice none 0 0, .slice none 0 0, .slice none 0 0, .slice none 0 0])) w) : wpList Tryz.prog ops Q (o :: rest) a w := by
  refine wpList_plain hg fun K hK => wp_build 48 #[] ho (by kernel_rfl) ?_
  have e : (Tryz.prog.built 48 ((#[] : Array (Nat × Operand)).map fun (i, x) => (i, a.eval x)).toList).getD #[] = #[.int .i64 0, .slice none 0 0, .slice none 0 0, .slice none 0 0, .slice none 0 0, .slice none 0 0, .slice none 0 0, .slice none 0 0, .slice none 0 0, .slice none 0 0, .slice none 0 0, .slice none 0 0, .slice none 0 0, .slice none 0 0, .slice none 0 0, .slice none 0 0, .slice none 0 0, .slice none 0 0, .slice none 0 0, .slice none 0 0, .slice none 0 0] := by kernel_rfl
  rw [e]
  exact hK _ _ h

theorem infoBk : (Tryz.prog.info? 48).map (fun i => i.size) = some 21 := by kernel_rfl

/-- The world with the zero book. -/
def bkW (w : World) : World := (w.alloc (.cells #[.int .i64 0, .slice none 0 0, .slice none 0 0, .slice none 0 0, .slice none 0 0, .slice none 0 0, .slice none 0 0, .slice none 0 0, .slice none 0 0, .slice none 0 0, .slice none 0 0, .slice none 0 0, .slice none 0 0, .slice none 0 0, .slice none 0 0, .slice none 0 0, .slice none 0 0, .slice none 0 0, .slice none 0 0, .slice none 0 0, .slice none 0 0] 48 (0, 0))).setRow w.heap.size #[.int .i64 0, .slice none 0 0, .slice none 0 0, .slice none 0 0, .slice none 0 0, .slice none 0 0, .slice none 0 0, .slice none 0 0, .slice none 0 0, .slice none 0 0, .slice none 0 0, .slice none 0 0, .slice none 0 0, .slice none 0 0, .slice none 0 0, .slice none 0 0, .slice none 0 0, .slice none 0 0, .slice none 0 0, .slice none 0 0, .slice none 0 0]

theorem book_start {n₀ : Nat} (w : World) (hn : n₀ ≤ w.heap.size) : IsBk n₀ w.heap.size (.slice none 0 0) (bkW w) [] ∧ Below w.heap.size w (bkW w) := by
  have hb := below1 w (.cells #[.int .i64 0, .slice none 0 0, .slice none 0 0, .slice none 0 0, .slice none 0 0, .slice none 0 0, .slice none 0 0, .slice none 0 0, .slice none 0 0, .slice none 0 0, .slice none 0 0, .slice none 0 0, .slice none 0 0, .slice none 0 0, .slice none 0 0, .slice none 0 0, .slice none 0 0, .slice none 0 0, .slice none 0 0, .slice none 0 0, .slice none 0 0] 48 (0, 0))
  refine ⟨⟨hn, setRow_heap _ _ _ _ _ _ (heap_alloc_new w _), World.ownsRow_nil _ _ _ _, by simp, by simp⟩, ⟨hb.os, hb.tape, hb.output, by have := hb.size; simp [bkW, World.setRow] at this ⊢, fun k hk => (setRow_other _ _ k _ (by omega)).trans (hb.block k hk)⟩⟩

set_option maxHeartbeats 400000 in
theorem rwords_long (l : List UInt8) (hl : 65536 < l.length) (hm : l.length ≤ 140737488355328) : Calls Tryz.prog 5 #[.string (bs l)] w fun e w' => e = .returned (.tuple #[.slice none 0 0, .int .i64 0, .int .i64 3]) ∧ w' = w := by
  have hsz := bs_size l
  have hq : (65536 : Int) < (l.length : Int) := by omega
  go_enter Tryz.func5, Tryz.ntmps5
  go_wp2
  refine bodyPost_ret (results_tmp3 (by rfl) _ _ _) (by rfl) ?_
  exact ⟨rfl, rfl⟩

/-- What is answered: a row of these words, and two numbers. -/
def AnsW (ws : List Wd) (n e : Int) (base : Nat) (E : Ending) (w' : World) : Prop :=
  ∃ p c, E = .returned (.tuple #[.slice p ws.length c, .int .i64 n, .int .i64 e]) ∧ IsWs w' p ws ∧ w'.ownsRow base 56 4 (.slice p ws.length c) ws.length (wcells ws)

theorem ans_nil (n e : Int) (base : Nat) (w' : World) : AnsW [] n e base (.returned (.tuple #[.slice none 0 0, .int .i64 n, .int .i64 e])) w' :=
  ⟨none, 0, rfl, fun j x h => by simp at h, World.ownsRow_nil _ _ _ _⟩

def rsW : Rs → List Wd
  | .error _ => []
  | .ok ws => ws

def rsN : Rs → Int
  | .error n => n
  | .ok _ => 0

def rsE : Rs → Int
  | .error _ => 4
  | .ok _ => 0

theorem ans_of {base : Nat} {E : Ending} {w' : World} : ∀ {rs : Rs}, WsRes base rs E w' → AnsW (rsW rs) (rsN rs) (rsE rs) base E w'
  | .error n, h => by
    have h' : E = _ := h
    rw [h']; exact ans_nil _ _ _ _
  | .ok ws, h => by
    obtain ⟨v, rfl, hrow⟩ := h
    obtain ⟨p, c, rfl, hw⟩ := ws_of_row hrow
    exact ⟨p, c, rfl, hw, hrow⟩

/-- Both answer the same. -/
theorem both_words (l : List UInt8) (hm : l.length ≤ 140737488355328) : ∃ (ws : List Wd) (n e : Int), ws.length ≤ 1048576 ∧
    (∀ w, Lx w → Calls Tryz.prog 4 #[.string (bs l)] w fun E w' => AnsW ws n e w.heap.size E w' ∧ Below w.heap.size w w') ∧
    (∀ w, Calls Tryz.prog 5 #[.string (bs l)] w fun E w' => AnsW ws n e w.heap.size E w' ∧ Below w.heap.size w w') := by
  by_cases hl : l.length ≤ 65536
  · obtain ⟨rs, hrs⟩ := Lex.total l 0
    refine ⟨rsW rs, rsN rs, rsE rs, ?_, fun w h => (words_in l hl h.errs h.sgn h.size).mono ?_, fun w => (rwords_in l hl).mono ?_⟩
    rotate_left
    · rintro E w' ⟨rs2, h2, hB, hr⟩
      obtain rfl := hrs.same h2
      exact ⟨ans_of hr, hB⟩
    · rintro E w' ⟨rs2, h2, hB, hr⟩
      obtain rfl := hrs.same h2
      exact ⟨ans_of hr, hB⟩
    · cases rs with
      | error n => simp [rsW]
      | ok ws => have := (hrs.small ws rfl).1; simp only [rsW]; omega
  · refine ⟨[], 0, 3, by simp, fun w h => (words_long l (by omega) hm).mono ?_, fun w => (rwords_long l (by omega) hm).mono ?_⟩
    · rintro E w' ⟨rfl, rfl⟩; exact ⟨ans_nil _ _ _ _, Below.refl _ _⟩
    · rintro E w' ⟨rfl, rfl⟩; exact ⟨ans_nil _ _ _ _, Below.refl _ _⟩

theorem wrow_below {base n : Nat} {v : Value} {xs : List Value} (h : w.ownsRow base 56 4 v n xs) {w' : World} (hB : Below w.heap.size w w') : w'.ownsRow base 56 4 v n xs := row_kept h (fun k e => hB.block k (h.lt k e).2)

theorem off_wrow {n₀ bk base n : Nat} {vp v : Value} {H : List He} {xs : List Value} (hb : IsBk n₀ bk vp w H) (h : w.ownsRow base 56 4 v n xs) : ∀ k, v.ownBlock = some k → ¬ IsBk.own bk vp k := by
  intro k e ho
  obtain ⟨_, _, cur, t, hc, ht⟩ := hb.blocks ho
  obtain ⟨cur', hc'⟩ := row_obj h e
  rw [hc] at hc'
  rcases ht with rfl | rfl <;> simp at hc'

theorem keep_wrow {n₀ bk base n : Nat} {vp v : Value} {H : List He} {xs : List Value} {w' : World} (hb : IsBk n₀ bk vp w H) (h : w.ownsRow base 56 4 v n xs) (hK : KStep (IsBk.own bk vp) w w') : w'.ownsRow base 56 4 v n xs :=
  row_kept h (fun k e => hK.block k (h.lt k e).2 (off_wrow hb h k e))

/-- Two lists in the book, and Apart. -/
theorem apart_two {n₀ bk a b n : Nat} {vp v1 v2 : Value} {xs ys : List Value} (hb : IsBk n₀ bk vp w [⟨v1, .slice none 0 0, 1, n⟩, ⟨v2, .slice none 0 0, 2, n⟩]) (h1 : w.ownsRow a 56 4 v1 n xs) (h2 : w.ownsRow b 56 4 v2 n ys) (ha : n₀ ≤ a) (hb' : n₀ ≤ b) (hd : ∀ k, v1.ownBlock = some k → v2.ownBlock ≠ some k) :
    Calls Tryz.prog 8 #[.pointer (some ⟨bk, 0, none⟩)] w fun e w' => e = .returned (.bool true) ∧ Below n₀ w w' := by
  have hA : ∀ x ∈ [(⟨v1, .slice none 0 0, 1, n⟩ : He), ⟨v2, .slice none 0 0, 2, n⟩], HA n₀ w x := by
    intro x hx
    simp at hx
    rcases hx with rfl | rfl
    · exact ⟨rfl, xs, row_mono2 h1 ha⟩
    · exact ⟨rfl, ys, row_mono2 h2 hb'⟩
  refine (apart_all hb hA ?_).mono ?_
  · refine List.pairwise_cons.2 ⟨?_, List.pairwise_cons.2 ⟨by simp, List.Pairwise.nil⟩⟩
    intro y hy k h3 h4
    simp at hy
    subst hy
    rcases h3 with h3 | h3
    · rcases h4 with h4 | h4
      · exact hd k h3 h4
      · simp [Value.ownBlock] at h4
    · simp [Value.ownBlock] at h3
  · rintro e w' ⟨he, hK⟩
    refine ⟨he, hK.below ?_ (Nat.le_trans hb.base (Nat.le_of_lt hb.lt))⟩
    rintro k (⟨x, hx, hk⟩ | hk)
    · exact ((hA x hx).blocks hk).1
    · exact (hb.blocks (.inr hk)).1

set_option maxRecDepth 20000 in
set_option maxHeartbeats 4000000 in
theorem lexWords_walk (s : List UInt8) (hs : s.length ≤ 140737488355328) (hlx : Lx w) :
    Calls Tryz.prog 3 #[.string (bs s)] w fun e w' => e = .returned (.bool true) ∧ Below w.heap.size w w' := by
  obtain ⟨ws, n, e0, hws, P, R⟩ := both_words s hs
  have a1 := P w hlx
  have HL : Hid (Lx w) := hlx
  have HP : Hid (∀ w, Lx w → Calls Tryz.prog 4 #[.string (bs s)] w fun E w' => AnsW ws n e0 w.heap.size E w' ∧ Below w.heap.size w w') := P
  have HR : Hid (∀ w, Calls Tryz.prog 5 #[.string (bs s)] w fun E w' => AnsW ws n e0 w.heap.size E w' ∧ Below w.heap.size w w') := R
  clear P R hlx hs
  go_enter Tryz.func3, Tryz.ntmps3
  go_wp2_with (first
    | (refine wpList_buildBk rfl rfl ?_)
    | (go_at_call 4; refine a1.mono ?_; clear a1; rintro e w1 ⟨⟨p1, c1, rfl, i1, r1⟩, B1⟩; have a2 := HP.out w1 (HL.out.below B1))
    | (go_at_call 4; refine a2.mono ?_; clear a2; rintro e w2 ⟨⟨p2, c2, rfl, i2, r2⟩, hB2⟩; have i12 := i1.below hB2; have r12 := wrow_below r1 hB2; have B2 := B1.trans (hB2.mono B1.size); have a3 := HR.out w2)
    | (go_at_call 5; refine a3.mono ?_; clear a3; rintro e w3 ⟨⟨p3, c3, rfl, i3, r3⟩, hB3⟩; have i13 := i12.below hB3; have r13 := wrow_below r12 hB3; have i23 := i2.below hB3; have r23 := wrow_below r2 hB3; have B3 := B2.trans (hB3.mono B2.size); have a4 := sameWords_in c1 c3 hws i13 i3)
    | (go_at_call 6; refine a4.mono ?_; clear a4; rintro e w4 ⟨rfl, hB4⟩; have r14 := wrow_below r13 hB4; have i24 := i23.below hB4; have r24 := wrow_below r23 hB4; have B4 := B3.trans (hB4.mono B3.size); have a5 := sameWords_in c2 c3 hws i24 (i3.below hB4))
    | (go_at_call 6; refine a5.mono ?_; clear a5; rintro e w9 ⟨rfl, hB9⟩; have r19 := wrow_below r14 hB9; have r29 := wrow_below r24 hB9; have B9 := B4.trans (hB9.mono B4.size); obtain ⟨bk0, hB10⟩ := book_start (n₀ := w.heap.size) w9 B9.size)
    | (refine wpList_store_row rfl 48 _ _ rfl w9.heap.size _ rfl rfl 48 _ (heap_alloc_new w9 _) infoBk rfl (by simp [Value.oneCell']) ?_; refine halt_here ?_))
  unfold Halted
  rw [← (show bkW w9 = (w9.alloc (.cells #[.int .i64 0, .slice none 0 0, .slice none 0 0, .slice none 0 0, .slice none 0 0, .slice none 0 0, .slice none 0 0, .slice none 0 0, .slice none 0 0, .slice none 0 0, .slice none 0 0, .slice none 0 0, .slice none 0 0, .slice none 0 0, .slice none 0 0, .slice none 0 0, .slice none 0 0, .slice none 0 0, .slice none 0 0, .slice none 0 0, .slice none 0 0] 48 (0, 0))).setRow w9.heap.size #[.int .i64 0, .slice none 0 0, .slice none 0 0, .slice none 0 0, .slice none 0 0, .slice none 0 0, .slice none 0 0, .slice none 0 0, .slice none 0 0, .slice none 0 0, .slice none 0 0, .slice none 0 0, .slice none 0 0, .slice none 0 0, .slice none 0 0, .slice none 0 0, .slice none 0 0, .slice none 0 0, .slice none 0 0, .slice none 0 0, .slice none 0 0] from rfl)]
  obtain ⟨W, hW⟩ : ∃ W, bkW w9 = W := ⟨_, rfl⟩
  rw [hW] at bk0 hB10 ⊢
  have B10 := B9.trans (hB10.mono B9.size)
  have r1a := wrow_below r19 hB10
  have r2a := wrow_below r29 hB10
  have hdis : ∀ k, Value.ownBlock (.slice p1 ws.length c1) = some k → Value.ownBlock (.slice p2 ws.length c2) ≠ some k := fun k e e2 => by
    have := (r1.lt k e).2; have := (r2.lt k e2).1; omega
  have n1 : w.heap.size ≤ w1.heap.size := B1.size
  clear hW r1 r12 r13 r14 r19 r2 r23 r24 r29 r3 i1 i12 i13 i2 i23 i24 i3 hB2 hB3 hB4 hB9
  have b1 := words_keep bk0 (by simp) p1 ws.length c1 hws
  go_wp2_with (first
    | (go_at_call 7; refine b1.mono ?_; clear b1; rintro e w11 ⟨rfl, vp1, bk1, hK1, _⟩; have r1b := keep_wrow bk0 r1a hK1; have r2b := keep_wrow bk0 r2a hK1; have B11 := B10.trans (hK1.below (fun k hk => (bk0.blocks hk).1) B10.size); have b2 := words_keep bk1 (by simp) p2 ws.length c2 hws)
    | (go_at_call 7; refine b2.mono ?_; clear b2; rintro e w12 ⟨rfl, vp2, bk2, hK2, _⟩; have r1c := keep_wrow bk1 r1b hK2; have r2c := keep_wrow bk1 r2b hK2; have B12 := B11.trans (hK2.below (fun k hk => (bk1.blocks hk).1) B11.size); have b4 := apart_two bk2 r1c r2c (Nat.le_refl _) n1 hdis)
    | (go_at_call 8; refine b4.mono ?_; clear b4; rintro e w14 ⟨rfl, hB14⟩))
  go_ret
  exact ⟨rfl, B12.trans hB14⟩

end Go.Proofs.YtpbempnenjfjdaaGreatDoor
