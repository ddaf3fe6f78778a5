/- GcCollects: the walk. -/
import Derived.Test.YtampilfebmfhaaaGreatDoorRcDuo
import Derived.Test.YtampilfebmfhaaaGreatDoorGcAlive
namespace Go.Proofs.YtampilfebmfhaaaGreatDoor
set_option linter.unusedVariables false
set_option linter.unusedSimpArgs false
open Go.RowKit

variable {w : World}

/-- The zero book, made by one law. -/
theorem wpList_buildBk {ops : Array Oper} {rest : List Oper} {o : Oper} {a : Act} {Q : Exit → Act → World → Prop} {w : World} (hg : o.guard = none) (ho : o.op = .build 58 #[])
    (h : wpList Tryz.prog ops Q rest (a.put o.dst (.agg #[.int .i64 0, .slice none 0 0, .slice none 0 0, .slice none 0 0, .slice none 0 0, .slice none 0 0, .slice none 0 0, .slice none 0 0, .slice none 0 0, .slice none 0 0, .slice none 0 0, .slice none 0 0, .slice none 0 0, .slice none 0 0, .slice none 0 0, .slice none 0 0, .slice none 0 0, .slice none 0 0, .slice none 0 0, .slice none 0 0, .slice none 0 0])) w) : wpList Tryz.prog ops Q (o :: rest) a w := by
  refine wpList_plain hg fun K hK => wp_build 58 #[] ho (by kernel_rfl) ?_
  have e : (Tryz.prog.built 58 ((#[] : Array (Nat × Operand)).map fun (i, x) => (i, a.eval x)).toList).getD #[] = #[.int .i64 0, .slice none 0 0, .slice none 0 0, .slice none 0 0, .slice none 0 0, .slice none 0 0, .slice none 0 0, .slice none 0 0, .slice none 0 0, .slice none 0 0, .slice none 0 0, .slice none 0 0, .slice none 0 0, .slice none 0 0, .slice none 0 0, .slice none 0 0, .slice none 0 0, .slice none 0 0, .slice none 0 0, .slice none 0 0, .slice none 0 0] := by kernel_rfl
  rw [e]
  exact hK _ _ h

theorem infoBk : (Tryz.prog.info? 58).map (fun i => i.size) = some 21 := by kernel_rfl

/-- The world with the zero book. -/
def bkW (w : World) : World := (w.alloc (.cells #[.int .i64 0, .slice none 0 0, .slice none 0 0, .slice none 0 0, .slice none 0 0, .slice none 0 0, .slice none 0 0, .slice none 0 0, .slice none 0 0, .slice none 0 0, .slice none 0 0, .slice none 0 0, .slice none 0 0, .slice none 0 0, .slice none 0 0, .slice none 0 0, .slice none 0 0, .slice none 0 0, .slice none 0 0, .slice none 0 0, .slice none 0 0] 58 (0, 0))).setRow w.heap.size #[.int .i64 0, .slice none 0 0, .slice none 0 0, .slice none 0 0, .slice none 0 0, .slice none 0 0, .slice none 0 0, .slice none 0 0, .slice none 0 0, .slice none 0 0, .slice none 0 0, .slice none 0 0, .slice none 0 0, .slice none 0 0, .slice none 0 0, .slice none 0 0, .slice none 0 0, .slice none 0 0, .slice none 0 0, .slice none 0 0, .slice none 0 0]

theorem book_start {n₀ : Nat} (w : World) (hn : n₀ ≤ w.heap.size) : IsBk n₀ w.heap.size (.slice none 0 0) (bkW w) [] ∧ Below w.heap.size w (bkW w) := by
  have hb := below1 w (.cells #[.int .i64 0, .slice none 0 0, .slice none 0 0, .slice none 0 0, .slice none 0 0, .slice none 0 0, .slice none 0 0, .slice none 0 0, .slice none 0 0, .slice none 0 0, .slice none 0 0, .slice none 0 0, .slice none 0 0, .slice none 0 0, .slice none 0 0, .slice none 0 0, .slice none 0 0, .slice none 0 0, .slice none 0 0, .slice none 0 0, .slice none 0 0] 58 (0, 0))
  refine ⟨⟨hn, setRow_heap _ _ _ _ _ _ (heap_alloc_new w _), World.ownsRow_nil _ _ _ _, by simp, by simp⟩, ⟨hb.os, hb.tape, hb.output, by have := hb.size; simp [bkW, World.setRow] at this ⊢, fun k hk => (setRow_other _ _ k _ (by omega)).trans (hb.block k hk)⟩⟩


theorem TwinAt.short {base g c : Nat} {vs : List Vl} (h : TwinAt base g c vs w) : ∃ xs, w.ownsRow base 76 2 (.slice (some ⟨g, 0, none⟩) vs.length c) vs.length xs := by
  rcases h.2 with ⟨h', _⟩ | ⟨g', cap, cur, h', hb, hg, h1, h2, h3, h4⟩
  · simp at h'
  · simp only [Value.slice.injEq] at h'
    obtain ⟨e1, _, rfl⟩ := h'
    cases e1
    refine ⟨cur.toList.take (vs.length * 2), ?_, .inr ⟨g, c, cur, rfl, hb, hg, by omega, h2, h3, rfl⟩⟩
    simp
    omega

theorem off_rowV {n₀ bk base n : Nat} {vp v : Value} {H : List He} {xs : List Value} (hb : IsBk n₀ bk vp w H) (h : w.ownsRow base 76 2 v n xs) : ∀ k, v.ownBlock = some k → ¬ IsBk.own bk vp k := by
  intro k e ho
  obtain ⟨_, _, cur, t, hc, ht⟩ := hb.blocks ho
  obtain ⟨cur', hc'⟩ := row_obj h e
  rw [hc] at hc'
  rcases ht with rfl | rfl <;> simp at hc'

theorem keep_rowV {n₀ bk base n : Nat} {vp v : Value} {H : List He} {xs : List Value} {w' : World} (hb : IsBk n₀ bk vp w H) (h : w.ownsRow base 76 2 v n xs) (hK : KStep (IsBk.own bk vp) w w') : w'.ownsRow base 76 2 v n xs :=
  row_kept h (fun k e => hK.block k (h.lt k e).2 (off_rowV hb h k e))

theorem IsBk.oth {n₀ bk : Nat} {vp : Value} {H : List He} (hb : IsBk n₀ bk vp w H) {k : Nat} (hk : IsBk.own bk vp k) : Oth w k := by
  obtain ⟨_, _, cur, t, hc, ht⟩ := hb.blocks hk
  exact ⟨cur, t, hc, by rcases ht with e | e; exact .inr (.inr e); exact .inr (.inl e)⟩

/-- Two lists in the book, and Apart. -/
theorem apart_twoV {n₀ bk a b n m : Nat} {vp v1 v2 : Value} {xs ys : List Value} (hb : IsBk n₀ bk vp w [⟨v1, .slice none 0 0, 1, n⟩, ⟨v2, .slice none 0 0, 2, m⟩]) (h1 : w.ownsRow a 76 2 v1 n xs) (h2 : w.ownsRow b 76 2 v2 m ys) (ha : n₀ ≤ a) (hb' : n₀ ≤ b) (hd : ∀ k, v1.ownBlock = some k → v2.ownBlock ≠ some k) :
    Calls Tryz.prog 13 #[.pointer (some ⟨bk, 0, none⟩)] w fun e w' => e = .returned (.bool true) ∧ ∃ S : Nat → Prop, KStep S w w' ∧ ∀ k, S k → n₀ ≤ k ∧ Oth w k := by
  have hA : ∀ x ∈ [(⟨v1, .slice none 0 0, 1, n⟩ : He), ⟨v2, .slice none 0 0, 2, m⟩], HA n₀ w x := by
    intro x hx
    simp at hx
    rcases hx with rfl | rfl
    · exact ⟨rfl, xs, row_mono2 h1 ha⟩
    · exact ⟨rfl, ys, row_mono2 h2 hb'⟩
  refine (apart_all hb hA ?_).mono ?_
  · refine List.pairwise_cons.2 ⟨?_, List.pairwise_cons.2 ⟨by simp, List.Pairwise.nil⟩⟩
    intro y hy k h3 h4
    simp at hy
    subst hy
    rcases h3 with h3 | h3
    · rcases h4 with h4 | h4
      · exact hd k h3 h4
      · simp [Value.ownBlock] at h4
    · simp [Value.ownBlock] at h3
  · rintro e w' ⟨he, hK⟩
    refine ⟨he, _, hK, ?_⟩
    rintro k (⟨x, hx, hk⟩ | hk)
    · obtain ⟨q1, _, _, cur, q2⟩ := (hA x hx).blocks hk
      exact ⟨q1, cur, _, q2, .inl rfl⟩
    · exact ⟨(hb.blocks (.inr hk)).1, hb.oth (.inr hk)⟩

set_option maxRecDepth 20000 in
set_option maxHeartbeats 4000000 in
theorem collects_ok (words : Int) (p : Option Addr) (len cap : Nat) (q : Option Addr) (vs : List Vl) (cq : Nat) (w : World) (hl : len ≤ maxLen) (ht : ToldOps w p len) (hv : Vals w q vs) (hvl : vs.length ≤ 1000) (hk8 : ∀ v ∈ vs, v.k < 256) :
    Calls Tryz.prog 4 #[.int .i64 words, .slice p len cap, .slice q vs.length cq] w fun e w' => e = .returned (.bool true) ∧ Below w.heap.size w w' := by
  have hvl' : ¬ ((1000 : Int) < (vs.length : Int)) := by omega
  have a1 := made_in words p len cap w hl ht
  have Hv : Hid (Vals w q vs) := hv
  have Hk : Hid (∀ v ∈ vs, v.k < 256) := hk8
  clear ht hv hk8
  go_enter Tryz.func4, Tryz.ntmps4
  go_wp2_with (first
    | (refine wpList_buildBk rfl rfl ?_)
    | (go_at_call 5; refine a1.mono ?_; clear a1; rintro e w1 ⟨ph, pr, rfl, hM⟩; obtain ⟨T0, T1, T2, us, er, D, hT1⟩ := cduo_of hM vs (by omega) Hk.out; have B1 := hM.1; have a2 := twin_in cq (Vals.below Hv.out B1) (by omega); clear hM)
    | (go_at_call 6; refine a2.mono ?_; clear a2; rintro e w2 ⟨g, c2, rfl, hTw2, hB2⟩; have hT2 := D.keep0 hT1 hB2; have B2 := B1.trans (hB2.mono B1.size); have a3 := D.collect c2 B2.size hT2 hTw2)
    | (go_at_call 14; refine a3.mono ?_; clear a3; rintro e w3 ⟨v3, rfl, hO3, hT3, hV3⟩; obtain ⟨p3, c3, rfl⟩ := hO3.form; have B3 := B2.trans hV3.1; have hTw3 : TwinAt _ g c2 vs w3 := hV3.2 hTw2; have a4 := D.rcollect cq B3.size hT3 (Vals.below Hv.out B3))
    | (go_at_call 15; refine a4.mono ?_; clear a4; rintro e w4 ⟨v4, rfl, hO4, hT4, hV4⟩; obtain ⟨p4, c4, rfl⟩ := hO4.form; have B4 := B3.trans hV4.1; have hTw4 : TwinAt _ g c2 vs w4 := hV4.2 hTw3; have r34 : OwnVals _ _ us w4 := hV4.2 hO3; have a5 := same_vals (c1 := c3) (c2 := c4) rfl D.len r34.vals hO4.vals)
    | (go_at_call 16; refine a5.mono ?_; clear a5; rintro e w5 ⟨rfl, hB5⟩; have hT5 := D.below hT4 hB5; have B5 := B4.trans (hB5.mono B4.size); have hTw5 : TwinAt _ g c2 vs w5 := row_belowV hTw4 hB5; have r35 : OwnVals _ _ us w5 := row_belowV r34 hB5; have a6 := left_in cq hTw5 (Vals.below Hv.out B5) (by omega))
    | (go_at_call 10; refine a6.mono ?_; clear a6; rintro e w6 ⟨rfl, hB6⟩; have hT6 := D.below hT5 hB6; have B6 := B5.trans (hB6.mono B5.size); have hTw6 : TwinAt _ g c2 vs w6 := row_belowV hTw5 hB6; have r36 : OwnVals _ _ us w6 := row_belowV r35 hB6; have a7 := D.same hT6)
    | (go_at_call 11; refine a7.mono ?_; clear a7; rintro e w7 ⟨rfl, hB7⟩; have hT7 := D.below hT6 hB7; have B7 := B6.trans (hB7.mono B6.size); have hTw7 : TwinAt _ g c2 vs w7 := row_belowV hTw6 hB7; have r37 : OwnVals _ _ us w7 := row_belowV r36 hB7; obtain ⟨bk0, hB8⟩ := book_start (n₀ := w.heap.size) w7 B7.size)
    | (refine wpList_store_row rfl 58 _ _ rfl w7.heap.size _ rfl rfl 58 _ (heap_alloc_new w7 _) infoBk rfl (by simp [Value.oneCell']) ?_; refine stop_here ?_))
  unfold Stopped
  rw [← (show bkW w7 = (w7.alloc (.cells #[.int .i64 0, .slice none 0 0, .slice none 0 0, .slice none 0 0, .slice none 0 0, .slice none 0 0, .slice none 0 0, .slice none 0 0, .slice none 0 0, .slice none 0 0, .slice none 0 0, .slice none 0 0, .slice none 0 0, .slice none 0 0, .slice none 0 0, .slice none 0 0, .slice none 0 0, .slice none 0 0, .slice none 0 0, .slice none 0 0, .slice none 0 0] 58 (0, 0))).setRow w7.heap.size #[.int .i64 0, .slice none 0 0, .slice none 0 0, .slice none 0 0, .slice none 0 0, .slice none 0 0, .slice none 0 0, .slice none 0 0, .slice none 0 0, .slice none 0 0, .slice none 0 0, .slice none 0 0, .slice none 0 0, .slice none 0 0, .slice none 0 0, .slice none 0 0, .slice none 0 0, .slice none 0 0, .slice none 0 0, .slice none 0 0, .slice none 0 0] from rfl)]
  obtain ⟨W, hW⟩ : ∃ W, bkW w7 = W := ⟨_, rfl⟩
  rw [hW] at bk0 hB8 ⊢
  have B8 := B7.trans (hB8.mono B7.size)
  have hT8 := D.below hT7 hB8
  have hTw8 : TwinAt _ g c2 vs W := row_belowV hTw7 hB8
  obtain ⟨xs8, t8⟩ := hTw8.short
  have r38 := row_belowV r37 hB8
  have hdis : ∀ k, Value.ownBlock (.slice (some ⟨g, 0, none⟩) vs.length c2) = some k → Value.ownBlock (.slice p3 us.length c3) ≠ some k := fun k e e2 => by
    have := (hTw2.lt k e).2; have := (hO3.lt k e2).1; omega
  have n3 : w.heap.size ≤ w1.heap.size := B1.size
  have n4 : w.heap.size ≤ w2.heap.size := B2.size
  have hDl := D.len
  clear hW hTw2 hTw3 hTw4 hTw5 hTw6 hTw7 hTw8 hO3 hO4 r34 r35 r36 r37 hT1 hT2 hT3 hT4 hT5 hT6 hT7 hB2 hV3 hV4 hB5 hB6 hB7
  have b1 := vals_keep bk0 (by simp) (some ⟨g, 0, none⟩) vs.length c2 (by omega)
  go_wp2_with (first
    | (go_at_call 17; refine b1.mono ?_; clear b1; rintro e w11 ⟨rfl, vp1, bk1, hK1, _⟩; have t9 := keep_rowV bk0 t8 hK1; have r39 := keep_rowV bk0 r38 hK1; have B11 := B8.trans (hK1.below (fun k hk => (bk0.blocks hk).1) B8.size); have hT11 := D.keep2 hT8 hK1 (fun k hk _ => bk0.oth hk); have b2 := vals_keep bk1 (by simp) p3 us.length c3 (by omega))
    | (go_at_call 17; refine b2.mono ?_; clear b2; rintro e w12 ⟨rfl, vp2, bk2, hK2, _⟩; have ta := keep_rowV bk1 t9 hK2; have r3a := keep_rowV bk1 r39 hK2; have B12 := B11.trans (hK2.below (fun k hk => (bk1.blocks hk).1) B11.size); have hT12 := D.keep2 hT11 hK2 (fun k hk _ => bk1.oth hk); have b3 := gcollect_nil (.slice q vs.length cq) w12; have b4 := apart_twoV bk2 ta r3a n3 n4 hdis)
    | (go_at_call 14; refine b3.mono ?_; clear b3; rintro e w' ⟨rfl, rfl⟩)
    | (go_at_call 13; refine b4.mono ?_; clear b4; rintro e w14 ⟨rfl, SS, hK14, hS14⟩; have hT14 := D.keep2 hT12 hK14 (fun k hk _ => (hS14 k hk).2); have B14 := B12.trans (hK14.below (fun k hk => (hS14 k hk).1) B12.size); have b5 := D.same hT14)
    | (go_at_call 11; refine b5.mono ?_; clear b5; rintro e w15 ⟨rfl, hB15⟩))
  go_ret
  exact ⟨rfl, B14.trans (hB15.mono B14.size)⟩

theorem collects_long (words : Int) (p : Option Addr) (len cap : Nat) (q : Option Addr) (n : Nat) (cq : Nat) (w : World) (hvl : 1000 < n) (hn : n ≤ maxLen) :
    Calls Tryz.prog 4 #[.int .i64 words, .slice p len cap, .slice q n cq] w fun e w' => e = .returned (.bool true) ∧ w' = w := by
  have hvl' : (1000 : Int) < (n : Int) := by omega
  go_enter Tryz.func4, Tryz.ntmps4
  go_wp2
  go_ret
  exact ⟨rfl, rfl⟩

end Go.Proofs.YtampilfebmfhaaaGreatDoor
