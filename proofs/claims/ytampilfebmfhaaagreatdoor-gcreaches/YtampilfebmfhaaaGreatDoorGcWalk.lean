/- Reach of two heaps, there or not: both answer the same. -/
import Derived.Test.YtampilfebmfhaaaGreatDoorGcMade
import Derived.Test.YtampilfebmfhaaaGreatDoorGcTwin
import Derived.Test.YtampilfebmfhaaaGreatDoorRgReach
import Derived.Test.YtampilfebmfhaaaGreatDoorPly
namespace Go.Proofs.YtampilfebmfhaaaGreatDoor
set_option linter.unusedVariables false
set_option linter.unusedSimpArgs false
open Go.RowKit

variable {w : World}

/-- What Reach answers. -/
def OutAt (M : List Ob) (vs : List Vl) (L : List Nat) (t er : Nat) : Prop :=
  (¬ May M vs ∧ L = [] ∧ t = 0 ∧ er = 1) ∨ (May M vs ∧ ∃ f : Ob → Bool, (∀ o ∈ M, f o = true ↔ Rch M vs o.at_) ∧ L = (M.filter f).map Ob.at_ ∧ t = sumO (M.filter f) ∧ er = 0)

theorem filter_same {M : List Ob} {vs : List Vl} {f g : Ob → Bool} (hf : ∀ o ∈ M, f o = true ↔ Rch M vs o.at_) (hg : ∀ o ∈ M, g o = true ↔ Rch M vs o.at_) : M.filter f = M.filter g := by
  refine List.filter_congr (fun o ho => ?_)
  have := (hf o ho).trans (hg o ho).symm
  cases hx : f o <;> cases hy : g o <;> simp_all

theorem OutAt.some (M : List Ob) (vs : List Vl) : ∃ L t er, OutAt M vs L t er := by
  by_cases hm : May M vs
  · refine ⟨_, _, _, .inr ⟨hm, fun o => @decide (Rch M vs o.at_) (Classical.propDecidable _), fun o _ => by simp, rfl, rfl, rfl⟩⟩
  · exact ⟨_, _, _, .inl ⟨hm, rfl, rfl, rfl⟩⟩

theorem OutAt.len {M : List Ob} {vs : List Vl} {L : List Nat} {t er : Nat} (h : OutAt M vs L t er) : L.length ≤ M.length := by
  rcases h with ⟨_, rfl, _⟩ | ⟨_, f, _, rfl, _⟩
  · simp
  · simp [List.length_filter_le]

/-- What a call of Reach leaves. -/
def Ans (w : World) (L : List Nat) (t er : Nat) (e : Ending) (w' : World) : Prop :=
  ∃ p c, e = .returned (.tuple #[.slice p L.length c, .int .i64 t, .int .i64 er]) ∧ w'.ownsRow w.heap.size 2 1 (.slice p L.length c) L.length (L.map pv) ∧ Below w.heap.size w w'

theorem ans_of {M : List Ob} {vs : List Vl} {L : List Nat} {t er : Nat} (h : OutAt M vs L t er) {e : Ending} {w' : World} (hB : Below w.heap.size w w')
    (hr : (¬ May M vs ∧ e = .returned (.tuple #[.slice none 0 0, .int .i64 0, .int .i64 1])) ∨
       (May M vs ∧ ∃ (f : Ob → Bool) (q : Option Addr) (c : Nat), (∀ o ∈ M, f o = true ↔ Rch M vs o.at_) ∧ e = .returned (.tuple #[.slice q (M.filter f).length c, .int .i64 (sumO (M.filter f) : Nat), .int .i64 0]) ∧
         w'.ownsRow w.heap.size 2 1 (.slice q (M.filter f).length c) (M.filter f).length ((M.filter f).map (fun o => pv o.at_)))) : Ans w L t er e w' := by
  rcases h with ⟨hn, rfl, rfl, rfl⟩ | ⟨hm, f, hf, rfl, rfl, rfl⟩
  · rcases hr with ⟨_, he⟩ | ⟨hm, _⟩
    · exact ⟨none, 0, he, World.ownsRow_nil _ _ _ _, hB⟩
    · exact (hn hm).elim
  · rcases hr with ⟨hn, _⟩ | ⟨_, g, q, c, hg, he, hrow⟩
    · exact (hn hm).elim
    · rw [filter_same hg hf] at he hrow
      refine ⟨q, c, by simpa using he, ?_, hB⟩
      have e1 : ((M.filter f).map Ob.at_).length = (M.filter f).length := by simp
      rw [e1, List.map_map]
      exact hrow

/-- Two heaps, there or not, of which Reach answers L, t and er. -/
structure Duo (vh vr : Value) (vs : List Vl) (T : World → Prop) (L : List Nat) (t er : Nat) : Prop where
  len : L.length ≤ 1048576
  keep : ∀ {w w'}, T w → Below w.heap.size w w' → T w'
  reach : ∀ {w p} (c : Nat), T w → Vals w p vs → Calls Tryz.prog 7 #[vh, .slice p vs.length c] w (Ans w L t er)
  rreach : ∀ {w p} (c : Nat), T w → Vals w p vs → Calls Tryz.prog 8 #[vr, .slice p vs.length c] w (Ans w L t er)
  same : ∀ {w}, T w → Calls Tryz.prog 11 #[vh, vr] w fun e w' => e = .returned (.bool true) ∧ Below w.heap.size w w'

set_option maxHeartbeats 400000 in
theorem check_nil (v : Value) (w : World) : Calls Tryz.prog 21 #[.pointer none, v] w fun e w' => e = .returned (.int .i64 2) ∧ w' = w := by
  have H1 := gwords (w := w) (v := .pointer none) (.inl rfl)
  go_enter Tryz.func21, Tryz.ntmps21
  go_wp2_with (first
    | (go_at_call 28; refine H1.mono ?_; clear H1; rintro e w' ⟨rfl, rfl⟩))
  go_ret
  exact ⟨rfl, rfl⟩

set_option maxHeartbeats 400000 in
theorem reach_nil (v : Value) (w : World) : Calls Tryz.prog 7 #[.pointer none, v] w fun e w' => e = .returned (.tuple #[.slice none 0 0, .int .i64 0, .int .i64 2]) ∧ w' = w := by
  have H1 := check_nil v w
  go_enter Tryz.func7, Tryz.ntmps7
  go_wp2_with (first
    | (go_at_call 21; refine H1.mono ?_; clear H1; rintro e w' ⟨rfl, rfl⟩))
  go_ret3
  exact ⟨rfl, rfl⟩

set_option maxHeartbeats 400000 in
theorem rreach_nil (v : Value) (w : World) : Calls Tryz.prog 8 #[.pointer none, v] w fun e w' => e = .returned (.tuple #[.slice none 0 0, .int .i64 0, .int .i64 2]) ∧ w' = w := by
  go_enter Tryz.func8, Tryz.ntmps8
  go_wp2
  go_ret3
  exact ⟨rfl, rfl⟩

theorem duo_gone (vs : List Vl) : Duo (.pointer none) (.pointer none) vs (fun _ => True) [] 0 2 where
  len := by simp
  keep := fun _ _ => trivial
  reach := by
    intro w p c _ _
    refine (reach_nil _ w).mono ?_
    rintro e w' ⟨he, rfl⟩
    exact ⟨none, 0, he, World.ownsRow_nil _ _ _ _, Below.refl _ _⟩
  rreach := by
    intro w p c _ _
    refine (rreach_nil _ w).mono ?_
    rintro e w' ⟨he, rfl⟩
    exact ⟨none, 0, he, World.ownsRow_nil _ _ _ _, Below.refl _ _⟩
  same := fun _ => same_gone (.inl rfl)

theorem Bo.h64 {n₀ bh b br lim : Nat} {s : BSt} (h : Bo n₀ bh b br lim w s) : ∀ x ∈ s.R, ∀ y ∈ x.1.ws, y < 18446744073709551616 := by
  intro x hx y hy
  obtain ⟨l, r, hR⟩ := List.append_of_mem hx
  have hp := h.hp
  rw [map_split hR] at hp
  obtain ⟨i, hi⟩ := List.mem_iff_getElem?.1 hy
  exact hp.word_lt hi

theorem duo_real {n₀ bh b br lim : Nat} {s : BSt} (h : Bo n₀ bh b br lim w s) (hl : 1 ≤ lim) (vs : List Vl) (hlen : vs.length ≤ 1000000) (hk8 : ∀ v ∈ vs, v.k < 256) {L : List Nat} {t er : Nat} (hO : OutAt (s.R.map Prod.fst) vs L t er) :
    Duo (.pointer (some ⟨bh, 0, none⟩)) (.pointer (some ⟨br, 0, none⟩)) vs (fun w => Bo n₀ bh b br lim w s) L t er where
  len := by have := hO.len; have := h.size; simp at *; omega
  keep := fun h hB => h.below hB
  reach := by
    intro w p c h hv
    refine (reach_in h.hp hl c hv hlen hk8).mono ?_
    rintro e w' ⟨hB, hr⟩
    exact ans_of hO hB hr
  rreach := by
    intro w p c h hv
    refine (rreach_in h.rf h.hp.srt.1 h.h64 c hv hlen hk8).mono ?_
    rintro e w' ⟨hB, hr⟩
    exact ans_of hO hB hr
  same := fun h => same_real h

theorem duo_of {ph pr : Option Addr} {w w1 : World} (h : MadeAt w ph pr w1) (vs : List Vl) (hlen : vs.length ≤ 1000000) (hk8 : ∀ v ∈ vs, v.k < 256) : ∃ T L t er, Duo (.pointer ph) (.pointer pr) vs T L t er ∧ T w1 := by
  rcases h.2 with ⟨rfl, rfl⟩ | ⟨bh, b, br, lim, s, rfl, rfl, h3, h4⟩
  · exact ⟨_, _, _, _, duo_gone vs, trivial⟩
  · obtain ⟨L, t, er, hO⟩ := OutAt.some (s.R.map Prod.fst) vs
    exact ⟨_, _, _, _, duo_real h4 h3 vs hlen hk8 hO, h4⟩

end Go.Proofs.YtampilfebmfhaaaGreatDoor

namespace Go.Proofs.YtampilfebmfhaaaGreatDoor
set_option linter.unusedVariables false
set_option linter.unusedSimpArgs false
open Go.RowKit

variable {w : World}

/-- The zero book, made by one law. -/
theorem wpList_buildBk {ops : Array Oper} {rest : List Oper} {o : Oper} {a : Act} {Q : Exit → Act → World → Prop} {w : World} (hg : o.guard = none) (ho : o.op = .build 58 #[])
    (h : wpList Tryz.prog ops Q rest (a.put o.dst (.agg #[.int .i64 0, .slice none 0 0, .slice none 0 0, .slice none 0 0, .slice none 0 0, .slice none 0 0, .slice none 0 0, .slice none 0 0, .slice none 0 0, .slice none 0 0, .slice none 0 0, .slice none 0 0, .slice none 0 0, .slice none 0 0, .slice none 0 0, .slice none 0 0, .slice none 0 0, .slice none 0 0, .slice none 0 0, .slice none 0 0, .slice none 0 0])) w) : wpList Tryz.prog ops Q (o :: rest) a w := by
  refine wpList_plain hg fun K hK => wp_build 58 #[] ho (by kernel_rfl) ?_
  have e : (Tryz.prog.built 58 ((#[] : Array (Nat × Operand)).map fun (i, x) => (i, a.eval x)).toList).getD #[] = #[.int .i64 0, .slice none 0 0, .slice none 0 0, .slice none 0 0, .slice none 0 0, .slice none 0 0, .slice none 0 0, .slice none 0 0, .slice none 0 0, .slice none 0 0, .slice none 0 0, .slice none 0 0, .slice none 0 0, .slice none 0 0, .slice none 0 0, .slice none 0 0, .slice none 0 0, .slice none 0 0, .slice none 0 0, .slice none 0 0, .slice none 0 0] := by kernel_rfl
  rw [e]
  exact hK _ _ h

theorem infoBk : (Tryz.prog.info? 58).map (fun i => i.size) = some 21 := by kernel_rfl

/-- The world with the zero book. -/
def bkW (w : World) : World := (w.alloc (.cells #[.int .i64 0, .slice none 0 0, .slice none 0 0, .slice none 0 0, .slice none 0 0, .slice none 0 0, .slice none 0 0, .slice none 0 0, .slice none 0 0, .slice none 0 0, .slice none 0 0, .slice none 0 0, .slice none 0 0, .slice none 0 0, .slice none 0 0, .slice none 0 0, .slice none 0 0, .slice none 0 0, .slice none 0 0, .slice none 0 0, .slice none 0 0] 58 (0, 0))).setRow w.heap.size #[.int .i64 0, .slice none 0 0, .slice none 0 0, .slice none 0 0, .slice none 0 0, .slice none 0 0, .slice none 0 0, .slice none 0 0, .slice none 0 0, .slice none 0 0, .slice none 0 0, .slice none 0 0, .slice none 0 0, .slice none 0 0, .slice none 0 0, .slice none 0 0, .slice none 0 0, .slice none 0 0, .slice none 0 0, .slice none 0 0, .slice none 0 0]

theorem book_start {n₀ : Nat} (w : World) (hn : n₀ ≤ w.heap.size) : IsBk n₀ w.heap.size (.slice none 0 0) (bkW w) [] ∧ Below w.heap.size w (bkW w) := by
  have hb := below1 w (.cells #[.int .i64 0, .slice none 0 0, .slice none 0 0, .slice none 0 0, .slice none 0 0, .slice none 0 0, .slice none 0 0, .slice none 0 0, .slice none 0 0, .slice none 0 0, .slice none 0 0, .slice none 0 0, .slice none 0 0, .slice none 0 0, .slice none 0 0, .slice none 0 0, .slice none 0 0, .slice none 0 0, .slice none 0 0, .slice none 0 0, .slice none 0 0] 58 (0, 0))
  refine ⟨⟨hn, setRow_heap _ _ _ _ _ _ (heap_alloc_new w _), World.ownsRow_nil _ _ _ _, by simp, by simp⟩, ⟨hb.os, hb.tape, hb.output, by have := hb.size; simp [bkW, World.setRow] at this ⊢, fun k hk => (setRow_other _ _ k _ (by omega)).trans (hb.block k hk)⟩⟩

theorem TwinAt.below {base g c : Nat} {vs : List Vl} (h : TwinAt base g c vs w) {w' : World} (hB : Below w.heap.size w w') : TwinAt base g c vs w' := IsRf.row_kept h (fun k e => hB.block k (h.lt k e).2)

theorem row_below {base n : Nat} {v : Value} {xs : List Value} (h : w.ownsRow base 2 1 v n xs) {w' : World} (hB : Below w.heap.size w w') : w'.ownsRow base 2 1 v n xs := IsRf.row_kept h (fun k e => hB.block k (h.lt k e).2)

theorem off_row {n₀ bk base n : Nat} {vp v : Value} {H : List He} {xs : List Value} (hb : IsBk n₀ bk vp w H) (h : w.ownsRow base 2 1 v n xs) : ∀ k, v.ownBlock = some k → ¬ IsBk.own bk vp k := by
  intro k e ho
  obtain ⟨_, _, cur, t, hc, ht⟩ := hb.blocks ho
  obtain ⟨cur', hc'⟩ := IsAr.row_type h e
  rw [hc] at hc'
  rcases ht with rfl | rfl <;> simp at hc'

theorem keep_row {n₀ bk base n : Nat} {vp v : Value} {H : List He} {xs : List Value} {w' : World} (hb : IsBk n₀ bk vp w H) (h : w.ownsRow base 2 1 v n xs) (hK : KStep (IsBk.own bk vp) w w') : w'.ownsRow base 2 1 v n xs :=
  IsRf.row_kept h (fun k e => hK.block k (h.lt k e).2 (off_row hb h k e))

/-- Two lists in the book, and Apart. -/
theorem apart_two {n₀ bk a b n : Nat} {vp v1 v2 : Value} {xs ys : List Value} (hb : IsBk n₀ bk vp w [⟨v1, .slice none 0 0, 1, n⟩, ⟨v2, .slice none 0 0, 2, n⟩]) (h1 : w.ownsRow a 2 1 v1 n xs) (h2 : w.ownsRow b 2 1 v2 n ys) (ha : n₀ ≤ a) (hb' : n₀ ≤ b) (hd : ∀ k, v1.ownBlock = some k → v2.ownBlock ≠ some k) :
    Calls Tryz.prog 13 #[.pointer (some ⟨bk, 0, none⟩)] w fun e w' => e = .returned (.bool true) ∧ Below n₀ w w' := by
  have hA : ∀ x ∈ [(⟨v1, .slice none 0 0, 1, n⟩ : He), ⟨v2, .slice none 0 0, 2, n⟩], HA n₀ w x := by
    intro x hx
    simp at hx
    rcases hx with rfl | rfl
    · exact ⟨rfl, xs, row_mono h1 ha⟩
    · exact ⟨rfl, ys, row_mono h2 hb'⟩
  refine (apart_all hb hA ?_).mono ?_
  · refine List.pairwise_cons.2 ⟨?_, List.pairwise_cons.2 ⟨by simp, List.Pairwise.nil⟩⟩
    intro y hy k h3 h4
    simp at hy
    subst hy
    rcases h3 with h3 | h3
    · rcases h4 with h4 | h4
      · exact hd k h3 h4
      · simp [Value.ownBlock] at h4
    · simp [Value.ownBlock] at h3
  · rintro e w' ⟨he, hK⟩
    refine ⟨he, hK.below ?_ (Nat.le_trans hb.base (Nat.le_of_lt hb.lt))⟩
    rintro k (⟨x, hx, hk⟩ | hk)
    · exact ((hA x hx).blocks hk).1
    · exact (hb.blocks (.inr hk)).1

set_option maxRecDepth 20000 in
set_option maxHeartbeats 4000000 in
theorem reaches_ok (words : Int) (p : Option Addr) (len cap : Nat) (q : Option Addr) (vs : List Vl) (cq : Nat) (w : World) (hl : len ≤ maxLen) (ht : ToldOps w p len) (hv : Vals w q vs) (hvl : vs.length ≤ 1000) (hk8 : ∀ v ∈ vs, v.k < 256) :
    Calls Tryz.prog 3 #[.int .i64 words, .slice p len cap, .slice q vs.length cq] w fun e w' => e = .returned (.bool true) ∧ Below w.heap.size w w' := by
  have hvl' : ¬ ((1000 : Int) < (vs.length : Int)) := by omega
  have a1 := made_in words p len cap w hl ht
  have Hv : Hid (Vals w q vs) := hv
  have Hk : Hid (∀ v ∈ vs, v.k < 256) := hk8
  clear ht hv hk8
  go_enter Tryz.func3, Tryz.ntmps3
  go_wp2_with (first
    | (refine wpList_buildBk rfl rfl ?_)
    | (go_at_call 5; refine a1.mono ?_; clear a1; rintro e w1 ⟨ph, pr, rfl, hM⟩; obtain ⟨T, L, t, er, D, hT1⟩ := duo_of hM vs (by omega) Hk.out; have B1 := hM.1; have a2 := twin_in cq (Vals.below Hv.out B1) (by omega); clear hM)
    | (go_at_call 6; refine a2.mono ?_; clear a2; rintro e w2 ⟨g, c2, rfl, hTw2, hB2⟩; have hT2 := D.keep hT1 hB2; have B2 := B1.trans (hB2.mono B1.size); have a3 := D.reach c2 hT2 hTw2.vals)
    | (go_at_call 7; refine a3.mono ?_; clear a3; rintro e w3 ⟨p3, c3, rfl, r3, hB3⟩; have hT3 := D.keep hT2 hB3; have B3 := B2.trans (hB3.mono B2.size); have hTw3 := hTw2.below hB3; have a4 := D.reach c2 hT3 hTw3.vals)
    | (go_at_call 7; refine a4.mono ?_; clear a4; rintro e w4 ⟨p4, c4, rfl, r4, hB4⟩; have hT4 := D.keep hT3 hB4; have B4 := B3.trans (hB4.mono B3.size); have hTw4 := hTw3.below hB4; have r34 := row_below r3 hB4; have a5 := D.rreach cq hT4 (Vals.below Hv.out B4))
    | (go_at_call 8; refine a5.mono ?_; clear a5; rintro e w5 ⟨p5, c5, rfl, r5, hB5⟩; have hT5 := D.keep hT4 hB5; have B5 := B4.trans (hB5.mono B4.size); have hTw5 := hTw4.below hB5; have r35 := row_below r34 hB5; have r45 := row_below r4 hB5; have a6 := same_places rfl D.len r35 r5)
    | (go_at_call 9; refine a6.mono ?_; clear a6; rintro e w6 ⟨rfl, hB6⟩; have hT6 := D.keep hT5 hB6; have B6 := B5.trans (hB6.mono B5.size); have hTw6 := hTw5.below hB6; have r36 := row_below r35 hB6; have r46 := row_below r45 hB6; have a7 := same_places rfl D.len r46 (row_below r5 hB6))
    | (go_at_call 9; refine a7.mono ?_; clear a7; rintro e w7 ⟨rfl, hB7⟩; have hT7 := D.keep hT6 hB7; have B7 := B6.trans (hB7.mono B6.size); have hTw7 := hTw6.below hB7; have r37 := row_below r36 hB7; have r47 := row_below r46 hB7; have a8 := left_in cq hTw7 (Vals.below Hv.out B7) (by omega))
    | (go_at_call 10; refine a8.mono ?_; clear a8; rintro e w8 ⟨rfl, hB8⟩; have hT8 := D.keep hT7 hB8; have B8 := B7.trans (hB8.mono B7.size); have r38 := row_below r37 hB8; have r48 := row_below r47 hB8; have a9 := D.same hT8)
    | (go_at_call 11; refine a9.mono ?_; clear a9; rintro e w9 ⟨rfl, hB9⟩; have B9 := B8.trans (hB9.mono B8.size); have r39 := row_below r38 hB9; have r49 := row_below r48 hB9; obtain ⟨bk0, hB10⟩ := book_start (n₀ := w.heap.size) w9 B9.size)
    | (refine wpList_store_row rfl 58 _ _ rfl w9.heap.size _ rfl rfl 58 _ (heap_alloc_new w9 _) infoBk rfl (by simp [Value.oneCell']) ?_; refine stop_here ?_))
  unfold Stopped
  rw [← (show bkW w9 = (w9.alloc (.cells #[.int .i64 0, .slice none 0 0, .slice none 0 0, .slice none 0 0, .slice none 0 0, .slice none 0 0, .slice none 0 0, .slice none 0 0, .slice none 0 0, .slice none 0 0, .slice none 0 0, .slice none 0 0, .slice none 0 0, .slice none 0 0, .slice none 0 0, .slice none 0 0, .slice none 0 0, .slice none 0 0, .slice none 0 0, .slice none 0 0, .slice none 0 0] 58 (0, 0))).setRow w9.heap.size #[.int .i64 0, .slice none 0 0, .slice none 0 0, .slice none 0 0, .slice none 0 0, .slice none 0 0, .slice none 0 0, .slice none 0 0, .slice none 0 0, .slice none 0 0, .slice none 0 0, .slice none 0 0, .slice none 0 0, .slice none 0 0, .slice none 0 0, .slice none 0 0, .slice none 0 0, .slice none 0 0, .slice none 0 0, .slice none 0 0, .slice none 0 0] from rfl)]
  obtain ⟨W, hW⟩ : ∃ W, bkW w9 = W := ⟨_, rfl⟩
  rw [hW] at bk0 hB10 ⊢
  have B10 := B9.trans (hB10.mono B9.size)
  have r3a := row_below r39 hB10
  have r4a := row_below r49 hB10
  have hdis : ∀ k, Value.ownBlock (.slice p3 L.length c3) = some k → Value.ownBlock (.slice p4 L.length c4) ≠ some k := fun k e e2 => by
    have := (r3.lt k e).2; have := (r4.lt k e2).1; omega
  have n3 : w.heap.size ≤ w2.heap.size := B2.size
  have n4 : w.heap.size ≤ w3.heap.size := B3.size
  have hDl := D.len
  clear hW r3 r34 r35 r36 r37 r38 r39 r4 r45 r46 r47 r48 r49 r5 hT1 hT2 hT3 hT4 hT5 hT6 hT7 hT8 hTw2 hTw3 hTw4 hTw5 hTw6 hTw7 hB2 hB3 hB4 hB5 hB6 hB7 hB8 hB9
  have b1 := places_keep bk0 (by simp) p3 L.length c3 hDl
  go_wp2_with (first
    | (go_at_call 12; refine b1.mono ?_; clear b1; rintro e w11 ⟨rfl, vp1, bk1, hK1, _⟩; have r3b := keep_row bk0 r3a hK1; have r4b := keep_row bk0 r4a hK1; have B11 := B10.trans (hK1.below (fun k hk => (bk0.blocks hk).1) B10.size); have b2 := places_keep bk1 (by simp) p4 L.length c4 hDl)
    | (go_at_call 12; refine b2.mono ?_; clear b2; rintro e w12 ⟨rfl, vp2, bk2, hK2, _⟩; have r3c := keep_row bk1 r3b hK2; have r4c := keep_row bk1 r4b hK2; have B12 := B11.trans (hK2.below (fun k hk => (bk1.blocks hk).1) B11.size); have b3 := reach_nil (.slice q vs.length cq) w12; have b4 := apart_two bk2 r3c r4c n3 n4 hdis)
    | (go_at_call 7; refine b3.mono ?_; clear b3; rintro e w' ⟨rfl, rfl⟩)
    | (go_at_call 13; refine b4.mono ?_; clear b4; rintro e w14 ⟨rfl, hB14⟩))
  go_ret
  exact ⟨rfl, B12.trans hB14⟩

end Go.Proofs.YtampilfebmfhaaaGreatDoor
