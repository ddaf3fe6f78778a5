/- For ObjectIsMap: Put of a map, NewMap of nothing, Same of what is no text. -/
import Derived.Test.YtkombdkhodjckaaObMapOps
namespace Go.Proofs.Ytkombdkhodjckaa
set_option linter.unusedVariables false
set_option linter.unusedSimpArgs false
open Go.RowKit

variable {n₀ bh b lim used : Nat} {vw vb : Value} {w : World} {M : List Ob} {at_ room inn : Nat} {vs : List Vl} {c : Vl → Bool}

set_option maxRecDepth 20000 in
set_option maxHeartbeats 1000000 in
/-- Put of a map, by what putPair does. -/
theorem Rw.putMap (r : Rw M at_ 5 vs room inn) (h : Hp n₀ bh b vw vb w lim used M) (hl1 : 1 ≤ lim) {n : Nat} (he : vs.length = 2 * n) (hn : n ≤ 65536) (key x : Vl) (R : Value → Value → World → Prop)
    (HP : ∀ w', Below w.heap.size w w' → Calls Try.prog 35 #[mem bh, .int .i64 at_, .agg #[.int .i64 vs.length, .int .i64 room, .int .i64 inn, .int .i64 0], .agg #[.int .u8 key.k, .int .i64 key.n], .agg #[.int .u8 x.k, .int .i64 x.n]] w' fun e w'' => e = .returned (.int .i64 0) ∧ ∃ vw' vb', Step b vw vb w' vw' vb' w'' ∧ R vw' vb' w'') :
    Calls Try.prog 18 #[.pointer (some ⟨bh, 0, none⟩), .agg #[.int .u8 5, .int .i64 at_], .agg #[.int .u8 key.k, .int .i64 key.n], .agg #[.int .u8 x.k, .int .i64 x.n]] w fun e w' => e = .returned (.int .i64 0) ∧ ∃ vw' vb', Step b vw vb w vw' vb' w' ∧ R vw' vb' w' := by
  have H1 := fun w' (hB : Below w.heap.size w w') p (hk : Kinds w' p [4, 5]) => take_row (h.below hB) hl1 (fun w'' hB' => r.find5 ((h.below hB).below hB') he hn) 2 hk (by simp) (by simp)
  have HV : Hid (∀ k, vw.ownBlock = some k → k < w.heap.size) := fun k e => (h.blocks k (.inr (.inr (.inl e)))).2.1
  obtain ⟨N, hN⟩ : ∃ N, N = vs.length := ⟨_, rfl⟩
  rw [← hN] at H1 HP
  clear hN he r
  unfold mem at H1 HP
  go_enter Try.func18, Try.ntmps18
  go_wp2_with (first
    | (go_at_call 26; go_loud (refine (H1 _ (below5' _ _ _ _ _ _) _ (kinds2 _ _ _ _ _ (heap5_4 _ _ _ _ _ _))).mono ?_; clear H1; rintro e w1 ⟨rfl, hB1⟩; obtain ⟨⟨m1, m2, m3, m4⟩, hBz⟩ := later5o hB1)
       have k1 := alloc_keeps m1 (.cells #[.int .i64 N, .int .i64 room, .int .i64 inn, .int .i64 0] 61); have k2 := alloc_keeps m2 (.cells #[.int .i64 N, .int .i64 room, .int .i64 inn, .int .i64 0] 61); have k3 := alloc_keeps m3 (.cells #[.int .i64 N, .int .i64 room, .int .i64 inn, .int .i64 0] 61); have k4 := alloc_keeps m4 (.cells #[.int .i64 N, .int .i64 room, .int .i64 inn, .int .i64 0] 61)
       have ⟨d0, d1⟩ := cell_row2 k1; have ⟨d2, d3⟩ := cell_row2 k2; have ⟨d5, d6⟩ := cell_row2 k3; have d4 := cell_row1 k4; have hBy := hBz.alloc hBz.size (.cells #[.int .i64 N, .int .i64 room, .int .i64 inn, .int .i64 0] 61)
       have ⟨⟨x0, x1, x2, x3⟩, _⟩ := cell_row4 (heap_alloc_new w1 (.cells #[.int .i64 N, .int .i64 room, .int .i64 inn, .int .i64 0] 61)))
    | (go_at_call 35; refine (HP _ hBy).mono ?_; clear HP; rintro e w2 ⟨rfl, vw', vb', hS2, hR2⟩))
  go_ret
  exact ⟨rfl, vw', vb', Step.belowL hBy hS2 HV.out, hR2⟩

set_option maxRecDepth 20000 in
set_option maxHeartbeats 1000000 in
theorem NewMap_none (h : Hp n₀ bh b vw vb w lim used M) (hl1 : 1 ≤ lim) (p : Option Addr) (c : Nat) (hf : used + 3 ≤ lim) :
    Calls Try.prog 17 #[.pointer (some ⟨bh, 0, none⟩), .slice p 0 c] w fun e w' => e = .returned (.tuple #[.agg #[.int .u8 5, .int .i64 used], .int .i64 0]) ∧
      ∃ vw' vb', Hp n₀ bh b vw' vb' w' lim (used + 3) (M ++ [⟨used, 5, [0, 0]⟩]) ∧ Step b vw vb w vw' vb' w' := by
  have hb2 := below2' w (.cells #[.int .u8 0, .int .i64 0] 26) (.cells #[.pointer (some ⟨bh, 0, none⟩)] 55)
  have HV : Hid (∀ k, vw.ownBlock = some k → k < w.heap.size) := fun k e => (h.blocks k (.inr (.inr (.inl e)))).2.1
  have H1 := fun w' (hB : Below w.heap.size w w') => othere_in (h.below hB) hl1
  have hv0 : ∀ w', Vals w' p [] := fun w' j v hj => by simp at hj
  have H2 := fun w' (hB : Below w.heap.size w w') => allMay_yes (h.below hB) (p := p) (vs := []) c (hv0 w') (by simp) (by simp)
  have H3 := fun w' (hB : Below w.heap.size w w') => eachKeyOnce_in (w := w') (T := fun _ => none) (bh := bh) [] (p := p) c (hv0 w') (by simp) (by simp) (by simp) (by simp)
  have H4 := fun w' (hB : Below w.heap.size w w') (p' : Option Addr) (c' : Nat) => newRow_none (h.below hB) 5 (.inr rfl) p' c' hf
  simp only [flat, List.length_nil, show once (fun _ => none) [] = [] from rfl, show ((0 : Nat) : Int) = 0 from rfl] at H2 H3
  unfold mem at H1 H2 H3 H4
  simp only [show ((5 : Nat) : Int) = 5 from rfl] at H4
  clear hv0
  go_enter Try.func17, Try.ntmps17
  go_wp2_with (first
    | (go_at_call 21; refine (H1 _ hb2).mono ?_; clear H1; rintro e w1 ⟨rfl, hB1⟩; obtain ⟨m1, m2, hBz⟩ := laterR hB1; have c2 := cell_row1 m2)
    | (go_at_call 32; refine (H2 _ hBz).mono ?_; clear H2; rintro e w2 ⟨rfl, hB2⟩; have hBy := hBz.trans (hB2.mono hBz.size); have n1 := (hB2.block _ (Array.getElem?_eq_some_iff.1 m1).1).trans m1; have n2 := (hB2.block _ (Array.getElem?_eq_some_iff.1 m2).1).trans m2; have c3 := cell_row1 n2))
  have hD2 : Below w.heap.size w w2.drew := below_drew hBy
  have c3d : w2.drew.cell? ⟨w.heap.size + 1, 0, none⟩ = some (.pointer (some ⟨bh, 0, none⟩)) := c3
  go_region_held3 (fun W => W.cell? ⟨w.heap.size + 1, 0, none⟩ = some (.pointer (some ⟨bh, 0, none⟩)))
    (first | with_reducible exact c3d | with_reducible exact c4 | with_reducible exact c5 | with_reducible exact (cell_set2 (by simp)).trans c5 | go_keep)
    ((first
      | (go_at_call 34; (with_reducible refine (H3 _ hD2).mono ?_); clear H3; rintro e w3 ⟨v3, rfl, hrow3, hB3⟩; obtain ⟨p3, c3', rfl, hv3⟩ := vals_of_row (vs := []) hrow3; have hBx := hD2.trans (hB3.mono hD2.size); have o1 := (hB3.block _ (Array.getElem?_eq_some_iff.1 n1).1).trans n1; have o2 := (hB3.block _ (Array.getElem?_eq_some_iff.1 n2).1).trans n2; have c4 := cell_row1 o2)
      | (go_at_call 33; (with_reducible refine (H4 _ hBx p3 c3').mono ?_); clear H4; rintro e w4 ⟨rfl, vw', vb', hp4, hS4⟩; have m5 := ((h.below hBx).stays hS4 o1 (fun cur t e => by cases e; decide)).trans o1; have m6 := ((h.below hBx).stays hS4 o2 (fun cur t e => by cases e; decide)).trans o2; obtain ⟨⟨x0, x1⟩, f0, f1⟩ := cell_row2f m5; have c5 := cell_row1 m6)))
  all_goals
    go_wp2
    refine bodyPost_ret (results_row_tmp (by rfl) _ _ w.heap.size 26 #[.int .u8 5, .int .i64 used] (0, 0) _ (by rfl) (set2_row m5) Try.underlying26 (by rfl) infoVal2) (by rfl) ?_
    refine ⟨rfl, vw', vb', hp4.kept (fun k hk => ?_), step_set2 (Step.belowL hBx hS4 HV.out) (by omega) _ _⟩
    have hne : k ≠ w.heap.size := fun e => hp4.other m5 (fun cur t e => by cases e; decide) (by rw [← e]; exact hk)
    rw [heap_setCell_other _ ⟨w.heap.size, 1, none⟩ k _ hne, heap_setCell_other _ ⟨w.heap.size, 0, none⟩ k _ hne]

set_option maxRecDepth 20000 in
set_option maxHeartbeats 1000000 in
theorem Same_plain (h : Hp n₀ bh b vw vb w lim used M) (hl1 : 1 ≤ lim) (x y : Vl) (hk : x.k ≠ 3) (hk0 : x.k ≠ 0) :
    Calls Try.prog 11 #[.pointer (some ⟨bh, 0, none⟩), .agg #[.int .u8 x.k, .int .i64 x.n], .agg #[.int .u8 y.k, .int .i64 y.n]] w fun e w' => e = .returned (.bool (decide (x.k = y.k ∧ x.n = y.n))) ∧ Below w.heap.size w w' := by
  have H0 := fun w' (hB : Below w.heap.size w w') => othere_in (h.below hB) hl1
  have H1 := fun w => like_plain (bh := bh) x.k x.n hk hk0 w
  have s0 := Five.start w (.int .u8 x.k) (.int .i64 x.n) (.int .u8 y.k) (.int .i64 y.n) (.pointer (some ⟨bh, 0, none⟩)) 26 26 55
  have hb0 := below3' w (.cells #[.int .u8 x.k, .int .i64 x.n] 26) (.cells #[.int .u8 y.k, .int .i64 y.n] 26) (.cells #[.pointer (some ⟨bh, 0, none⟩)] 55)
  have S0 : Hid _ := s0
  clear s0
  unfold mem at H0 H1
  go_enter Try.func11, Try.ntmps11
  go_wp2
  go_region_held3 (fun W => W.cell? ⟨w.heap.size, 0, none⟩ = some (.int .u8 x.k) ∧ W.cell? ⟨w.heap.size, 1, none⟩ = some (.int .i64 x.n) ∧ W.cell? ⟨w.heap.size + 1, 0, none⟩ = some (.int .u8 y.k) ∧ W.cell? ⟨w.heap.size + 1, 1, none⟩ = some (.int .i64 y.n) ∧ W.cell? ⟨w.heap.size + 1 + 1, 0, none⟩ = some (.pointer (some ⟨bh, 0, none⟩))) (first | exact S0.out | exact S1.out | exact S2.out | exact S3.out | go_keep)
    ((first
      | (go_at_call 21; go_loud (refine (H0 _ (below_drew hb0)).mono ?_; clear H0; rintro e w1 ⟨rfl, hB1⟩); have S1 : Hid (Five w.heap.size (.int .u8 x.k) (.int .i64 x.n) (.int .u8 y.k) (.int .i64 y.n) (.pointer (some ⟨bh, 0, none⟩)) w1) := Five.later S0.out ⟨hB1.os, hB1.tape, hB1.output, hB1.size, hB1.block⟩; have hBz := (below_drew hb0).trans (hB1.mono (below_drew hb0).size))
      | (go_at_call 28; refine (H1 _).mono ?_; clear H1; rintro e w2 ⟨Ba, ha, rfl, g1, hB2⟩; have S2 : Hid (Five w.heap.size (.int .u8 x.k) (.int .i64 x.n) (.int .u8 y.k) (.int .i64 y.n) (.pointer (some ⟨bh, 0, none⟩)) w2) := Five.later S1.out hB2; have hBy := hBz.trans (hB2.mono hBz.size))
      | (go_at_call 51; refine (like3_in x.k y.k x.n y.n _ g1).mono ?_; rintro e w3 ⟨rfl, hB3⟩; have S3 : Hid (Five w.heap.size (.int .u8 x.k) (.int .i64 x.n) (.int .u8 y.k) (.int .i64 y.n) (.pointer (some ⟨bh, 0, none⟩)) w3) := Five.later S2.out hB3; have hBx := hBy.trans (hB3.mono hBy.size))))
  all_goals
    go_wp2
    go_ret
    exact ⟨congrArg (fun q => Ending.returned (.bool q)) (by simp [Bool.decide_and]), hBx⟩

end Go.Proofs.Ytkombdkhodjckaa

namespace Go.Proofs.Ytkombdkhodjckaa
set_option linter.unusedVariables false
set_option linter.unusedSimpArgs false
open Go.RowKit

variable {M : List Ob} {tb : Bool}

/-- A key's text. -/
def tx (m : Int) : ByteArray := strOfNums [m, 107]

theorem bts_tx {m : Int} (h : 0 ≤ m ∧ m < 256) : bts (tx m) = [m.toNat, 107] := by
  have := bts_str [m.toNat, 107] (by intro x hx; simp at hx; rcases hx with rfl | rfl <;> omega)
  simp only [List.map_cons, List.map_nil] at this
  rw [show ((m.toNat : Nat) : Int) = m by omega] at this
  exact this

theorem tx_size {m : Int} (h : 0 ≤ m ∧ m < 256) : (tx m).size = 2 := by rw [← bts_len, bts_tx h]; rfl

theorem tx_inj {m m' : Int} (h : 0 ≤ m ∧ m < 256) (h' : 0 ≤ m' ∧ m' < 256) (e : tx m = tx m') : m = m' := by
  have := bts_tx h
  rw [e, bts_tx h'] at this
  simp at this
  omega

theorem strW_text (s : ByteArray) : strW (textW (bts s)) s.size = s := by
  unfold strW
  have : bytesW (textW (bts s)) s.size = bts s := by
    have := bytesW_text (bts_lt s)
    rw [bts_len] at this
    exact this
  rw [this, strOf_bts]

/-- A key that bears a name. -/
def KeyIs (M : List Ob) (tb : Bool) (v : Vl) (m : Int) : Prop :=
  match tb with
  | true => v.k = 3 ∧ (0 ≤ m ∧ m < 256) ∧ ∃ a : Nat, v.n = a ∧ a ≤ 1048576 ∧ ⟨a, 3, textW (bts (tx m))⟩ ∈ M
  | false => v = ⟨2, m⟩ ∧ -64 < m ∧ m < 64

theorem KeyIs.kept {M' : List Ob} {v : Vl} {m : Int} (h : KeyIs M tb v m) (hk : ∀ x ∈ M, x.kind = 3 → x ∈ M') : KeyIs M' tb v m := by
  cases tb with
  | false => exact h
  | true => obtain ⟨h1, h2, a, h3, h4, h5⟩ := h; exact ⟨h1, h2, a, h3, h4, hk _ h5 rfl⟩

theorem KeyIs.fit {v : Vl} {m : Int} (h : KeyIs M tb v m) : Fit v ∧ v.k ≠ 0 := by
  cases tb with
  | false =>
    obtain ⟨rfl, h1, h2⟩ := h
    refine ⟨⟨by simp, ?_⟩, by simp⟩
    show -9223372036854775808 ≤ m ∧ m ≤ 9223372036854775807
    omega
  | true =>
    obtain ⟨h1, h2, a, h3, h4, h5⟩ := h
    refine ⟨⟨by omega, ?_⟩, by omega⟩
    rw [h3]
    omega

theorem KeyIs.may {v : Vl} {m : Int} (h : KeyIs M tb v m) : MayHeld M v.k v.n := by
  cases tb with
  | false => obtain ⟨rfl, h1, h2⟩ := h; exact .inr (.inr (.inl rfl))
  | true =>
    obtain ⟨h1, h2, a, h3, h4, h5⟩ := h
    refine .inr (.inr (.inr ⟨by omega, ?_⟩))
    rw [h1, h3]
    exact ⟨by omega, by omega, _, h5, rfl, rfl⟩

/-- What values say, by the heap. -/
def TM (M : List Ob) (v : Vl) : Option ByteArray := (M.find? (fun o => decide ((o.at_ : Int) = v.n) && decide (v.k = 3))).map (fun o => strW o.ws (o.ws.getD 0 0))

def TT (M : List Ob) : Bool → Vl → Option ByteArray
  | true => TM M
  | false => fun _ => none

theorem TM_key {v : Vl} {m : Int} (hs : Srt 0 M) (h : KeyIs M true v m) : TM M v = some (tx m) ∧ ∃ o ∈ M, (o.at_ : Int) = v.n ∧ TextOb o 2 ∧ strW o.ws 2 = tx m := by
  obtain ⟨h1, h2, a, h3, h4, h5⟩ := h
  have hsz := tx_size h2
  have e2 : strW (textW (bts (tx m))) 2 = tx m := by have := strW_text (tx m); rw [hsz] at this; exact this
  have ht : TextOb ⟨a, 3, textW (bts (tx m))⟩ 2 := by have := TextOb.of (tx m) (by rw [hsz]; omega) a; rw [hsz] at this; exact this
  refine ⟨?_, ⟨a, 3, textW (bts (tx m))⟩, h5, by rw [h3], ht, e2⟩
  unfold TM
  have hf : M.find? (fun o => decide ((o.at_ : Int) = v.n) && decide (v.k = 3)) = some ⟨a, 3, textW (bts (tx m))⟩ := by
    cases hc : M.find? (fun o => decide ((o.at_ : Int) = v.n) && decide (v.k = 3)) with
    | none =>
      have := List.find?_eq_none.1 hc _ h5
      simp [h3, h1] at this
    | some o =>
      have hm := List.mem_of_find?_eq_some hc
      have hp := List.find?_some hc
      simp only [Bool.and_eq_true, decide_eq_true_eq] at hp
      rw [at_inj hs hm h5 (by have := hp.1; simp only; omega)]
  rw [hf]
  simp only [Option.map_some]
  have e0 : (textW (bts (tx m))).getD 0 0 = 2 := by
    have : (bts (tx m)).length = 2 := by rw [bts_len, hsz]
    simp [textW, this]
  rw [e0, e2]

theorem likeK_iff {a c : Vl} {m m' : Int} (hs : Srt 0 M) (ha : KeyIs M tb a m) (hc : KeyIs M tb c m') : likeK (TT M tb) a c ↔ m = m' := by
  cases tb with
  | false =>
    obtain ⟨rfl, _⟩ := ha
    obtain ⟨rfl, _⟩ := hc
    constructor
    · rintro (⟨s, h1, _⟩ | ⟨_, _, h⟩)
      · cases h1
      · cases h; rfl
    · rintro rfl; exact likeK.refl _ _
  | true =>
    have h1 := (TM_key hs ha).1
    have h2 := (TM_key hs hc).1
    constructor
    · rintro (⟨s, e1, e2⟩ | ⟨e1, _, _⟩)
      · have e1' : TM M a = some s := e1
        have e2' : TM M c = some s := e2
        rw [h1] at e1'; rw [h2] at e2'
        cases e1'
        exact tx_inj ha.2.1 hc.2.1 (Option.some.inj e2').symm
      · have e1' : TM M a = none := e1
        rw [h1] at e1'; cases e1'
    · rintro rfl
      exact .inl ⟨tx m, h1, h2⟩

/-- A name gets a value. -/
def putNV : List (Int × Int) → Int → Int → List (Int × Int)
  | [], m, x => [(m, x)]
  | q :: r, m, x => if q.1 = m then (q.1, x) :: r else q :: putNV r m x

theorem putNV_no {m x : Int} : ∀ {nv : List (Int × Int)}, (∀ q ∈ nv, q.1 ≠ m) → putNV nv m x = nv ++ [(m, x)]
  | [], _ => rfl
  | q :: r, h => by rw [putNV, if_neg (h q (by simp)), putNV_no (fun p hp => h p (by simp [hp])), List.cons_append]

theorem putNV_yes {m x y : Int} {r : List (Int × Int)} : ∀ {l : List (Int × Int)}, (∀ q ∈ l, q.1 ≠ m) → putNV (l ++ (m, y) :: r) m x = l ++ (m, x) :: r
  | [], _ => by rw [List.nil_append, putNV, if_pos rfl]; rfl
  | q :: l, h => by rw [List.cons_append, putNV, if_neg (h q (by simp)), putNV_yes (fun p hp => h p (by simp [hp]))]; rfl

theorem putNV_cases (m : Int) : ∀ (nv : List (Int × Int)), (∀ q ∈ nv, q.1 ≠ m) ∨ ∃ l y r, nv = l ++ (m, y) :: r ∧ ∀ q ∈ l, q.1 ≠ m
  | [] => .inl (by simp)
  | q :: r => by
    by_cases h : q.1 = m
    · exact .inr ⟨[], q.2, r, by rw [← h]; rfl, by simp⟩
    · rcases putNV_cases m r with h2 | ⟨l, y, r', rfl, h3⟩
      · exact .inl (fun p hp => by rcases List.mem_cons.1 hp with rfl | hp; exact h; exact h2 p hp)
      · exact .inr ⟨q :: l, y, r', rfl, fun p hp => by rcases List.mem_cons.1 hp with rfl | hp; exact h; exact h3 p hp⟩

/-- Keys and values that bear these names and values. -/
def Rel (M : List Ob) (tb : Bool) : List (Vl × Vl) → List (Int × Int) → Prop
  | [], [] => True
  | p :: r, q :: s => KeyIs M tb p.1 q.1 ∧ p.2 = ⟨2, q.2⟩ ∧ (-9223372036854775808 ≤ q.2 ∧ q.2 ≤ 9223372036854775807) ∧ Rel M tb r s
  | _, _ => False

theorem Rel.len : ∀ {ps : List (Vl × Vl)} {nv : List (Int × Int)}, Rel M tb ps nv → ps.length = nv.length
  | [], [], _ => rfl
  | p :: r, q :: s, h => by simp [Rel.len h.2.2.2]
  | [], q :: s, h => h.elim
  | p :: r, [], h => h.elim

theorem Rel.kept {M' : List Ob} (hk : ∀ x ∈ M, x.kind = 3 → x ∈ M') : ∀ {ps : List (Vl × Vl)} {nv : List (Int × Int)}, Rel M tb ps nv → Rel M' tb ps nv
  | [], [], _ => trivial
  | p :: r, q :: s, h => ⟨h.1.kept hk, h.2.1, h.2.2.1, Rel.kept hk h.2.2.2⟩
  | [], q :: s, h => h.elim
  | p :: r, [], h => h.elim

theorem Rel.app : ∀ {ps : List (Vl × Vl)} {nv : List (Int × Int)} {k : Vl} {m x : Int}, Rel M tb ps nv → KeyIs M tb k m → (-9223372036854775808 ≤ x ∧ x ≤ 9223372036854775807) → Rel M tb (ps ++ [(k, ⟨2, x⟩)]) (nv ++ [(m, x)])
  | [], [], k, m, x, _, hk, hx => ⟨hk, rfl, hx, trivial⟩
  | p :: r, q :: s, k, m, x, h, hk, hx => ⟨h.1, h.2.1, h.2.2.1, Rel.app h.2.2.2 hk hx⟩
  | [], q :: s, _, _, _, h, _, _ => h.elim
  | p :: r, [], _, _, _, h, _, _ => h.elim

theorem Rel.get : ∀ {ps : List (Vl × Vl)} {nv : List (Int × Int)} {i : Nat} {q : Int × Int}, Rel M tb ps nv → nv[i]? = some q → ∃ p, ps[i]? = some p ∧ KeyIs M tb p.1 q.1 ∧ p.2 = ⟨2, q.2⟩ ∧ (-9223372036854775808 ≤ q.2 ∧ q.2 ≤ 9223372036854775807)
  | p :: r, q :: s, 0, q', h, e => by simp at e; subst e; exact ⟨p, rfl, h.1, h.2.1, h.2.2.1⟩
  | p :: r, q :: s, i + 1, q', h, e => by simpa using Rel.get (i := i) h.2.2.2 (by simpa using e)
  | [], [], _, _, _, e => by simp at e
  | [], q :: s, _, _, h, _ => h.elim
  | p :: r, [], _, _, h, _ => h.elim

theorem Rel.upd (hs : Srt 0 M) : ∀ {ps : List (Vl × Vl)} {nv : List (Int × Int)} {k : Vl} {m x : Int}, Rel M tb ps nv → KeyIs M tb k m → (-9223372036854775808 ≤ x ∧ x ≤ 9223372036854775807) → Rel M tb (upd (TT M tb) k ⟨2, x⟩ ps) (putNV nv m x)
  | [], [], k, m, x, _, hk, hx => ⟨hk, rfl, hx, trivial⟩
  | p :: r, q :: s, k, m, x, h, hk, hx => by
    unfold Go.Proofs.Ytkombdkhodjckaa.upd putNV
    by_cases e : q.1 = m
    · rw [if_pos e, if_pos ((likeK_iff hs h.1 hk).2 e)]
      exact ⟨h.1, rfl, hx, h.2.2.2⟩
    · rw [if_neg e, if_neg (fun hl => e ((likeK_iff hs h.1 hk).1 hl))]
      exact ⟨h.1, h.2.1, h.2.2.1, Rel.upd hs h.2.2.2 hk hx⟩
  | [], q :: s, _, _, _, h, _, _ => h.elim
  | p :: r, [], _, _, _, h, _, _ => h.elim

def foldNV (raw : List (Int × Int)) : List (Int × Int) := raw.foldl (fun a q => putNV a q.1 q.2) []

theorem foldNV_snoc (raw : List (Int × Int)) (q : Int × Int) : foldNV (raw ++ [q]) = putNV (foldNV raw) q.1 q.2 := by simp [foldNV]

theorem Rel.fold (hs : Srt 0 M) : ∀ {ps : List (Vl × Vl)} {raw : List (Int × Int)} {acc : List (Vl × Vl)} {nv : List (Int × Int)}, Rel M tb ps raw → Rel M tb acc nv → Rel M tb (ps.foldl (fun a p => Go.Proofs.Ytkombdkhodjckaa.upd (TT M tb) p.1 p.2 a) acc) (raw.foldl (fun a q => putNV a q.1 q.2) nv)
  | [], [], acc, nv, _, h => h
  | p :: r, q :: s, acc, nv, h, g => by
    rw [List.foldl_cons, List.foldl_cons]
    refine Rel.fold hs h.2.2.2 ?_
    rw [h.2.1]
    exact g.upd hs h.1 h.2.2.1
  | [], q :: s, _, _, h, _ => h.elim
  | p :: r, [], _, _, h, _ => h.elim

theorem Rel.once (hs : Srt 0 M) {ps : List (Vl × Vl)} {raw : List (Int × Int)} (h : Rel M tb ps raw) : Rel M tb (Go.Proofs.Ytkombdkhodjckaa.once (TT M tb) ps) (foldNV raw) := Rel.fold hs h trivial

end Go.Proofs.Ytkombdkhodjckaa

namespace Go.Proofs.Ytkombdkhodjckaa
set_option linter.unusedVariables false
set_option linter.unusedSimpArgs false
open Go.RowKit

variable {n₀ bh b lim used : Nat} {vw vb : Value} {w : World} {M : List Ob} {tb : Bool} {B5 B7 : Nat}

/-- A name. -/
def nameI (tb : Bool) (n : Int) : Int := match tb with | true => n % 256 | false => n.tmod 64

theorem nameI_range (tb : Bool) (n : Int) : -9223372036854775808 ≤ nameI tb n ∧ nameI tb n ≤ 9223372036854775807 := by
  cases tb with
  | true => simp only [nameI]; omega
  | false =>
    simp only [nameI]
    have h1 := Int.tmod_lt_of_pos n (show (0 : Int) < 64 by omega)
    have h2 := Int.lt_tmod_of_pos n (show (0 : Int) < 64 by omega)
    omega

theorem nameI_num (n : Int) : -64 < n.tmod 64 ∧ n.tmod 64 < 64 := by
  have h1 := Int.tmod_lt_of_pos n (show (0 : Int) < 64 by omega)
  have h2 := Int.lt_tmod_of_pos n (show (0 : Int) < 64 by omega)
  omega

set_option maxRecDepth 20000 in
set_option maxHeartbeats 1000000 in
theorem name_in (n : Int) (hn : -9223372036854775808 ≤ n ∧ n ≤ 9223372036854775807) (w : World) (h5 : w.heap[B5]? = some (.cells #[.bool tb] 4 (0, 0))) :
    Calls Try.prog 15 #[.int .i64 n, .pointer (some ⟨B5, 0, none⟩)] w fun e w' => e = .returned (.int .i64 (nameI tb n)) ∧ w' = w := by
  have c5 := cell_row1 h5
  have h1 := nameI_num n
  cases tb with
  | true =>
    go_enter Try.func15, Try.ntmps15
    go_wp2
    go_ret
    exact ⟨rfl, rfl⟩
  | false =>
    go_enter Try.func15, Try.ntmps15
    go_wp2
    go_ret
    exact ⟨rfl, rfl⟩

set_option maxRecDepth 20000 in
set_option maxHeartbeats 1000000 in
theorem key_text (h : Hp n₀ bh b vw vb w lim used M) (hl1 : 1 ≤ lim) (n : Int) (hn : -9223372036854775808 ≤ n ∧ n ≤ 9223372036854775807) (h5 : w.heap[B5]? = some (.cells #[.bool true] 4 (0, 0))) (h7 : w.heap[B7]? = some (.cells #[.pointer (some ⟨bh, 0, none⟩)] 22 (0, 0))) (hf : used + 3 ≤ lim) :
    Calls Try.prog 14 #[.int .i64 n, .pointer (some ⟨B5, 0, none⟩), .pointer (some ⟨B7, 0, none⟩)] w fun e w' => e = .returned (.agg #[.int .u8 3, .int .i64 used]) ∧
      ∃ vw' vb', Hp n₀ bh b vw' vb' w' lim (used + 3) (M ++ [⟨used, 3, textW (bts (tx (n % 256)))⟩]) ∧ Step b vw vb w vw' vb' w' := by
  have c5 := cell_row1 (alloc_keeps h5 (.cells #[.int .u8 0, .int .i64 0] 26))
  have c7 := cell_row1 (alloc_keeps h7 (.cells #[.int .u8 0, .int .i64 0] 26))
  have hb2 := below2' w (.cells #[.int .u8 0, .int .i64 0] 26) (.cells #[.int .u8 (n % 256), .int .u8 107] 5)
  have HV : Hid (∀ k, vw.ownBlock = some k → k < w.heap.size) := fun k e => (h.blocks k (.inr (.inr (.inl e)))).2.1
  have hm : 0 ≤ n % 256 ∧ n % 256 < 256 := by omega
  have hsz := tx_size hm
  have hconv := run_convert_bytes_arg (P := Try.prog) ((w.alloc (.cells #[.int .u8 0, .int .i64 0] 26)).alloc (.cells #[.int .u8 (n % 256), .int .u8 107] 5)) 41 5 Try.underlying41 Try.underlying5 (w.heap.size + 1) 0 2 2 [n % 256, 107] (by simp) (fun j hj => by
    have hr := heap_two w (.cells #[.int .u8 0, .int .i64 0] 26) (.cells #[.int .u8 (n % 256), .int .u8 107] 5)
    have : j = 0 ∨ j = 1 := by omega
    rcases this with rfl | rfl
    · rw [cell_of_row _ (w.heap.size + 1) 0 _ _ _ hr]; rfl
    · rw [cell_of_row _ (w.heap.size + 1) 1 _ _ _ hr]; rfl) 9 Try.underlying9
  have H1 := NewText_ok (h.below hb2) hl1 (tx (n % 256)) (by omega) (by rw [hsz]; omega)
  rw [hsz] at H1
  simp only [show used + (1 + (2 + 7) / 8) + 1 = used + 3 by omega] at H1
  have c7b := cell_row1 (alloc_keeps (alloc_keeps h7 (.cells #[.int .u8 0, .int .i64 0] 26)) (.cells #[.int .u8 (n % 256), .int .u8 107] 5))
  unfold tx at H1
  have HT : Hid (tx (n % 256) = strOfNums [n % 256, 107]) := rfl
  go_enter Try.func14, Try.ntmps14
  go_wp2_with (first
    | (go_at_call 6; refine H1.mono ?_; clear H1; rintro e w1 ⟨rfl, vw', vb', hp1, hS1⟩
       have hpx := h.below hb2
       have z4 := (hpx.stays hS1 (alloc_keeps (heap_alloc_new w (.cells #[.int .u8 0, .int .i64 0] 26)) (.cells #[.int .u8 (n % 256), .int .u8 107] 5)) (fun cur t e => by cases e; decide)).trans (alloc_keeps (heap_alloc_new w (.cells #[.int .u8 0, .int .i64 0] 26)) (.cells #[.int .u8 (n % 256), .int .u8 107] 5))
       have z5 := alloc_keeps z4 (.cells #[.int .u8 3, .int .i64 used] 26)
       have ⟨d0, d1⟩ := cell_row2 (heap_alloc_new w1 (.cells #[.int .u8 3, .int .i64 used] 26))
       obtain ⟨⟨e0, e1⟩, f0, f1⟩ := cell_row2f z5))
  refine bodyPost_ret (results_cell_row (by rfl) _ _ w.heap.size 26 _ _ _ (by rfl) (set2_row z5) Try.underlying26 (by rfl) infoVal3) (by rfl) ?_
  have hp2 := (hp1.below (below1 w1 (.cells #[.int .u8 3, .int .i64 used] 26))).setBx (k := 0) (n := 0) z5 (.int .u8 3) (.int .i64 used)
  have hS2 := Step.belowL hb2 hS1 HV.out
  refine ⟨rfl, vw', vb', hp2, step_set2 (hS2.trans (Step.belowL (below1 w1 _) (Step.refl _ _ _ _) (fun k e => (hp1.blocks k (.inr (.inr (.inl e)))).2.1))) (Nat.le_refl _) _ _⟩

set_option maxRecDepth 20000 in
set_option maxHeartbeats 1000000 in
theorem key_num (n : Int) (hn : -9223372036854775808 ≤ n ∧ n ≤ 9223372036854775807) (w : World) (h5 : w.heap[B5]? = some (.cells #[.bool false] 4 (0, 0))) :
    Calls Try.prog 14 #[.int .i64 n, .pointer (some ⟨B5, 0, none⟩), .pointer (some ⟨B7, 0, none⟩)] w fun e w' => e = .returned (.agg #[.int .u8 2, .int .i64 (n.tmod 64)]) ∧ Below w.heap.size w w' := by
  have c5 := cell_row1 (alloc_keeps h5 (.cells #[.int .u8 0, .int .i64 0] 26))
  have h1 := nameI_num n
  have H1 := number_in (n.tmod 64) (w.alloc (.cells #[.int .u8 0, .int .i64 0] 26))
  go_enter Try.func14, Try.ntmps14
  go_wp2_with (first
    | (go_at_call 13; refine H1.mono ?_; clear H1; rintro e w1 ⟨rfl, hB1⟩
       have z4 := (hB1.block _ (by simp)).trans (heap_alloc_new w (.cells #[.int .u8 0, .int .i64 0] 26))
       obtain ⟨⟨e0, e1⟩, f0, f1⟩ := cell_row2f z4))
  refine bodyPost_ret (results_cell_row (by rfl) _ _ w.heap.size 26 _ _ _ (by rfl) (set2_row z4) Try.underlying26 (by rfl) infoVal3) (by rfl) ?_
  have hb := below1 w (.cells #[.int .u8 0, .int .i64 0] 26)
  exact ⟨rfl, below_set (below_set (hb.trans (hB1.mono hb.size)) (Nat.le_refl _) _) (Nat.le_refl _) _⟩

/-- A key of a name, whichever. -/
theorem key_in (h : Hp n₀ bh b vw vb w lim used M) (hl1 : 1 ≤ lim) (n : Int) (hn : -9223372036854775808 ≤ n ∧ n ≤ 9223372036854775807) (h5 : w.heap[B5]? = some (.cells #[.bool tb] 4 (0, 0))) (h7 : w.heap[B7]? = some (.cells #[.pointer (some ⟨bh, 0, none⟩)] 22 (0, 0))) (hf : used + 3 ≤ lim) :
    Calls Try.prog 14 #[.int .i64 n, .pointer (some ⟨B5, 0, none⟩), .pointer (some ⟨B7, 0, none⟩)] w fun e w' => ∃ (v : Vl) (vw' vb' : Value) (used' : Nat) (M' : List Ob), e = .returned (.agg #[.int .u8 v.k, .int .i64 v.n]) ∧ Hp n₀ bh b vw' vb' w' lim used' M' ∧ Step b vw vb w vw' vb' w' ∧ KeyIs M' tb v (nameI tb n) ∧ used' ≤ used + 3 ∧ ∀ x ∈ M, x ∈ M' := by
  have hle := h.le
  cases tb with
  | true =>
    refine (key_text h hl1 n hn h5 h7 hf).mono ?_
    rintro e w' ⟨he, vw', vb', hp, hS⟩
    refine ⟨⟨3, used⟩, vw', vb', _, _, he, hp, hS, ⟨rfl, ?_, used, rfl, by omega, by simp [nameI]⟩, by omega, fun x hx => List.mem_append_left _ hx⟩
    simp only [nameI]
    omega
  | false =>
    refine (key_num n hn w h5).mono ?_
    rintro e w' ⟨he, hB⟩
    exact ⟨⟨2, n.tmod 64⟩, vw, vb, used, M, he, h.below hB, Step.belowL hB (Step.refl _ _ _ _) (fun k e => (h.blocks k (.inr (.inr (.inl e)))).2.1), ⟨rfl, (nameI_num n).1, (nameI_num n).2⟩, by omega, fun x hx => hx⟩

end Go.Proofs.Ytkombdkhodjckaa
