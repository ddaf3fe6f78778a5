/- keyAt of a list of keys and values, for keys that are texts and for others. -/
import Derived.Test.YtkombdkhodjckaaGreatObItems
namespace Go.Proofs.YtkombdkhodjckaaGreat
set_option linter.unusedVariables false
set_option linter.unusedSimpArgs false
open Go.RowKit

variable {n₀ bh b lim used : Nat} {vw vb : Value} {w : World} {M : List Ob}

theorem run_store_func2 {P : Program} {w : World} {a : Addr} {f : Fn} {x y : Array Value} {m : Mode} : (store a (.func f x y) m).run P w = stored P w a (.func f x y) m := run_store P w a _ m rfl
attribute [local go_sem] run_store_func2

/-- The first key that is so. -/
def FirstAt (vs : List Vl) (c : Vl → Bool) (i : Nat) : Prop := i % 2 = 0 ∧ (∃ v, vs[i]? = some v ∧ c v = true) ∧ ∀ j, j < i → j % 2 = 0 → ∀ v, vs[j]? = some v → c v = false

def NoneAt (vs : List Vl) (c : Vl → Bool) : Prop := ∀ j, j % 2 = 0 → ∀ v, vs[j]? = some v → c v = false

theorem FirstAt.uniq {vs : List Vl} {c : Vl → Bool} {i j : Nat} (h : FirstAt vs c i) (g : FirstAt vs c j) : i = j := by
  obtain ⟨e1, ⟨u, h1, h2⟩, h3⟩ := h
  obtain ⟨e2, ⟨v, g1, g2⟩, g3⟩ := g
  rcases Nat.lt_trichotomy i j with hl | hl | hl
  · rw [g3 i hl e1 u h1] at h2; cases h2
  · exact hl
  · rw [h3 j hl e2 v g1] at g2; cases g2

theorem NoneAt.no {vs : List Vl} {c : Vl → Bool} {i : Nat} (h : NoneAt vs c) (g : FirstAt vs c i) : False := by
  obtain ⟨e2, ⟨v, g1, g2⟩, _⟩ := g
  rw [h i e2 v g1] at g2; cases g2

/-- What keyAt answers. -/
def KeyAns (vs : List Vl) (c : Vl → Bool) (e : Ending) : Prop := (∃ i : Nat, FirstAt vs c i ∧ e = .returned (.tuple #[.int .i64 i, .bool true])) ∨ (NoneAt vs c ∧ ∃ i : Int, e = .returned (.tuple #[.int .i64 i, .bool false]))

theorem Rw.like2 {at_ kind room inn : Nat} {vs : List Vl} (r : Rw M at_ kind vs room inn) (h : Hp n₀ bh b vw vb w lim used M) (key : Vl) (hk0 : key.k ≠ 0) {Bm Bb Bk Bl Ba : Nat} (hL : LikeAt w Bm Bb Bk Bl Ba bh vs.length room inn key.k key.n) (i : Nat) (hi : i ≤ 1048576) {v : Vl} (hv : vs[i]? = some v) :
    Calls Tryz.prog 119 #[.int .i64 i, .pointer (some ⟨Bm, 0, none⟩), .pointer (some ⟨Bb, 0, none⟩), .pointer (some ⟨Bk, 0, none⟩), .pointer (some ⟨Bl, 0, none⟩)] w fun e w' => e = .returned (.bool (decide (key.k = v.k ∧ key.n = v.n))) ∧ Below w.heap.size w w' := by
  rcases r with ⟨o, q, hr, rfl, h2, rfl, _, he⟩ | ⟨h1, rfl, rfl, rfl⟩
  · have := keyLike2_at h hr.memq vs.length room key.k key.n hk0 hL i hi
    have hil := (List.getElem?_eq_some_iff.1 hv).1
    have e : (valsOf q.ws vs.length)[i]? = some v := by rw [he]; exact hv
    rw [valsOf, List.getElem?_map, List.getElem?_range hil] at e
    simp only [Option.map_some, Option.some.injEq] at e
    rw [← e]
    exact this
  · simp at hv

set_option maxRecDepth 20000 in
set_option maxHeartbeats 1000000 in
/-- .. of a key that is no text, and not nil. -/
theorem Rw.keyAt_plain {at_ kind room inn : Nat} {vs : List Vl} (r : Rw M at_ kind vs room inn) (h : Hp n₀ bh b vw vb w lim used M) (hl : vs.length ≤ 131072) (key : Vl) (hk : key.k ≠ 3) (hk0 : key.k ≠ 0) :
    Calls Tryz.prog 58 #[mem bh, .agg #[.int .i64 vs.length, .int .i64 room, .int .i64 inn, .int .i64 0], .agg #[.int .u8 key.k, .int .i64 key.n]] w fun e w' => KeyAns vs (fun v => decide (key.k = v.k ∧ key.n = v.n)) e ∧ Below w.heap.size w w' := by
  have H1 := fun w => keyLike_plain (bh := bh) vs.length room inn key.k key.n hk hk0 w
  have HE := fun w' (hB : Below w.heap.size w w') {Bm Bb Bk Bl Ba : Nat} (hL : LikeAt w' Bm Bb Bk Bl Ba bh vs.length room inn key.k key.n) i hi {v : Vl} (hv : vs[i]? = some v) => r.like2 (h.below hB) key hk0 hL i hi hv
  have hget : ∀ i, i < vs.length → ∃ v, vs[i]? = some v := fun i hic => ⟨_, List.getElem?_eq_getElem hic⟩
  unfold mem at H1 ⊢
  clear r hk hk0
  go_enter Tryz.func58, Tryz.ntmps58
  go_wp2_with (first
    | (go_at_call 99; refine (H1 _).mono ?_; clear H1; rintro e w1 ⟨Bm, Bb, Bk, Bl, Ba, rfl, hL, hB1⟩; obtain ⟨m1, m2, m3, hBz⟩ := later3o hB1))
  go_loopw [9] (fun p wr => ∃ i : Nat, p = .int .i64 i ∧ i % 2 = 0 ∧ i ≤ vs.length + 1 ∧ Below w1.heap.size w1 wr ∧ ∀ j, j < i → j % 2 = 0 → ∀ v : Vl, vs[j]? = some v → decide (key.k = v.k ∧ key.n = v.n) = false) (fun p _ => vs.length + 2 - (intOf p).toNat)
  case atStart => exact ⟨0, rfl, rfl, by omega, Below.refl _ _, by omega⟩
  case round =>
    obtain ⟨i, rfl, hp, hic, hB, hno⟩ := hrel
    have hBr := hBz.trans (hB.mono hBz.size)
    have m2' := (hB.block _ (Array.getElem?_eq_some_iff.1 m2).1).trans m2
    have ⟨⟨c0, c1, c2, c3⟩, _⟩ := cell_row4 m2'
    have HN : Hid _ := hno
    clear hno
    by_cases hi : i < vs.length
    · have hi' : (i : Int) < (vs.length : Int) := by omega
      obtain ⟨v, hv⟩ := hget i hi
      have H2 := HE _ hBr (hL.below hB) i (by omega) hv
      have HV : Hid _ := hv
      by_cases hc : decide (key.k = v.k ∧ key.n = v.n) = true
      · rw [hc] at H2
        have HC : Hid _ := hc
        clear hc hv HE
        go_wp2_with (first
          | (go_at_call 119; refine H2.mono ?_; clear H2; rintro e w2 ⟨rfl, hB2⟩))
        go_ret2
        exact ⟨.inl ⟨i, ⟨hp, ⟨v, HV.out, HC.out⟩, HN.out⟩, rfl⟩, hBr.trans (hB2.mono hBr.size)⟩
      · have hc : decide (key.k = v.k ∧ key.n = v.n) = false := by simpa using hc
        rw [hc] at H2
        have HC : Hid _ := hc
        clear hc hv HE
        go_wp2_with (first
          | (go_at_call 119; refine H2.mono ?_; clear H2; rintro e w2 ⟨rfl, hB2⟩))
        go_roundw
        case rel =>
          refine ⟨i + 2, by simp, by omega, by omega, hB.trans (hB2.mono hB.size), fun j hj hj2 u hu => ?_⟩
          by_cases hji : j < i
          · exact HN.out j hji hj2 u hu
          · have : j = i := by omega
            rw [this, HV.out] at hu; cases hu; exact HC.out
        case measure => simp [intOf]; omega
    · have hi' : ¬ (i : Int) < (vs.length : Int) := by omega
      clear HE
      go_wp2
      go_ret2
      exact ⟨.inr ⟨fun j hj2 v hv => by
        have hz := HN.out j (by have := (List.getElem?_eq_some_iff.1 hv).1; omega) hj2 v hv
        first | exact hz | (rw [Bool.decide_and] at hz; exact hz), 0, rfl⟩, hBr⟩

/-- A value that is a text. -/
def IsTxt (M : List Ob) (T : Vl → Option ByteArray) (v : Vl) : Prop := v.k = 3 ∧ ∃ o ∈ M, (o.at_ : Int) = v.n ∧ ∃ n, TextOb o n ∧ T v = some (strW o.ws n)

theorem like_textM (h : Hp n₀ bh b vw vb w lim used M) {o : Ob} (ho : o ∈ M) {n : Nat} (ht : TextOb o n) (s : ByteArray) (hs : s = strW o.ws n) :
    Calls Tryz.prog 117 #[mem bh, .agg #[.int .u8 3, .int .i64 o.at_]] w fun e w' => ∃ Bm Bs, w.heap.size ≤ Bm ∧ w.heap.size ≤ Bs ∧ e = .returned (.func (.func 131) #[] #[.pointer (some ⟨Bm, 0, none⟩), .pointer (some ⟨Bs, 0, none⟩)]) ∧
      w'.heap[Bm]? = some (.cells #[.pointer (some ⟨bh, 0, none⟩)] 54 (0, 0)) ∧ w'.heap[Bs]? = some (.cells #[.string s] 9 (0, 0)) ∧ Below w.heap.size w w' := by
  obtain ⟨l, r, rfl⟩ := List.append_of_mem ho
  rw [hs]
  exact like_text h ht

/-- What tells whether values are the same as a key that is a text: the variables that it holds. -/
structure LikeAtT (w : World) (Bl Bm Bb Bm2 Bt bh cnt room inn : Nat) (s : ByteArray) : Prop where
  mem : w.heap[Bm]? = some (.cells #[.pointer (some ⟨bh, 0, none⟩)] 54 (0, 0))
  bod : w.heap[Bb]? = some (.cells #[.int .i64 cnt, .int .i64 room, .int .i64 inn, .int .i64 0] 58 (0, 0))
  box : w.heap[Bl]? = some (.cells #[.func (.func 131) #[] #[.pointer (some ⟨Bm2, 0, none⟩), .pointer (some ⟨Bt, 0, none⟩)]] 63 (0, 0))
  mem2 : w.heap[Bm2]? = some (.cells #[.pointer (some ⟨bh, 0, none⟩)] 54 (0, 0))
  str : w.heap[Bt]? = some (.cells #[.string s] 9 (0, 0))

theorem LikeAtT.below {Bl Bm Bb Bm2 Bt bh cnt room inn : Nat} {s : ByteArray} (h : LikeAtT w Bl Bm Bb Bm2 Bt bh cnt room inn s) {w' : World} (hB : Below w.heap.size w w') : LikeAtT w' Bl Bm Bb Bm2 Bt bh cnt room inn s :=
  ⟨(hB.block _ (Array.getElem?_eq_some_iff.1 h.mem).1).trans h.mem, (hB.block _ (Array.getElem?_eq_some_iff.1 h.bod).1).trans h.bod, (hB.block _ (Array.getElem?_eq_some_iff.1 h.box).1).trans h.box,
    (hB.block _ (Array.getElem?_eq_some_iff.1 h.mem2).1).trans h.mem2, (hB.block _ (Array.getElem?_eq_some_iff.1 h.str).1).trans h.str⟩

def SixT (Bm Bb Bl : Nat) (m c0 c1 c2 c3 f : Value) (W : World) : Prop :=
  W.cell? ⟨Bm, 0, none⟩ = some m ∧ W.cell? ⟨Bb, 0, none⟩ = some c0 ∧ W.cell? ⟨Bb, 1, none⟩ = some c1 ∧ W.cell? ⟨Bb, 2, none⟩ = some c2 ∧ W.cell? ⟨Bb, 3, none⟩ = some c3 ∧ W.cell? ⟨Bl, 0, none⟩ = some f

theorem LikeAtT.six {Bl Bm Bb Bm2 Bt bh cnt room inn : Nat} {s : ByteArray} (h : LikeAtT w Bl Bm Bb Bm2 Bt bh cnt room inn s) :
    SixT Bm Bb Bl (.pointer (some ⟨bh, 0, none⟩)) (.int .i64 cnt) (.int .i64 room) (.int .i64 inn) (.int .i64 0) (.func (.func 131) #[] #[.pointer (some ⟨Bm2, 0, none⟩), .pointer (some ⟨Bt, 0, none⟩)]) w :=
  have e := (cell_row4 h.bod).1
  ⟨cell_row1 h.mem, e.1, e.2.1, e.2.2.1, e.2.2.2, cell_row1 h.box⟩

theorem strW_eq {o : Ob} {n : Nat} {s : ByteArray} : (bytesW o.ws n = bts s) ↔ strW o.ws n = s := by
  constructor
  · intro h
    unfold strW
    rw [h, strOf_bts]
  · rintro rfl
    rw [bts_strW]

set_option maxRecDepth 20000 in
set_option maxHeartbeats 2000000 in
theorem keyLike1_in {T : Vl → Option ByteArray} {v : Vl} (h : Hp n₀ bh b vw vb w lim used M) (hv : IsTxt M T v) (i : Nat) (s : ByteArray) (hss : s.size < 9223372036854775808) (hi2 : i ≤ 1048576) {Bl Bm Bb Bm2 Bt cnt room inn : Nat} (hL : LikeAtT w Bl Bm Bb Bm2 Bt bh cnt room inn s)
    (HV : ∀ w', Below w.heap.size w w' → Calls Tryz.prog 47 #[mem bh, .agg #[.int .i64 cnt, .int .i64 room, .int .i64 inn, .int .i64 0], .int .i64 i] w' fun e w'' => e = .returned (.agg #[.int .u8 v.k, .int .i64 v.n]) ∧ Below w'.heap.size w' w'') :
    Calls Tryz.prog 118 #[.int .i64 i, .pointer (some ⟨Bl, 0, none⟩), .pointer (some ⟨Bm, 0, none⟩), .pointer (some ⟨Bb, 0, none⟩)] w fun e w' => e = .returned (.bool (decide (T v = some s))) ∧ Below w.heap.size w w' := by
  obtain ⟨vk, vn⟩ := v
  obtain ⟨hk, o, ho, hat, n, ht, hTv⟩ := hv
  simp only at hk hat
  subst hk hat
  have H2 : ∀ w', Below w.heap.size w w' → Calls Tryz.prog 131 #[.agg #[.int .u8 3, .int .i64 o.at_], .pointer (some ⟨Bm2, 0, none⟩), .pointer (some ⟨Bt, 0, none⟩)] w' fun e w'' => e = .returned (.bool (decide (bytesW o.ws n = bts s))) ∧ Below w'.heap.size w' w'' := fun w' hB => by
    have := h.below hB
    obtain ⟨l, r, hM⟩ := List.append_of_mem ho
    rw [hM] at this
    exact like2_in this ht s hss (hL.below hB).mem2 (hL.below hB).str
  have eT : (decide (T ⟨3, (o.at_ : Int)⟩ = some s)) = decide (bytesW o.ws n = bts s) := by
    rw [hTv]
    exact decide_eq_decide.2 ⟨fun e => strW_eq.2 (Option.some.inj e), fun e => by rw [strW_eq.1 e]⟩
  rw [eT]
  have HL : Hid _ := hL
  have S0 : Hid _ := hL.six
  obtain ⟨c0, c1, c2, c3, c4, c5⟩ := hL.six
  unfold mem at HV
  simp only [show ((3 : Nat) : Int) = 3 from rfl] at HV
  clear eT hTv h hL
  go_enter Tryz.func118, Tryz.ntmps118
  go_wp2
  go_region_held3 (fun W => W.cell? ⟨Bm, 0, none⟩ = some (.pointer (some ⟨bh, 0, none⟩)) ∧ W.cell? ⟨Bb, 0, none⟩ = some (.int .i64 cnt) ∧ W.cell? ⟨Bb, 1, none⟩ = some (.int .i64 room) ∧ W.cell? ⟨Bb, 2, none⟩ = some (.int .i64 inn) ∧ W.cell? ⟨Bb, 3, none⟩ = some (.int .i64 0) ∧ W.cell? ⟨Bl, 0, none⟩ = some (.func (.func 131) #[] #[.pointer (some ⟨Bm2, 0, none⟩), .pointer (some ⟨Bt, 0, none⟩)])) (first | exact S0.out | exact S1.out | exact S2.out | go_keep)
    ((first
      | (go_at_call 47; refine (HV _ (below_drew (Below.refl _ _))).mono ?_; clear HV; rintro e w1 ⟨rfl, hB1⟩; have hB1' : Below w.heap.size w w1 := (below_drew (Below.refl w.heap.size w)).trans hB1; have S1 : Hid _ := (HL.out.below hB1').six)
      | (go_at_call 131; refine (H2 _ hB1').mono ?_; clear H2; rintro e w2 ⟨rfl, hB2⟩; have hB2' := hB1'.trans (hB2.mono hB1'.size); have S2 : Hid _ := (HL.out.below hB2').six)))
  all_goals
    go_wp2
    go_ret
    exact ⟨rfl, hB2'⟩

set_option maxRecDepth 20000 in
set_option maxHeartbeats 1000000 in
theorem keyLike_text (h : Hp n₀ bh b vw vb w lim used M) {o : Ob} (ho : o ∈ M) {n : Nat} (ht : TextOb o n) (s : ByteArray) (hs : s = strW o.ws n) (cnt room inn : Nat) :
    Calls Tryz.prog 99 #[mem bh, .agg #[.int .i64 cnt, .int .i64 room, .int .i64 inn, .int .i64 0], .agg #[.int .u8 3, .int .i64 o.at_]] w fun e w' => ∃ Bl Bm Bb Bm2 Bt, e = .returned (.func (.func 118) #[] #[.pointer (some ⟨Bl, 0, none⟩), .pointer (some ⟨Bm, 0, none⟩), .pointer (some ⟨Bb, 0, none⟩)]) ∧
      LikeAtT w' Bl Bm Bb Bm2 Bt bh cnt room inn s ∧ Below w.heap.size w w' := by
  have H1 := fun w' (hB : Below w.heap.size w w') => like_textM (h.below hB) ho ht s hs
  unfold mem at H1 ⊢
  go_enter Tryz.func99, Tryz.ntmps99
  go_wp2_with (first
    | (go_at_call 117; refine (H1 _ (below3' _ _ _ _)).mono ?_; clear H1; rintro e w1 ⟨Bm2, Bt, hBm, hBt, rfl, gBm, gBt, hB1⟩; obtain ⟨m1, m2, m3, hBz⟩ := later3o hB1
       have k3 := alloc_keeps m3 (.cells #[.func (.func 131) #[] #[.pointer (some ⟨Bm2, 0, none⟩), .pointer (some ⟨Bt, 0, none⟩)]] 63)
       have ⟨x0, x1⟩ := cell_row2 k3))
  go_ret
  exact ⟨w1.heap.size, w.heap.size, w.heap.size + 1, Bm2, Bt, rfl, ⟨alloc_keeps m1 _, alloc_keeps m2 _, heap_alloc_new w1 _, alloc_keeps gBm _, alloc_keeps gBt _⟩, hBz.alloc hBz.size _⟩

set_option maxRecDepth 20000 in
set_option maxHeartbeats 1000000 in
/-- .. of a key that is a text, where all keys are. -/
theorem Rw.keyAt_text {at_ kind room inn : Nat} {vs : List Vl} (r : Rw M at_ kind vs room inn) (h : Hp n₀ bh b vw vb w lim used M) (hl : vs.length ≤ 131072) {o : Ob} (ho : o ∈ M) {n : Nat} (ht : TextOb o n) (T : Vl → Option ByteArray) (hT : ∀ j, j % 2 = 0 → ∀ v, vs[j]? = some v → IsTxt M T v) (s : ByteArray) (hs : s = strW o.ws n) :
    Calls Tryz.prog 58 #[mem bh, .agg #[.int .i64 vs.length, .int .i64 room, .int .i64 inn, .int .i64 0], .agg #[.int .u8 3, .int .i64 o.at_]] w fun e w' => KeyAns vs (fun v => decide (T v = some s)) e ∧ Below w.heap.size w w' := by
  have hss : s.size < 9223372036854775808 := by rw [hs, strW_size]; have := ht.most; omega
  have H1 := fun w' (hB : Below w.heap.size w w') => keyLike_text (h.below hB) ho ht s hs vs.length room inn
  have HE := fun w' (hB : Below w.heap.size w w') {Bl Bm Bb Bm2 Bt : Nat} (hL : LikeAtT w' Bl Bm Bb Bm2 Bt bh vs.length room inn s) i (hp : i % 2 = 0) (hi : i ≤ 1048576) {v : Vl} (hv : vs[i]? = some v) =>
    keyLike1_in (h.below hB) (hT i hp v hv) i s hss hi hL (fun w'' hB' => r.value ((h.below hB).below hB') hv hi)
  have hget : ∀ i, i < vs.length → ∃ v, vs[i]? = some v := fun i hic => ⟨_, List.getElem?_eq_getElem hic⟩
  unfold mem at H1 ⊢
  clear r hs hT
  go_enter Tryz.func58, Tryz.ntmps58
  go_wp2_with (first
    | (go_at_call 99; refine (H1 _ (below3' _ _ _ _)).mono ?_; clear H1; rintro e w1 ⟨Bl, Bm, Bb, Bm2, Bt, rfl, hL, hB1⟩; obtain ⟨m1, m2, m3, hBz⟩ := later3o hB1))
  go_loopw [9] (fun p wr => ∃ i : Nat, p = .int .i64 i ∧ i % 2 = 0 ∧ i ≤ vs.length + 1 ∧ Below w1.heap.size w1 wr ∧ ∀ j, j < i → j % 2 = 0 → ∀ v : Vl, vs[j]? = some v → decide (T v = some s) = false) (fun p _ => vs.length + 2 - (intOf p).toNat)
  case atStart => exact ⟨0, rfl, rfl, by omega, Below.refl _ _, by omega⟩
  case round =>
    obtain ⟨i, rfl, hp, hic, hB, hno⟩ := hrel
    have hBr := hBz.trans (hB.mono hBz.size)
    have m2' := (hB.block _ (Array.getElem?_eq_some_iff.1 m2).1).trans m2
    have ⟨⟨c0, c1, c2, c3⟩, _⟩ := cell_row4 m2'
    have HN : Hid _ := hno
    clear hno
    by_cases hi : i < vs.length
    · have hi' : (i : Int) < (vs.length : Int) := by omega
      obtain ⟨v, hv⟩ := hget i hi
      have H2 := HE _ hBr (hL.below hB) i hp (by omega) hv
      have HV : Hid _ := hv
      by_cases hc : decide (T v = some s) = true
      · rw [hc] at H2
        have HC : Hid _ := hc
        clear hc hv HE
        go_wp2_with (first
          | (go_at_call 118; refine H2.mono ?_; clear H2; rintro e w2 ⟨rfl, hB2⟩))
        go_ret2
        exact ⟨.inl ⟨i, ⟨hp, ⟨v, HV.out, HC.out⟩, HN.out⟩, rfl⟩, hBr.trans (hB2.mono hBr.size)⟩
      · have hc : decide (T v = some s) = false := by simpa using hc
        rw [hc] at H2
        have HC : Hid _ := hc
        clear hc hv HE
        go_wp2_with (first
          | (go_at_call 118; refine H2.mono ?_; clear H2; rintro e w2 ⟨rfl, hB2⟩))
        go_roundw
        case rel =>
          refine ⟨i + 2, by simp, by omega, by omega, hB.trans (hB2.mono hB.size), fun j hj hj2 u hu => ?_⟩
          by_cases hji : j < i
          · exact HN.out j hji hj2 u hu
          · have : j = i := by omega
            rw [this, HV.out] at hu; cases hu; exact HC.out
        case measure => simp [intOf]; omega
    · have hi' : ¬ (i : Int) < (vs.length : Int) := by omega
      clear HE
      go_wp2
      go_ret2
      exact ⟨.inr ⟨fun j hj2 v hv => by
        have hz := HN.out j (by have := (List.getElem?_eq_some_iff.1 hv).1; omega) hj2 v hv
        first | exact hz | (rw [Bool.decide_and] at hz; exact hz), 0, rfl⟩, hBr⟩

end Go.Proofs.YtkombdkhodjckaaGreat
