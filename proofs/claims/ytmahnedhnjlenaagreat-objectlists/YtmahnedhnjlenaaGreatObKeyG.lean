/- keyAt of a list of keys and values, for keys that are texts and for others. -/
import Derived.Test.YtmahnedhnjlenaaGreatObItems
namespace Go.Proofs.YtmahnedhnjlenaaGreat
set_option linter.unusedVariables false
set_option linter.unusedSimpArgs false
open Go.RowKit

variable {n₀ bh b lim used : Nat} {vw vb : Value} {w : World} {M : List Ob}

theorem run_store_func2 {P : Program} {w : World} {a : Addr} {f : Fn} {x y : Array Value} {m : Mode} : (store a (.func f x y) m).run P w = stored P w a (.func f x y) m := run_store P w a _ m rfl
attribute [local go_sem] run_store_func2

/-- The first key that is so. -/
def FirstAt (vs : List Vl) (c : Vl → Bool) (i : Nat) : Prop := i % 2 = 0 ∧ (∃ v, vs[i]? = some v ∧ c v = true) ∧ ∀ j, j < i → j % 2 = 0 → ∀ v, vs[j]? = some v → c v = false

def NoneAt (vs : List Vl) (c : Vl → Bool) : Prop := ∀ j, j % 2 = 0 → ∀ v, vs[j]? = some v → c v = false

theorem FirstAt.uniq {vs : List Vl} {c : Vl → Bool} {i j : Nat} (h : FirstAt vs c i) (g : FirstAt vs c j) : i = j := by
  obtain ⟨e1, ⟨u, h1, h2⟩, h3⟩ := h
  obtain ⟨e2, ⟨v, g1, g2⟩, g3⟩ := g
  rcases Nat.lt_trichotomy i j with hl | hl | hl
  · rw [g3 i hl e1 u h1] at h2; cases h2
  · exact hl
  · rw [h3 j hl e2 v g1] at g2; cases g2

theorem NoneAt.no {vs : List Vl} {c : Vl → Bool} {i : Nat} (h : NoneAt vs c) (g : FirstAt vs c i) : False := by
  obtain ⟨e2, ⟨v, g1, g2⟩, _⟩ := g
  rw [h i e2 v g1] at g2; cases g2

theorem key_setG {w w' : World} {Bat i k' : Nat} {n' : Int} {a0 : Value} (hB : Below w.heap.size w w') (hat : w.heap.size ≤ Bat) (g1 : w'.heap[Bat]? = some (.cells #[a0] 3 (0, 0))) :
    Below w.heap.size w ((w'.alloc (.cells #[.int .u8 k', .int .i64 n'] 29)).setCell ⟨Bat, 0, none⟩ (.int .i64 i)) ∧ KeepT w' ((w'.alloc (.cells #[.int .u8 k', .int .i64 n'] 29)).setCell ⟨Bat, 0, none⟩ (.int .i64 i)) ∧
    ((w'.alloc (.cells #[.int .u8 k', .int .i64 n'] 29)).setCell ⟨Bat, 0, none⟩ (.int .i64 i)).heap[Bat]? = some (.cells #[.int .i64 i] 3 (0, 0)) := by
  have k1 := alloc_keeps g1 (.cells #[.int .u8 k', .int .i64 n'] 29)
  refine ⟨below_set (hB.alloc hB.size _) hat _, fun j cur t hj ht => ?_, ?_⟩
  · have hne : j ≠ Bat := by
      intro e
      rw [e, g1] at hj
      rcases ht with rfl | rfl <;> simp at hj
    exact (heap_setCell_other _ ⟨Bat, 0, none⟩ j _ hne).trans (Below.heap_alloc w' _ j (Array.getElem?_eq_some_iff.1 hj).1)
  · have := heap_setCell_same _ Bat 0 _ 3 (.int .i64 i) k1
    simpa using this

set_option maxRecDepth 20000 in
set_option maxHeartbeats 1000000 in
theorem each_keyG {at_ kind room inn : Nat} {vs : List Vl} (r : Rw M at_ kind vs room inn) (h : Hp n₀ bh b vw vb w lim used M) (hl : vs.length ≤ 131072) (c : Vl → Bool) {Bat Bs : Nat} (hat : w.heap.size ≤ Bat) (LB : World → Prop)
    (LBb : ∀ w' w'', LB w' → Below w'.heap.size w' w'' → LB w'') (LBs : ∀ w' cur v, LB w' → w'.heap[Bat]? = some (.cells cur 3 (0, 0)) → LB (w'.setCell ⟨Bat, 0, none⟩ v))
    (E : ∀ (i : Nat) (v : Vl) (w' : World) (a0 : Value), i % 2 = 0 → vs[i]? = some v → Below w.heap.size w w' → w'.heap[Bat]? = some (.cells #[a0] 3 (0, 0)) → LB w' → Calls Tryz.prog 99 #[.int .i64 i, .agg #[.int .u8 v.k, .int .i64 v.n], .pointer (some ⟨Bat, 0, none⟩), .pointer (some ⟨Bs, 0, none⟩)] w' fun e w'' => e = .returned (.bool (!c v)) ∧ Below (w'.heap.size + 1) ((w'.alloc (.cells #[.int .u8 v.k, .int .i64 v.n] 29)).setCell ⟨Bat, 0, none⟩ (.int .i64 i)) w'')
    (W : World) (hB : Below w.heap.size w W) (g1 : W.heap[Bat]? = some (.cells #[.int .i64 0] 3 (0, 0))) (g2 : LB W) :
    Calls Tryz.prog 62 #[mem bh, .agg #[.int .i64 vs.length, .int .i64 room, .int .i64 inn, .int .i64 0], .func (.func 99) #[] #[.pointer (some ⟨Bat, 0, none⟩), .pointer (some ⟨Bs, 0, none⟩)]] W fun e w' => ((e = .returned (.bool true) ∧ NoneAt vs c ∧ ∃ a0 : Int, w'.heap[Bat]? = some (.cells #[.int .i64 a0] 3 (0, 0))) ∨ (∃ i : Nat, e = .returned (.bool false) ∧ FirstAt vs c i ∧ w'.heap[Bat]? = some (.cells #[.int .i64 i] 3 (0, 0)))) ∧ Below w.heap.size w w' := by
  have hget : ∀ i, i < vs.length → vs[i]? = some (vs.getD i ⟨0, 0⟩) := fun i hic => by rw [List.getD_eq_getElem?_getD, List.getElem?_eq_getElem hic]; rfl
  refine (each_keyAt1 bh vs.length room inn 0 (by omega) Bat Bs
    (fun i W => Below w.heap.size w W ∧ (∃ a0 : Int, W.heap[Bat]? = some (.cells #[.int .i64 a0] 3 (0, 0))) ∧ LB W ∧ ∀ j, j < i → j % 2 = 0 → ∀ v, vs[j]? = some v → c v = false)
    (fun i W => Below w.heap.size w W ∧ W.heap[Bat]? = some (.cells #[.int .i64 i] 3 (0, 0)) ∧ FirstAt vs c i)
    (fun i => (vs.getD i ⟨0, 0⟩).k) (fun i => (vs.getD i ⟨0, 0⟩).n) W ⟨hB, ⟨0, g1⟩, g2, by omega⟩
    (fun i w' w'' ⟨r1, ⟨a0, r2⟩, r3, r4⟩ hB' => ⟨r1.trans (hB'.mono r1.size), ⟨a0, (hB'.block _ (Array.getElem?_eq_some_iff.1 r2).1).trans r2⟩, LBb _ _ r3 hB', r4⟩)
    (fun i w' hi ⟨r1, ⟨a0, r2⟩, r3, r4⟩ => by
      exact (r.value (h.below r1) (hget i hi) (by omega)).mono (fun e w'' ⟨h1, hB'⟩ => ⟨h1, ⟨r1.trans (hB'.mono r1.size), ⟨a0, (hB'.block _ (Array.getElem?_eq_some_iff.1 r2).1).trans r2⟩, LBb _ _ r3 hB', r4⟩, KeepT.below hB'⟩))
    (fun i w' hi ⟨r1, ⟨a0, r2⟩, r3, r4⟩ => by
      obtain ⟨s1, s2, s3⟩ := key_setG (i := i) (k' := (vs.getD i ⟨0, 0⟩).k) (n' := (vs.getD i ⟨0, 0⟩).n) r1 hat r2
      have s4 := LBs _ _ (.int .i64 i) (LBb _ _ r3 (below1 w' (.cells #[.int .u8 (vs.getD i ⟨0, 0⟩).k, .int .i64 (vs.getD i ⟨0, 0⟩).n] 29))) (alloc_keeps r2 _)
      rcases Nat.mod_two_eq_zero_or_one i with hp | hp
      · refine (E i _ w' _ hp (hget i hi) r1 r2 r3).mono ?_
        rintro e w'' ⟨rfl, hB'⟩
        have hlt : Bat < w'.heap.size + 1 := by have := (Array.getElem?_eq_some_iff.1 r2).1; omega
        have hsz : ((w'.alloc (.cells #[.int .u8 (vs.getD i ⟨0, 0⟩).k, .int .i64 (vs.getD i ⟨0, 0⟩).n] 29)).setCell ⟨Bat, 0, none⟩ (.int .i64 i)).heap.size = w'.heap.size + 1 := by simp [World.setCell]
        have t1 := s1.trans (hB'.mono (by have := r1.size; omega))
        have t3 := (hB'.block Bat hlt).trans s3
        have t4 := LBb _ _ s4 (by rw [hsz]; exact hB')
        have t2 := s2.trans (KeepT.below (by rw [hsz]; exact hB'))
        by_cases hc : c (vs.getD i ⟨0, 0⟩) = true
        · exact ⟨.inr ⟨by rw [hc]; rfl, t1, t3, hp, ⟨_, hget i hi, hc⟩, r4⟩, t2⟩
        · have hc' : c (vs.getD i ⟨0, 0⟩) = false := by simpa using hc
          refine ⟨.inl ⟨by rw [hc']; rfl, t1, ⟨i, t3⟩, t4, ?_⟩, t2⟩
          intro j hj hj2 v hv
          rcases Nat.lt_succ_iff_lt_or_eq.1 hj with hj | rfl
          · exact r4 j hj hj2 v hv
          · rw [hget j hi] at hv; cases hv; exact hc'
      · refine (keyAt1_odd i 0 (vs.getD i ⟨0, 0⟩).k 0 (vs.getD i ⟨0, 0⟩).n hp (by omega) w' r2).mono ?_
        rintro e w'' ⟨rfl, rfl⟩
        refine ⟨.inl ⟨rfl, s1, ⟨i, s3⟩, s4, ?_⟩, s2⟩
        intro j hj hj2 v hv
        rcases Nat.lt_succ_iff_lt_or_eq.1 hj with hj | rfl
        · exact r4 j hj hj2 v hv
        · omega)).mono ?_
  rintro e w' ⟨⟨he, r1, r2, r3, r4⟩ | ⟨i, hi, he, r1, r2, r3⟩, _⟩
  · exact ⟨.inl ⟨he, fun j hj2 v hv => r4 j (List.getElem?_eq_some_iff.1 hv).1 hj2 v hv, r2⟩, r1⟩
  · exact ⟨.inr ⟨i, he, r3, r2⟩, r1⟩

/-- What keyAt answers. -/
def KeyAns (vs : List Vl) (c : Vl → Bool) (e : Ending) : Prop := (∃ i : Nat, FirstAt vs c i ∧ e = .returned (.tuple #[.int .i64 i, .bool true])) ∨ (NoneAt vs c ∧ ∃ i : Int, e = .returned (.tuple #[.int .i64 i, .bool false]))

set_option maxRecDepth 20000 in
set_option maxHeartbeats 1000000 in
/-- .. of a key that is no text, and not nil. -/
theorem Rw.keyAt_plain {at_ kind room inn : Nat} {vs : List Vl} (r : Rw M at_ kind vs room inn) (h : Hp n₀ bh b vw vb w lim used M) (hl : vs.length ≤ 131072) (key : Vl) (hk : key.k ≠ 3) (hk0 : key.k ≠ 0) :
    Calls Tryz.prog 58 #[mem bh, .agg #[.int .i64 vs.length, .int .i64 room, .int .i64 inn, .int .i64 0], .agg #[.int .u8 key.k, .int .i64 key.n]] w fun e w' => KeyAns vs (fun v => decide (key.k = v.k ∧ key.n = v.n)) e ∧ Below w.heap.size w w' := by
  have H1 := fun w => like_plain (bh := bh) key.k key.n hk hk0 w
  have HE := fun (Bat Bs Ba : Nat) (hat : w.heap.size ≤ Bat) => each_keyG r h hl (fun v => decide (key.k = v.k ∧ key.n = v.n)) (Bat := Bat) (Bs := Bs) hat (fun W => LikeBox W Bs Ba key.k key.n) (fun w' w'' h1 hB => h1.below hB) (fun w' cur v h1 g => h1.set g v)
    (fun i v w' a0 hp hv hB g1 g2 => keyAt1_even i key.k v.k key.n v.n hp (by have := (List.getElem?_eq_some_iff.1 hv).1; omega) w' g1 g2)
  unfold mem at H1 HE ⊢
  clear r
  go_enter Tryz.func58, Tryz.ntmps58
  go_wp2_with (first
    | (go_at_call 98; refine (H1 _).mono ?_; clear H1; rintro e w1 ⟨Ba, hBa, rfl, gBa, hB1⟩; obtain ⟨m1, m2, m3, hBz⟩ := later3o hB1
       have k1 := alloc_keeps (alloc_keeps m1 (.cells #[.func (.func 121) #[] #[.pointer (some ⟨Ba, 0, none⟩)]] 63)) (.cells #[.int .i64 0] 3)
       have k2 := alloc_keeps (alloc_keeps m2 (.cells #[.func (.func 121) #[] #[.pointer (some ⟨Ba, 0, none⟩)]] 63)) (.cells #[.int .i64 0] 3)
       have c0 := cell_row1 k1; have ⟨⟨d0, d1, d2, d3⟩, _⟩ := cell_row4 k2)
    | (go_at_call 62; go_loud (have HX := HE (w1.heap.size + 1) w1.heap.size Ba (by have := hBz.size; omega) ((w1.alloc (.cells #[.func (.func 121) #[] #[.pointer (some ⟨Ba, 0, none⟩)]] 63)).alloc (.cells #[.int .i64 0] 3)) (hBz.trans ((below2' w1 _ _).mono hBz.size)) (heap_two w1 _ _) ⟨alloc_keeps (heap_alloc_new w1 _) _, alloc_keeps (alloc_keeps gBa _) _⟩)
       go_loud (refine HX.mono ?_); clear HX; rintro e w2 ⟨⟨rfl, r1, a0, r2⟩ | ⟨i, rfl, r1, r2⟩, hB2⟩ <;> have c9 := cell_row1 r2))
  · go_ret2
    exact ⟨.inr ⟨r1, a0, rfl⟩, hB2⟩
  · go_ret2
    exact ⟨.inl ⟨i, r1, rfl⟩, hB2⟩

/-- A value that is a text. -/
def IsTxt (M : List Ob) (T : Vl → Option ByteArray) (v : Vl) : Prop := v.k = 3 ∧ ∃ o ∈ M, (o.at_ : Int) = v.n ∧ ∃ n, TextOb o n ∧ T v = some (strW o.ws n)

theorem like_textM (h : Hp n₀ bh b vw vb w lim used M) {o : Ob} (ho : o ∈ M) {n : Nat} (ht : TextOb o n) (s : ByteArray) (hs : s = strW o.ws n) :
    Calls Tryz.prog 98 #[mem bh, .agg #[.int .u8 3, .int .i64 o.at_]] w fun e w' => ∃ Bm Bs, w.heap.size ≤ Bm ∧ w.heap.size ≤ Bs ∧ e = .returned (.func (.func 119) #[] #[.pointer (some ⟨Bm, 0, none⟩), .pointer (some ⟨Bs, 0, none⟩)]) ∧
      w'.heap[Bm]? = some (.cells #[.pointer (some ⟨bh, 0, none⟩)] 54 (0, 0)) ∧ w'.heap[Bs]? = some (.cells #[.string s] 9 (0, 0)) ∧ Below w.heap.size w w' := by
  obtain ⟨l, r, rfl⟩ := List.append_of_mem ho
  rw [hs]
  exact like_text h ht

/-- A likeness of a text, in a box. -/
structure LikeBoxT (w : World) (bh Bs Bm Bt : Nat) (s : ByteArray) : Prop where
  box : w.heap[Bs]? = some (.cells #[.func (.func 119) #[] #[.pointer (some ⟨Bm, 0, none⟩), .pointer (some ⟨Bt, 0, none⟩)]] 63 (0, 0))
  mem : w.heap[Bm]? = some (.cells #[.pointer (some ⟨bh, 0, none⟩)] 54 (0, 0))
  str : w.heap[Bt]? = some (.cells #[.string s] 9 (0, 0))

theorem LikeBoxT.below {bh Bs Bm Bt : Nat} {s : ByteArray} (h : LikeBoxT w bh Bs Bm Bt s) {w' : World} (hB : Below w.heap.size w w') : LikeBoxT w' bh Bs Bm Bt s :=
  ⟨(hB.block _ (Array.getElem?_eq_some_iff.1 h.box).1).trans h.box, (hB.block _ (Array.getElem?_eq_some_iff.1 h.mem).1).trans h.mem, (hB.block _ (Array.getElem?_eq_some_iff.1 h.str).1).trans h.str⟩

theorem LikeBoxT.set {bh Bs Bm Bt : Nat} {s : ByteArray} (h : LikeBoxT w bh Bs Bm Bt s) {Bat : Nat} {cur : Array Value} (g1 : w.heap[Bat]? = some (.cells cur 3 (0, 0))) (v : Value) : LikeBoxT (w.setCell ⟨Bat, 0, none⟩ v) bh Bs Bm Bt s :=
  ⟨(heap_setCell_other _ ⟨Bat, 0, none⟩ Bs _ (fun e => by have := h.box; simp only at e; rw [e, g1] at this; simp at this)).trans h.box, (heap_setCell_other _ ⟨Bat, 0, none⟩ Bm _ (fun e => by have := h.mem; simp only at e; rw [e, g1] at this; simp at this)).trans h.mem, (heap_setCell_other _ ⟨Bat, 0, none⟩ Bt _ (fun e => by have := h.str; simp only at e; rw [e, g1] at this; simp at this)).trans h.str⟩

theorem strW_eq {o : Ob} {n : Nat} {s : ByteArray} : (bytesW o.ws n = bts s) ↔ strW o.ws n = s := by
  constructor
  · intro h
    unfold strW
    rw [h, strOf_bts]
  · rintro rfl
    rw [bts_strW]

set_option maxRecDepth 20000 in
set_option maxHeartbeats 1000000 in
theorem keyT1_even {T : Vl → Option ByteArray} {v : Vl} (h : Hp n₀ bh b vw vb w lim used M) (hv : IsTxt M T v) (i : Nat) (s : ByteArray) (hi : i % 2 = 0) (hi2 : i ≤ 1048576) {Bat Bs Bm Bt : Nat} {a0 : Value} (g1 : w.heap[Bat]? = some (.cells #[a0] 3 (0, 0))) (g2 : LikeBoxT w bh Bs Bm Bt s) :
    Calls Tryz.prog 99 #[.int .i64 i, .agg #[.int .u8 v.k, .int .i64 v.n], .pointer (some ⟨Bat, 0, none⟩), .pointer (some ⟨Bs, 0, none⟩)] w fun e w' => e = .returned (.bool (!decide (T v = some s))) ∧ Below (w.heap.size + 1) ((w.alloc (.cells #[.int .u8 v.k, .int .i64 v.n] 29)).setCell ⟨Bat, 0, none⟩ (.int .i64 i)) w' := by
  obtain ⟨vk, vn⟩ := v
  obtain ⟨hk, o, ho, hat, n, ht, hTv⟩ := hv
  simp only at hk hat
  subst hk hat
  have k1 := alloc_keeps g1 (.cells #[.int .u8 (3 : Nat), .int .i64 o.at_] 29)
  have c1 := cell_row1 k1
  have f1 := frozen_of_row _ Bat 0 _ _ k1
  have g3 := (g2.below (below1 w (.cells #[.int .u8 (3 : Nat), .int .i64 o.at_] 29))).set k1 (.int .i64 i)
  have c3 := cell_row1 g3.box
  have hw := heap_alloc_new w (.cells #[.int .u8 (3 : Nat), .int .i64 o.at_] 29)
  have hBat : w.heap.size ≠ Bat := fun e => by have := (Array.getElem?_eq_some_iff.1 g1).1; omega
  have ⟨c4, c5⟩ := cell_row2 ((heap_setCell_other _ ⟨Bat, 0, none⟩ w.heap.size (.int .i64 i) hBat).trans hw)
  obtain ⟨l, r, hM⟩ := List.append_of_mem ho
  have hp : Hp n₀ bh b vw vb ((w.alloc (.cells #[.int .u8 (3 : Nat), .int .i64 o.at_] 29)).setCell ⟨Bat, 0, none⟩ (.int .i64 i)) lim used (l ++ o :: r) := by
    rw [← hM]
    have h1 := h.below (below1 w (.cells #[.int .u8 (3 : Nat), .int .i64 o.at_] 29))
    exact h1.kept (fun q hq => heap_setCell_other _ ⟨Bat, 0, none⟩ q _ (fun e => h1.other k1 (fun cur t e => by cases e; decide) (by have e' : q = Bat := e; rw [← e']; exact hq)))
  have H1 := like2_in hp ht s g3.mem g3.str
  have hm : ((i : Int) % 2 == 0) = true := by simp; omega
  have eT : (decide (T ⟨3, (o.at_ : Int)⟩ = some s)) = decide (bytesW o.ws n = bts s) := by
    rw [hTv]
    exact decide_eq_decide.2 ⟨fun e => strW_eq.2 (Option.some.inj e), fun e => by rw [strW_eq.1 e]⟩
  rw [eT]
  simp only [show ((3 : Nat) : Int) = 3 from rfl] at *
  clear eT hTv hM h g2
  go_enter Tryz.func99, Tryz.ntmps99
  go_wp2_with (first
    | (go_at_call 119; refine H1.mono ?_; clear H1; rintro e w2 ⟨rfl, hB2⟩))
  go_ret
  exact ⟨rfl, hB2.mono (by simp [World.setCell])⟩

set_option maxRecDepth 20000 in
set_option maxHeartbeats 1000000 in
/-- .. of a key that is a text, where all keys are. -/
theorem Rw.keyAt_text {at_ kind room inn : Nat} {vs : List Vl} (r : Rw M at_ kind vs room inn) (h : Hp n₀ bh b vw vb w lim used M) (hl : vs.length ≤ 131072) {o : Ob} (ho : o ∈ M) {n : Nat} (ht : TextOb o n) (T : Vl → Option ByteArray) (hT : ∀ j, j % 2 = 0 → ∀ v, vs[j]? = some v → IsTxt M T v) (s : ByteArray) (hs : s = strW o.ws n) :
    Calls Tryz.prog 58 #[mem bh, .agg #[.int .i64 vs.length, .int .i64 room, .int .i64 inn, .int .i64 0], .agg #[.int .u8 3, .int .i64 o.at_]] w fun e w' => KeyAns vs (fun v => decide (T v = some s)) e ∧ Below w.heap.size w w' := by
  have H1 := fun w' (hB : Below w.heap.size w w') => like_textM (h.below hB) ho ht s hs
  have HE := fun (Bat Bs Bm Bt : Nat) (hat : w.heap.size ≤ Bat) => each_keyG r h hl (fun v => decide (T v = some s)) (Bat := Bat) (Bs := Bs) hat (fun W => LikeBoxT W bh Bs Bm Bt s) (fun w' w'' h1 hB => h1.below hB) (fun w' cur v h1 g => h1.set g v)
    (fun i v w' a0 hp hv hB g1 g2 => keyT1_even (h.below hB) (hT i hp v hv) i s hp (by have := (List.getElem?_eq_some_iff.1 hv).1; omega) g1 g2)
  unfold mem at H1 HE ⊢
  clear r
  go_enter Tryz.func58, Tryz.ntmps58
  go_wp2_with (first
    | (go_at_call 98; refine (H1 _ (below3' _ _ _ _)).mono ?_; clear H1; rintro e w1 ⟨Bm, Bt, hBm, hBt, rfl, gBm, gBt, hB1⟩; obtain ⟨m1, m2, m3, hBz⟩ := later3o hB1
       have k1 := alloc_keeps (alloc_keeps m1 (.cells #[.func (.func 119) #[] #[.pointer (some ⟨Bm, 0, none⟩), .pointer (some ⟨Bt, 0, none⟩)]] 63)) (.cells #[.int .i64 0] 3)
       have k2 := alloc_keeps (alloc_keeps m2 (.cells #[.func (.func 119) #[] #[.pointer (some ⟨Bm, 0, none⟩), .pointer (some ⟨Bt, 0, none⟩)]] 63)) (.cells #[.int .i64 0] 3)
       have c0 := cell_row1 k1; have ⟨⟨d0, d1, d2, d3⟩, _⟩ := cell_row4 k2)
    | (go_at_call 62; go_loud (have HX := HE (w1.heap.size + 1) w1.heap.size Bm Bt (by have := hBz.size; omega) ((w1.alloc (.cells #[.func (.func 119) #[] #[.pointer (some ⟨Bm, 0, none⟩), .pointer (some ⟨Bt, 0, none⟩)]] 63)).alloc (.cells #[.int .i64 0] 3)) (hBz.trans ((below2' w1 _ _).mono hBz.size)) (heap_two w1 _ _) ⟨alloc_keeps (heap_alloc_new w1 _) _, alloc_keeps (alloc_keeps gBm _) _, alloc_keeps (alloc_keeps gBt _) _⟩)
       go_loud (refine HX.mono ?_); clear HX; rintro e w2 ⟨⟨rfl, r1, a0, r2⟩ | ⟨i, rfl, r1, r2⟩, hB2⟩ <;> have c9 := cell_row1 r2))
  · go_ret2
    exact ⟨.inr ⟨r1, a0, rfl⟩, hB2⟩
  · go_ret2
    exact ⟨.inl ⟨i, r1, rfl⟩, hB2⟩

end Go.Proofs.YtmahnedhnjlenaaGreat
