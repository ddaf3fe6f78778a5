/- A text that may be: textBody, find, take. -/
import Derived.Test.YtkombdkhodjckaaGreatObSaid
namespace Go.Proofs.YtkombdkhodjckaaGreat
set_option linter.unusedVariables false
set_option linter.unusedSimpArgs false
open Go.RowKit

variable {n₀ bh b lim used : Nat} {vw vb : Value} {w : World} {M : List Ob}

theorem infoBody : (Tryz.prog.info? 58).map (·.size) = some 4 := by kernel_rfl

theorem set4_row {W : World} {g : Nat} {a b c d x y z u : Value} {t : TypeId} (h : W.heap[g]? = some (.cells #[a, b, c, d] t (0, 0))) : ((((W.setCell ⟨g, 0, none⟩ x).setCell ⟨g, 1, none⟩ y).setCell ⟨g, 2, none⟩ z).setCell ⟨g, 3, none⟩ u).heap[g]? = some (.cells #[x, y, z, u] t (0, 0)) := by
  have h1 := heap_setCell_same W g 0 _ t x h
  have h2 := heap_setCell_same _ g 1 _ t y h1
  have h3 := heap_setCell_same _ g 2 _ t z h2
  have h4 := heap_setCell_same _ g 3 _ t u h3
  simpa using h4

theorem below_set4 {n : Nat} {w W : World} (h : Below n w W) {g : Nat} (hg : n ≤ g) (x y z u : Value) : Below n w ((((W.setCell ⟨g, 0, none⟩ x).setCell ⟨g, 1, none⟩ y).setCell ⟨g, 2, none⟩ z).setCell ⟨g, 3, none⟩ u) :=
  below_set (below_set (below_set (below_set h hg x) hg y) hg z) hg u

/-- An object that may be a text of so many bytes. -/
structure TextOb (o : Ob) (n : Nat) : Prop where
  kind : o.kind = 3
  word : o.ws.getD 0 0 = n
  most : n ≤ 4096
  size : o.ws.length = 1 + (n + 7) / 8

theorem TextOb.of (s : ByteArray) (hs : s.size ≤ 4096) (at_ : Nat) : TextOb ⟨at_, 3, textW (bts s)⟩ s.size :=
  ⟨rfl, by simp [textW, bts_len], hs, by simp only; rw [textW_len, bts_len]⟩

def bodyV (count room in_ first : Nat) : Value := .agg #[.int .i64 count, .int .i64 room, .int .i64 in_, .int .i64 first]

set_option maxRecDepth 20000 in
set_option maxHeartbeats 1000000 in
theorem textBody_in {l r : List Ob} {o : Ob} (h : Hp n₀ bh b vw vb w lim used (l ++ o :: r)) {n : Nat} (ht : TextOb o n) :
    Calls Tryz.prog 95 #[mem bh, .int .i64 o.at_] w fun e w' => e = .returned (.tuple #[.agg #[.int .i64 n, .int .i64 0, .int .i64 0, .int .i64 0], .bool true]) ∧ Below w.heap.size w w' := by
  have hn := ht.most
  have hb2 := below2' w (.cells #[.pointer (some ⟨bh, 0, none⟩)] 54) (.cells #[.int .i64 0, .int .i64 0, .int .i64 0, .int .i64 0] 58)
  have H1 := sizeM (h.below hb2)
  have H2 := oword_in (h.below hb2) 0
  rw [ht.word] at H2
  rw [ht.size] at H1
  have H3 := fun w => textSize_in n (by omega) w
  unfold mem at H2 ⊢
  have hn' : ¬ (4096 : Int) < (n : Int) := by omega
  go_enter Tryz.func95, Tryz.ntmps95
  go_wp2_with (first
    | (go_at_call 98; refine H1.mono ?_; clear H1; rintro e w' ⟨rfl, hw'⟩; obtain rfl := hw'.symm)
    | (go_at_call 89; refine H2.mono ?_; clear H2; rintro e w2 ⟨rfl, hB2⟩
       have m2 : w2.heap[w.heap.size + 1]? = some (.cells #[.int .i64 0, .int .i64 0, .int .i64 0, .int .i64 0] 58 (0, 0)) := (hB2.block _ (by simp)).trans (heap_two w _ _)
       have f0 := frozen_of_row w2 (w.heap.size + 1) 0 _ _ m2
       have f1 := frozen_of_row w2 (w.heap.size + 1) 1 _ _ m2
       have f2 := frozen_of_row w2 (w.heap.size + 1) 2 _ _ m2
       have f3 := frozen_of_row w2 (w.heap.size + 1) 3 _ _ m2
       have q0 : w2.cell? ⟨w.heap.size + 1, 0, none⟩ = some (.int .i64 0) := by rw [cell_of_row w2 (w.heap.size + 1) 0 _ _ _ m2]; rfl
       have q1 : w2.cell? ⟨w.heap.size + 1, 1, none⟩ = some (.int .i64 0) := by rw [cell_of_row w2 (w.heap.size + 1) 1 _ _ _ m2]; rfl
       have q2 : w2.cell? ⟨w.heap.size + 1, 2, none⟩ = some (.int .i64 0) := by rw [cell_of_row w2 (w.heap.size + 1) 2 _ _ _ m2]; rfl
       have q3 : w2.cell? ⟨w.heap.size + 1, 3, none⟩ = some (.int .i64 0) := by rw [cell_of_row w2 (w.heap.size + 1) 3 _ _ _ m2]; rfl
       have hBz := hb2.trans (hB2.mono hb2.size))
    | (go_at_call 86; refine (H3 _).mono ?_; clear H3; rintro e w' ⟨rfl, hw'⟩; obtain rfl := hw'.symm))
  refine bodyPost_ret (results_row_tmp (by rfl) _ _ (w.heap.size + 1) 58 #[.int .i64 n, .int .i64 0, .int .i64 0, .int .i64 0] (0, 0) _ (by rfl) (set4_row m2) Tryz.underlying58 (by rfl) infoBody) (by rfl) ?_
  exact ⟨rfl, below_set4 hBz (by omega) _ _ _ _⟩

end Go.Proofs.YtkombdkhodjckaaGreat

namespace Go.Proofs.YtkombdkhodjckaaGreat
set_option linter.unusedVariables false
set_option linter.unusedSimpArgs false
open Go.RowKit

variable {n₀ bh b lim used : Nat} {vw vb : Value} {w : World} {M : List Ob}

theorem below3' (w : World) (o1 o2 o3 : Obj) : Below w.heap.size w (((w.alloc o1).alloc o2).alloc o3) := (below2' w o1 o2).alloc (by simp; omega) _

theorem heap3_0 (w : World) (o1 o2 o3 : Obj) : (((w.alloc o1).alloc o2).alloc o3).heap[w.heap.size]? = some o1 := (Below.heap_alloc _ _ _ (by simp; omega)).trans ((Below.heap_alloc _ _ _ (by simp)).trans (heap_alloc_new w _))

theorem heap3_1 (w : World) (o1 o2 o3 : Obj) : (((w.alloc o1).alloc o2).alloc o3).heap[w.heap.size + 1]? = some o2 := (Below.heap_alloc _ _ _ (by simp)).trans (heap_two w o1 o2)

theorem heap3_2 (w : World) (o1 o2 o3 : Obj) : (((w.alloc o1).alloc o2).alloc o3).heap[w.heap.size + 1 + 1]? = some o3 := by
  have := heap_alloc_new ((w.alloc o1).alloc o2) o3
  simpa using this

theorem cell_row1 {W : World} {g : Nat} {a : Value} {t : TypeId} (h : W.heap[g]? = some (.cells #[a] t (0, 0))) : W.cell? ⟨g, 0, none⟩ = some a := by rw [cell_of_row W g 0 _ _ _ h]; rfl

theorem cell_row2 {W : World} {g : Nat} {a b : Value} {t : TypeId} (h : W.heap[g]? = some (.cells #[a, b] t (0, 0))) : W.cell? ⟨g, 0, none⟩ = some a ∧ W.cell? ⟨g, 1, none⟩ = some b :=
  ⟨by rw [cell_of_row W g 0 _ _ _ h]; rfl, by rw [cell_of_row W g 1 _ _ _ h]; rfl⟩

theorem cell_row4 {W : World} {g : Nat} {a b c d : Value} {t : TypeId} (h : W.heap[g]? = some (.cells #[a, b, c, d] t (0, 0))) :
    (W.cell? ⟨g, 0, none⟩ = some a ∧ W.cell? ⟨g, 1, none⟩ = some b ∧ W.cell? ⟨g, 2, none⟩ = some c ∧ W.cell? ⟨g, 3, none⟩ = some d) ∧ (W.frozen? ⟨g, 0, none⟩ = false ∧ W.frozen? ⟨g, 1, none⟩ = false ∧ W.frozen? ⟨g, 2, none⟩ = false ∧ W.frozen? ⟨g, 3, none⟩ = false) :=
  ⟨⟨by rw [cell_of_row W g 0 _ _ _ h]; rfl, by rw [cell_of_row W g 1 _ _ _ h]; rfl, by rw [cell_of_row W g 2 _ _ _ h]; rfl, by rw [cell_of_row W g 3 _ _ _ h]; rfl⟩, frozen_of_row W g 0 _ _ h, frozen_of_row W g 1 _ _ h, frozen_of_row W g 2 _ _ h, frozen_of_row W g 3 _ _ h⟩

/-- The three blocks at a call's start, later. -/
theorem later3 {w w1 : World} {a c d x y z u : Value} {t1 t2 t3 : TypeId} (hB : Below (((w.alloc (.cells #[a] t1)).alloc (.cells #[c, d] t2)).alloc (.cells #[x, y, z, u] t3)).heap.size (((w.alloc (.cells #[a] t1)).alloc (.cells #[c, d] t2)).alloc (.cells #[x, y, z, u] t3)) w1) :
    w1.cell? ⟨w.heap.size, 0, none⟩ = some a ∧ (w1.cell? ⟨w.heap.size + 1, 0, none⟩ = some c ∧ w1.cell? ⟨w.heap.size + 1, 1, none⟩ = some d) ∧ w1.heap[w.heap.size + 1 + 1]? = some (.cells #[x, y, z, u] t3 (0, 0)) ∧ Below w.heap.size w w1 :=
  ⟨cell_row1 ((hB.block _ (by simp; omega)).trans (heap3_0 w _ _ _)), cell_row2 ((hB.block _ (by simp)).trans (heap3_1 w _ _ _)), (hB.block _ (by simp)).trans (heap3_2 w _ _ _), (below3' w _ _ _).trans (hB.mono (below3' w _ _ _).size)⟩

set_option maxRecDepth 20000 in
set_option maxHeartbeats 1000000 in
theorem find_text {l r : List Ob} {o : Ob} (h : Hp n₀ bh b vw vb w lim used (l ++ o :: r)) {n : Nat} (ht : TextOb o n) :
    Calls Tryz.prog 57 #[mem bh, .agg #[.int .u8 3, .int .i64 o.at_]] w fun e w' => e = .returned (.tuple #[.agg #[.int .i64 n, .int .i64 0, .int .i64 0, .int .i64 0], .bool true]) ∧ Below w.heap.size w w' := by
  have hb3 := below3' w (.cells #[.pointer (some ⟨bh, 0, none⟩)] 54) (.cells #[.int .u8 3, .int .i64 o.at_] 29) (.cells #[.int .i64 0, .int .i64 0, .int .i64 0, .int .i64 0] 58)
  have H1 := oleads_in (h.below hb3) 3 (o.at_ : Int)
  have ed : decide (Leads (l ++ o :: r) 3 (o.at_ : Int)) = true := by
    simp only [decide_eq_true_eq]
    exact ⟨by omega, by omega, o, by simp, rfl, ht.kind⟩
  rw [ed] at H1
  have H2 := fun w' (hB : Below w.heap.size w w') => textBody_in (h.below hB) ht
  unfold mem at H1 H2 ⊢
  clear ed
  go_enter Tryz.func57, Tryz.ntmps57
  go_wp2_with (first
    | (go_at_call 64; go_loud (refine H1.mono ?_; clear H1; rintro e w1 ⟨rfl, hB1⟩; obtain ⟨c0, ⟨c1, c2⟩, m2, hBz⟩ := later3 hB1))
    | (go_at_call 95; refine (H2 _ hBz).mono ?_; clear H2; rintro e w2 ⟨rfl, hB2⟩; have m3 := (hB2.block _ (Array.getElem?_eq_some_iff.1 m2).1).trans m2; obtain ⟨⟨q0, q1, q2, q3⟩, f0, f1, f2, f3⟩ := cell_row4 m3; have hBy := hBz.trans (hB2.mono hBz.size)))
  refine bodyPost_ret (results_row_tmp (by rfl) _ _ (w.heap.size + 1 + 1) 58 #[.int .i64 n, .int .i64 0, .int .i64 0, .int .i64 0] (0, 0) _ (by rfl) (set4_row m3) Tryz.underlying58 (by rfl) infoBody) (by rfl) ?_
  exact ⟨rfl, below_set4 hBy (by omega) _ _ _ _⟩

/-- Kinds in memory: a slice's. -/
def Kinds (w : World) (p : Option Addr) (ks : List Nat) : Prop := ∀ (j k : Nat), ks[j]? = some k → ∃ b0 off : Nat, p = some ⟨b0, off, none⟩ ∧ w.cell? ⟨b0, off + j, none⟩ = some (.int .u8 k)

theorem Kinds.below {p : Option Addr} {ks : List Nat} (h : Kinds w p ks) {w' : World} (hB : Below w.heap.size w w') : Kinds w' p ks := by
  intro j k hj
  obtain ⟨b0, off, e, h1⟩ := h j k hj
  exact ⟨b0, off, e, (hB.cell (p := ⟨b0, off + j, none⟩) (World.block_lt_of_cell? w _ h1)).trans h1⟩

def idxK (k : Nat) : List Nat → Int
  | [] => -1
  | x :: r => if k = x then 0 else (match idxK k r with | -1 => -1 | i => i + 1)

set_option maxRecDepth 20000 in
set_option maxHeartbeats 1000000 in
theorem index_yes {p : Option Addr} {ks : List Nat} (c : Nat) (hk : Kinds w p ks) (hl : ks.length ≤ 10) (k : Nat) (hm : k ∈ ks) :
    Calls Tryz.prog 94 #[.slice p ks.length c, .int .u8 k] w fun e w' => ∃ i : Nat, e = .returned (.int .i64 i) ∧ w' = w := by
  go_enter Tryz.func94, Tryz.ntmps94
  go_wp2
  go_loop [8] (fun t => ∃ (pre rest : List Nat), ks = pre ++ rest ∧ t = .int .i64 pre.length ∧ k ∉ pre) (fun t => ks.length - (intOf t).toNat)
  case atStart => exact ⟨[], ks, rfl, rfl, by simp⟩
  case round =>
    obtain ⟨pre, rest, hR, rfl, hnp⟩ := hrel
    cases rest with
    | nil =>
      have hR' : ks = pre := by simpa using hR
      exact (hnp (hR' ▸ hm)).elim
    | cons x rest =>
      have hlR : (pre.length : Int) < (ks.length : Int) := by rw [hR]; simp; omega
      have hlen : pre.length ≤ 10 := by have := congrArg List.length hR; simp at this; omega
      obtain ⟨b0, off, rfl, c0⟩ := hk pre.length x (by rw [hR]; simp)
      have e1 : (((pre ++ [x]).length : Nat) : Int) = pre.length + 1 := by simp
      have HR : Hid _ := hR
      clear hR
      by_cases hx : k = x
      · have hxb : ((k : Int) == (x : Int)) = true := by simp; omega
        clear hx
        go_wp2
        go_ret
        first | exact ⟨pre.length, rfl, rfl⟩ | exact ⟨⟨pre.length, rfl⟩, rfl⟩ | exact ⟨pre.length, rfl⟩ | trace_state
      · have hxb : ((k : Int) == (x : Int)) = false := by simp; omega
        go_wp2
        go_round
        case rel => exact ⟨pre ++ [x], rest, by rw [HR.out]; simp, by rw [e1], by simp [hnp, hx]⟩
        case measure => simp [intOf]; omega

set_option maxHeartbeats 400000 in
theorem contains_yes {p : Option Addr} {ks : List Nat} (c : Nat) (hk : Kinds w p ks) (hl : ks.length ≤ 10) (k : Nat) (hm : k ∈ ks) :
    Calls Tryz.prog 56 #[.slice p ks.length c, .int .u8 k] w fun e w' => e = .returned (.bool true) ∧ w' = w := by
  have H1 := index_yes c hk hl k hm
  go_enter Tryz.func56, Tryz.ntmps56
  go_wp2_with (first
    | (go_at_call 94; refine H1.mono ?_; clear H1; rintro e w' ⟨i, rfl, hw'⟩; obtain rfl := hw'.symm; have hi : (0 : Int) ≤ (i : Int) := by omega))
  go_ret
  exact ⟨rfl, rfl⟩

set_option maxRecDepth 20000 in
set_option maxHeartbeats 1000000 in
theorem take_text {l r : List Ob} {o : Ob} (h : Hp n₀ bh b vw vb w lim used (l ++ o :: r)) (hl1 : 1 ≤ lim) {n : Nat} (ht : TextOb o n) {p : Option Addr} {ks : List Nat} (c : Nat) (hk : Kinds w p ks) (hl : ks.length ≤ 10) (hm : 3 ∈ ks) :
    Calls Tryz.prog 22 #[mem bh, .agg #[.int .u8 3, .int .i64 o.at_], .slice p ks.length c] w fun e w' => e = .returned (.tuple #[.agg #[.int .i64 n, .int .i64 0, .int .i64 0, .int .i64 0], .int .i64 0]) ∧ Below w.heap.size w w' := by
  have hb3 := below3' w (.cells #[.pointer (some ⟨bh, 0, none⟩)] 54) (.cells #[.int .u8 3, .int .i64 o.at_] 29) (.cells #[.int .i64 0, .int .i64 0, .int .i64 0, .int .i64 0] 58)
  have H1 := othere_in (h.below hb3) hl1
  have H2 := fun w' (hB : Below w.heap.size w w') => contains_yes c (hk.below hB) hl 3 hm
  have H3 := fun w' (hB : Below w.heap.size w w') => find_text (h.below hB) ht
  unfold mem at H1 H3 ⊢
  go_enter Tryz.func22, Tryz.ntmps22
  go_wp2_with (first
    | (go_at_call 19; refine H1.mono ?_; clear H1; rintro e w1 ⟨rfl, hB1⟩; obtain ⟨c0, ⟨c1, c2⟩, m2, hBz⟩ := later3 hB1)
    | (go_at_call 56; refine (H2 _ hBz).mono ?_; clear H2; rintro e w' ⟨rfl, hw'⟩; obtain rfl := hw'.symm)
    | (go_at_call 57; refine (H3 _ hBz).mono ?_; clear H3; rintro e w2 ⟨rfl, hB2⟩; have m3 := (hB2.block _ (Array.getElem?_eq_some_iff.1 m2).1).trans m2; have m4 := (Below.heap_alloc w2 (.cells #[.int .i64 n, .int .i64 0, .int .i64 0, .int .i64 0] 58) _ (Array.getElem?_eq_some_iff.1 m3).1).trans m3; obtain ⟨⟨q0, q1, q2, q3⟩, f0, f1, f2, f3⟩ := cell_row4 m4; have hBy := (hBz.trans (hB2.mono hBz.size)).alloc (hBz.trans (hB2.mono hBz.size)).size (.cells #[.int .i64 n, .int .i64 0, .int .i64 0, .int .i64 0] 58)))
  refine bodyPost_ret (results_row_tmp (by rfl) _ _ (w.heap.size + 1 + 1) 58 #[.int .i64 n, .int .i64 0, .int .i64 0, .int .i64 0] (0, 0) _ (by rfl) (set4_row m4) Tryz.underlying58 (by rfl) infoBody) (by rfl) ?_
  exact ⟨rfl, below_set4 hBy (by omega) _ _ _ _⟩

end Go.Proofs.YtkombdkhodjckaaGreat
