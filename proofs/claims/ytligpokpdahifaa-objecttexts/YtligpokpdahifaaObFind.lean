/- A text that may be: textBody, find, take. -/
import Derived.Test.YtligpokpdahifaaObSaid
namespace Go.Proofs.Ytligpokpdahifaa
set_option linter.unusedVariables false
set_option linter.unusedSimpArgs false
open Go.RowKit

variable {n₀ bh b lim used : Nat} {vw vb : Value} {w : World} {M : List Ob}

theorem infoBody : (Try.prog.info? 61).map (·.size) = some 4 := by kernel_rfl

theorem set4_row {W : World} {g : Nat} {a b c d x y z u : Value} {t : TypeId} (h : W.heap[g]? = some (.cells #[a, b, c, d] t (0, 0))) : ((((W.setCell ⟨g, 0, none⟩ x).setCell ⟨g, 1, none⟩ y).setCell ⟨g, 2, none⟩ z).setCell ⟨g, 3, none⟩ u).heap[g]? = some (.cells #[x, y, z, u] t (0, 0)) := by
  have h1 := heap_setCell_same W g 0 _ t x h
  have h2 := heap_setCell_same _ g 1 _ t y h1
  have h3 := heap_setCell_same _ g 2 _ t z h2
  have h4 := heap_setCell_same _ g 3 _ t u h3
  simpa using h4

theorem below_set4 {n : Nat} {w W : World} (h : Below n w W) {g : Nat} (hg : n ≤ g) (x y z u : Value) : Below n w ((((W.setCell ⟨g, 0, none⟩ x).setCell ⟨g, 1, none⟩ y).setCell ⟨g, 2, none⟩ z).setCell ⟨g, 3, none⟩ u) :=
  below_set (below_set (below_set (below_set h hg x) hg y) hg z) hg u

/-- An object that may be a text of so many bytes. -/
structure TextOb (o : Ob) (n : Nat) : Prop where
  kind : o.kind = 3
  word : o.ws.getD 0 0 = n
  most : n ≤ 4096
  size : o.ws.length = 1 + (n + 7) / 8

theorem TextOb.of (s : ByteArray) (hs : s.size ≤ 4096) (at_ : Nat) : TextOb ⟨at_, 3, textW (bts s)⟩ s.size :=
  ⟨rfl, by simp [textW, bts_len], hs, by simp only; rw [textW_len, bts_len]⟩

def bodyV (count room in_ first : Nat) : Value := .agg #[.int .i64 count, .int .i64 room, .int .i64 in_, .int .i64 first]

set_option maxRecDepth 20000 in
set_option maxHeartbeats 1000000 in
theorem textBody_in {l r : List Ob} {o : Ob} (h : Hp n₀ bh b vw vb w lim used (l ++ o :: r)) {n : Nat} (ht : TextOb o n) :
    Calls Try.prog 69 #[mem bh, .int .i64 o.at_] w fun e w' => e = .returned (.tuple #[.agg #[.int .i64 n, .int .i64 0, .int .i64 0, .int .i64 0], .bool true]) ∧ Below w.heap.size w w' := by
  have hn := ht.most
  have hb2 := below2' w (.cells #[.pointer (some ⟨bh, 0, none⟩)] 55) (.cells #[.int .i64 0, .int .i64 0, .int .i64 0, .int .i64 0] 61)
  have H1 := sizeM (h.below hb2)
  have H2 := oword_in (h.below hb2) 0
  rw [ht.word] at H2
  rw [ht.size] at H1
  have H3 := fun w => textSize_in n (by omega) w
  unfold mem at H2 ⊢
  have hn' : ¬ (4096 : Int) < (n : Int) := by omega
  go_enter Try.func69, Try.ntmps69
  go_wp2_with (first
    | (go_at_call 72; refine H1.mono ?_; clear H1; rintro e w' ⟨rfl, hw'⟩; obtain rfl := hw'.symm)
    | (go_at_call 46; refine H2.mono ?_; clear H2; rintro e w2 ⟨rfl, hB2⟩
       have m2 : w2.heap[w.heap.size + 1]? = some (.cells #[.int .i64 0, .int .i64 0, .int .i64 0, .int .i64 0] 61 (0, 0)) := (hB2.block _ (by simp)).trans (heap_two w _ _)
       have f0 := frozen_of_row w2 (w.heap.size + 1) 0 _ _ m2
       have f1 := frozen_of_row w2 (w.heap.size + 1) 1 _ _ m2
       have f2 := frozen_of_row w2 (w.heap.size + 1) 2 _ _ m2
       have f3 := frozen_of_row w2 (w.heap.size + 1) 3 _ _ m2
       have q0 : w2.cell? ⟨w.heap.size + 1, 0, none⟩ = some (.int .i64 0) := by rw [cell_of_row w2 (w.heap.size + 1) 0 _ _ _ m2]; rfl
       have q1 : w2.cell? ⟨w.heap.size + 1, 1, none⟩ = some (.int .i64 0) := by rw [cell_of_row w2 (w.heap.size + 1) 1 _ _ _ m2]; rfl
       have q2 : w2.cell? ⟨w.heap.size + 1, 2, none⟩ = some (.int .i64 0) := by rw [cell_of_row w2 (w.heap.size + 1) 2 _ _ _ m2]; rfl
       have q3 : w2.cell? ⟨w.heap.size + 1, 3, none⟩ = some (.int .i64 0) := by rw [cell_of_row w2 (w.heap.size + 1) 3 _ _ _ m2]; rfl
       have hBz := hb2.trans (hB2.mono hb2.size))
    | (go_at_call 41; refine (H3 _).mono ?_; clear H3; rintro e w' ⟨rfl, hw'⟩; obtain rfl := hw'.symm))
  refine bodyPost_ret (results_row_tmp (by rfl) _ _ (w.heap.size + 1) 61 #[.int .i64 n, .int .i64 0, .int .i64 0, .int .i64 0] (0, 0) _ (by rfl) (set4_row m2) Try.underlying61 (by rfl) infoBody) (by rfl) ?_
  exact ⟨rfl, below_set4 hBz (by omega) _ _ _ _⟩

end Go.Proofs.Ytligpokpdahifaa
