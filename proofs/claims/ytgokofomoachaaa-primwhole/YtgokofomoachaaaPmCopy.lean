/- Clones: of values, of objects; renewed, copyOf. -/
import Derived.Test.YtgokofomoachaaaPmMem
import Derived.Test.YtgokofomoachaaaShelf
import Derived.Lib.LazyBuf
namespace Go.Proofs.Ytgokofomoachaaa
set_option linter.unusedVariables false
set_option linter.unusedSimpArgs false
open Go.RowKit

variable {w : World}

theorem eqlNilV (w : World) (a : Option Addr) (l c : Nat) : (binOp .eql 37 (.slice a l c) (.slice none 0 0)).run Try.prog w = .ok (.bool a.isNone) w := run_eql_slice_nil w _ _ a l c Try.underlying37

theorem eqlNilS (w : World) (a : Option Addr) (l c : Nat) : (binOp .eql 23 (.slice a l c) (.slice none 0 0)).run Try.prog w = .ok (.bool a.isNone) w := run_eql_slice_nil w _ _ a l c Try.underlying23

/-- A slice of no length is still a row. -/
theorem ownsRow_empty (w : World) (base e s : Nat) (hb : base ≤ w.heap.size) : (w.alloc (.cells #[] e)).ownsRow base e s (.slice (some ⟨w.heap.size, 0, none⟩) 0 0) 0 [] :=
  ⟨by simp, .inr ⟨w.heap.size, 0, #[], rfl, hb, heap_alloc_new w _, Nat.le_refl _, by unfold maxLen; omega, by simp, by simp⟩⟩

theorem Vals.nil {p : Option Addr} {vs : List Vl} (hv : Vals w p vs) (h : p = none) : vs = [] := by
  cases vs with
  | nil => rfl
  | cons u r =>
    obtain ⟨b0, off, e, _⟩ := hv 0 u (by simp)
    rw [h] at e; cases e

set_option maxRecDepth 20000 in
set_option maxHeartbeats 1000000 in
theorem cloneV_in {p : Option Addr} {vs : List Vl} (c : Nat) (hv : Vals w p vs) (hlen : vs.length ≤ 1000000) :
    Calls Try.prog 49 #[.slice p vs.length c] w fun e w' => ∃ v, e = .returned v ∧ w'.ownsRow w.heap.size 26 2 v vs.length (vcells vs) ∧ Below w.heap.size w w' := by
  cases p with
  | none =>
    have hz := hv.nil rfl
    subst hz
    have hnil := fun w => eqlNilV w none 0 c
    simp only [Option.isNone_none] at hnil
    clear hv hlen
    go_enter Try.func49, Try.ntmps49
    go_wp2
    go_ret
    exact ⟨_, rfl, World.ownsRow_nil _ _ _ _, Below.refl _ _⟩
  | some ad =>
    have hl : (vcells vs).length = vs.length * 2 := vcells_len vs
    have hn : ∀ (w' : World), Below w.heap.size w w' → ∀ j u, (vcells vs)[j]? = some u → w'.cell? (ad.add j) = some u := by
      intro w' hB j u hj
      obtain ⟨i, y, hy, hu⟩ := vcells_at vs j u hj
      obtain ⟨b0, off, e, h1, h2⟩ := (hv.below hB) i y hy
      cases e
      rcases hu with ⟨rfl, rfl⟩ | ⟨rfl, rfl⟩
      · rw [Addr.add_lit]; exact h1
      · rw [Addr.add_lit, ← Nat.add_assoc]; exact h2
    obtain ⟨i0, hi, hz0, hz1, hz2⟩ := info_parts infoV
    have hnil := fun w => eqlNilV w (some ad) vs.length c
    simp only [Option.isNone_some] at hnil
    go_enter Try.func49, Try.ntmps49
    go_wp2_with (first
      | (at_builtin; refine wpList_append_own _ rfl _ _ 37 rfl w.heap.size 26 i0 (.agg #[.int .u8 0, .int .i64 0]) 2 16 Try.underlying37 hi hz0 hz1 hz2 rfl (by decide) _ 0 [] rfl (ownsRow_empty w _ _ _ (Nat.le_refl _)) ad vs.length c (vcells vs) rfl hl (hn _ (below1 _ _)) (vcells_one vs) (by unfold maxLen; omega) (by omega) (by simp) ?_; intro v4 w4 hown4 hgrow4 _))
    go_ret
    refine ⟨v4, rfl, ?_, (below1 w _).trans (rbelow_grown hgrow4 (fun q e => by cases e; exact Nat.le_refl _) (by simp))⟩
    simpa using hown4

set_option maxRecDepth 20000 in
set_option maxHeartbeats 1000000 in
theorem cloneS_in {p : Option Addr} {ts : List Po} (c : Nat) (hc : ∀ j u, (pcells ts)[j]? = some u → ∃ b0 off, p = some ⟨b0, off, none⟩ ∧ w.cell? ⟨b0, off + j, none⟩ = some u) (hsl : ∀ x ∈ ts, x.sl) (hlen : ts.length ≤ 1048576) :
    Calls Try.prog 47 #[.slice p ts.length c] w fun e w' => ∃ v, e = .returned v ∧ w'.ownsRow w.heap.size 39 5 v ts.length (pcells ts) ∧ Below w.heap.size w w' := by
  cases p with
  | none =>
    have hz : ts = [] := by
      cases ts with
      | nil => rfl
      | cons x r => obtain ⟨b0, off, e, -⟩ := hc 0 (.int .u8 x.o.k) (by simp [pcells, pcell]); cases e
    subst hz
    have hnil := fun w => eqlNilS w none 0 c
    simp only [Option.isNone_none] at hnil
    clear hc hlen hsl
    go_enter Try.func47, Try.ntmps47
    go_wp2
    go_ret
    exact ⟨_, rfl, World.ownsRow_nil _ _ _ _, Below.refl _ _⟩
  | some ad =>
    have hl : (pcells ts).length = ts.length * 5 := pcells_len ts
    have hn : ∀ (w' : World), Below w.heap.size w w' → ∀ j u, (pcells ts)[j]? = some u → w'.cell? (ad.add j) = some u := by
      intro w' hB j u hj
      obtain ⟨b0, off, e, h1⟩ := hc j u hj
      cases e
      rw [Addr.add_lit]
      exact (hB.cell (p := ⟨b0, off + j, none⟩) (World.block_lt_of_cell? w _ h1)).trans h1
    obtain ⟨i0, hi, hz0, hz1, hz2⟩ := info_parts infoO5
    have hnil := fun w => eqlNilS w (some ad) ts.length c
    simp only [Option.isNone_some] at hnil
    have hone := pcells_one hsl
    clear hc hsl
    go_enter Try.func47, Try.ntmps47
    go_wp2_with (first
      | (at_builtin; refine wpList_append_own _ rfl _ _ 23 rfl w.heap.size 39 i0 (.agg #[.int .u8 0, .string ⟨#[]⟩, .slice none 0 0, .int .i64 0, .int .i64 0]) 5 64 Try.underlying23 hi hz0 hz1 hz2 rfl (by decide) _ 0 [] rfl (ownsRow_empty w _ _ _ (Nat.le_refl _)) ad ts.length c (pcells ts) rfl hl (hn _ (below1 _ _)) hone (by unfold maxLen; omega) (by omega) (by simp) ?_; intro v4 w4 hown4 hgrow4 _))
    go_ret
    refine ⟨v4, rfl, ?_, (below1 w _).trans (rbelow_grown hgrow4 (fun q e => by cases e; exact Nat.le_refl _) (by simp))⟩
    simpa using hown4

theorem clone_in (s : ByteArray) (hs : s.size ≤ 1048576) (w : World) : Calls Try.prog 48 #[.string s] w fun e w' => e = .returned (.string s) ∧ Below w.heap.size w w' := by
  have H := Try.stringslite_Clone s w (by omega)
  go_enter Try.func48, Try.ntmps48
  go_wp2_with (first
    | (go_at_call 64; refine H.mono ?_; clear H; rintro e w1 ⟨rfl, hB⟩))
  go_ret
  exact ⟨rfl, hB⟩

end Go.Proofs.Ytgokofomoachaaa
