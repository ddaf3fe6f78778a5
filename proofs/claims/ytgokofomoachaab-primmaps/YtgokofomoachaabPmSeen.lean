/- PrimMaps: the law's own map; a slice of int8. -/
import Derived.Test.YtgokofomoachaabPmMapOps
import Derived.Maps.Views
namespace Go.Proofs.Ytgokofomoachaab
set_option linter.unusedVariables false
set_option linter.unusedSimpArgs false
open Go.RowKit Go.Maps

variable {w : World}

/-- A store of one map. -/
def sM (m : List (Int × Int)) (r : Int) : List Om := [mapO m r]

theorem mPut_in {p : Option Addr} {m : List (Int × Int)} {r : Int} (h : MapOk m r) (hs : IsSt w p (sM m r)) (c : Nat) (x y n : Int) (hn : putPairP [mapO m r] 0 (mapO m r) ⟨2, x⟩ ⟨2, y⟩ (midx m x) = ⟨[mapO (mput m x y) (mroom m r x)], ⟨0, 0⟩, ⟨#[]⟩, n⟩) :
    Calls Try.prog 6 #[.slice p (sM m r).length c, .agg #[.int .u8 5, .int .i64 1], .agg #[.int .u8 2, .int .i64 x], .agg #[.int .u8 2, .int .i64 y]] w (DidR w (sM (mput m x y) (mroom m r x)) ⟨0, 0⟩ ⟨#[]⟩ n) := by
  have := Put_in (h.ask hs) c ⟨5, 1⟩ ⟨2, x⟩ ⟨2, y⟩ (putPairP [mapO m r] 0 (mapO m r) ⟨2, x⟩ ⟨2, y⟩ (midx m x)) (.inr ⟨may_map h [x, y], 0, mapO m r, midx m x, fun _ => ⟨map_lead m r, by simp⟩, fun _ => keyAt_ints _ m x, by simp [putP]⟩)
  rw [hn] at this
  exact this

theorem lawI8 : Keyed Try.prog 35 := int_keyed Try.underlying35

theorem wfI8 {x : Int} (h : -128 ≤ x ∧ x ≤ 127) : (Lit.int .i8 x).wf = true := by
  simp only [Lit.wf, IntKind.min, IntKind.max, IntKind.signed, IntKind.bits, Bool.and_eq_true, decide_eq_true_eq, if_true]
  omega

/-- The law's own map holds these pairs. -/
def IsSeen (w : World) (bM n : Nat) (m : List (Int × Int)) : Prop :=
  ∃ D : DataW Unit, w.ownsMap Try.prog 35 (plainElem Try.prog 3) bM n D ∧ Tidy D ∧ Maps.size D = m.length ∧ (∀ x : Int, D.atKey (.int .i8 x) (.lit (.int .i64 0)) = .lit (.int .i64 ((mget m x).getD 0)) ∧ Maps.has D (.int .i8 x) = (mget m x).isSome) ∧ ∀ q ∈ m, I6 q.2

theorem IsSeen.kept {bM n : Nat} {m : List (Int × Int)} (h : IsSeen w bM n m) {w' : World} (hk : w'.heap[bM]? = w.heap[bM]?) : IsSeen w' bM n m := by
  obtain ⟨D, ⟨es, cl, h1, h2⟩, h3⟩ := h
  exact ⟨D, ⟨es, cl, hk.trans h1, h2⟩, h3⟩

theorem IsSeen.lt {bM n : Nat} {m : List (Int × Int)} (h : IsSeen w bM n m) : bM < w.heap.size := by
  obtain ⟨D, h1, _⟩ := h; exact h1.lt

theorem IsSeen.isMap {bM n : Nat} {m : List (Int × Int)} (h : IsSeen w bM n m) : ∃ es cl, w.heap[bM]? = some (.map es cl) := by
  obtain ⟨D, ⟨es, cl, h1, h2⟩, h3⟩ := h; exact ⟨es, cl, h1⟩

theorem IsSeen.cellNe {bM n : Nat} {m : List (Int × Int)} (h : IsSeen w bM n m) {x : Addr} {v : Value} (hx : w.cell? x = some v) : x.block ≠ bM := by
  intro e
  obtain ⟨es, cl, h1⟩ := h.isMap
  subst e
  rw [show w.cell? x = none by simp [World.cell?, h1]] at hx
  cases hx

theorem mget_I6 {m : List (Int × Int)} (h : ∀ q ∈ m, I6 q.2) (x : Int) : I6 ((mget m x).getD 0) := by
  induction m with
  | nil => simp [mget, I6]
  | cons q r ih =>
    obtain ⟨k, v⟩ := q
    simp only [mget]
    split
    · exact h (k, v) (by simp)
    · exact ih (fun q hq => h q (by simp [hq]))

theorem IsSeen.look {bM n : Nat} {m : List (Int × Int)} (h : IsSeen w bM n m) (x : Int) (hx : -128 ≤ x ∧ x ≤ 127) :
    (Instr.lookup 32 (.map (some bM)) (.int .i8 x) false).run Try.prog w = .ok (.int .i64 ((mget m x).getD 0)) w := by
  obtain ⟨D, h1, h2, h3, h4, h5⟩ := h
  have hkey : keyOf Try.prog 35 (.int .i8 x) = some (.int .i8 x) := keyOf_int_mk Try.underlying35 (wfI8 hx)
  obtain ⟨v, ps, hrun, hv⟩ := h1.lookup lawI8 Try.underlying32 (zeroI w) (plainElem_int Try.underlying3 (wfI (by omega))) hkey
  obtain ⟨c, rfl, hc, hwc⟩ := plainElem_int_inv Try.underlying3 hv
  rw [hrun]
  have := (h4 x).1
  rw [show D.atKey (.int .i8 x) (.lit (.int .i64 0)) = .lit (.int .i64 c) from congrArg Prod.fst hc] at this
  simp at this
  rw [this]

theorem IsSeen.len {bM n : Nat} {m : List (Int × Int)} (h : IsSeen w bM n m) (ty : TypeId) : (Builtin.len_ #[32] ty #[.map (some bM)]).run Try.prog w = .ok (.int .i64 m.length) w := by
  obtain ⟨D, h1, h2, h3, h4⟩ := h
  have := h1.len Try.underlying32 ty
  rw [h3] at this
  exact this

theorem IsSeen.put {bM n : Nat} {m : List (Int × Int)} (h : IsSeen w bM n m) (x y : Int) (hx : -128 ≤ x ∧ x ≤ 127) (hy : I6 y) (hn : n < maxLen) :
    ∃ w2, (Instr.mapUpdate 32 (.map (some bM)) (.int .i8 x) (.int .i64 y)).run Try.prog w = .ok () w2 ∧ IsSeen w2 bM (n + 1) (mput m x y) ∧ MStep bM w w2 := by
  obtain ⟨D, g1, g2, g3, g4, g5⟩ := h
  have hkey : keyOf Try.prog 35 (.int .i8 x) = some (.int .i8 x) := keyOf_int_mk Try.underlying35 (wfI8 hx)
  obtain ⟨w2, hrun, hown, hgrow⟩ := g1.update lawI8 Try.underlying32 hn hkey (val := .int .i64 y) (plainElem_int Try.underlying3 (wfI hy))
  have hms := g1.isMap
  refine ⟨w2, hrun, ⟨_, hown, g2.put (by simp [WideAt.IsKeyLit]) _, ?_, ?_, ?_⟩, ⟨hgrow.os, hgrow.tape, hgrow.output, hgrow.size, fun k hk hne => hgrow.block k hk (fun e => hne (by simpa using e))⟩⟩
  · rw [size_put g2, (g4 x).2, mput_len, g3]
  · intro z
    rw [mget_mput]
    by_cases hz : z = x
    · subst hz
      rw [if_pos rfl]
      exact ⟨by rw [atKey_put_same hms (by simp [WideAt.IsKeyLit])]; rfl, by rw [has_put_same hms (by simp [WideAt.IsKeyLit])]; rfl⟩
    · have hk : (Lit.int .i8 z) ≠ Lit.int .i8 x := by
        intro e
        injection e with _ e
        exact hz e
      rw [if_neg hz]
      exact ⟨by rw [atKey_put_other hk]; exact (g4 z).1, by rw [has_put_other hk]; exact (g4 z).2⟩
  · have : ∀ q ∈ mput m x y, I6 q.2 := by
      clear g3 g4 hown hrun
      induction m with
      | nil => intro q hq; simp [mput] at hq; subst hq; exact hy
      | cons q0 r ih =>
        obtain ⟨k, v⟩ := q0
        intro q hq
        simp only [mput] at hq
        split at hq
        · rcases List.mem_cons.1 hq with rfl | hq
          · exact hy
          · exact g5 q (by simp [hq])
        · rcases List.mem_cons.1 hq with rfl | hq
          · exact g5 (k, v) (by simp)
          · exact ih (fun q hq => g5 q (by simp [hq])) q hq
    exact this

theorem IsSeen.made (w : World) : IsSeen (w.alloc (.map #[] 0)) w.heap.size 0 [] :=
  ⟨.map [], World.ownsMap_made _ _ _ _, tidy_empty, rfl, fun x => ⟨by simp [DataW.atKey, mget], rfl⟩, by simp⟩

theorem IsSt.mstep {bM : Nat} {w' : World} {p : Option Addr} {S : List Om} (h : IsSt w p S) (hS : MStep bM w w') (hm : ∀ {x : Addr} {v : Value}, w.cell? x = some v → x.block ≠ bM) : IsSt w' p S := by
  intro j o hj
  obtain ⟨b0, off, e, h1, h2, ⟨q, c, h3, hv, hq⟩, h4, h5⟩ := h j o hj
  refine ⟨b0, off, e, hS.cell h1 (hm h1), hS.cell h2 (hm h2), ⟨q, c, hS.cell h3 (hm h3), ?_, hq⟩, hS.cell h4 (hm h4), hS.cell h5 (hm h5)⟩
  intro i v hi
  obtain ⟨b1, o1, e1, g1, g2⟩ := hv i v hi
  exact ⟨b1, o1, e1, hS.cell g1 (hm g1), hS.cell g2 (hm g2)⟩

/-- A slice of int8 in memory. -/
def I8s (w : World) (q : Option Addr) (xs : List Int) : Prop := ∀ (j : Nat) (x : Int), xs[j]? = some x → (∃ b0 off : Nat, q = some ⟨b0, off, none⟩ ∧ w.cell? ⟨b0, off + j, none⟩ = some (.int .i8 x)) ∧ -128 ≤ x ∧ x ≤ 127

theorem I8s.at_ {q : Option Addr} {xs : List Int} (h : I8s w q xs) {w' : World} (hB : Below w.heap.size w w') {j : Nat} {x : Int} (hj : xs[j]? = some x) : ∃ b0 off : Nat, q = some ⟨b0, off, none⟩ ∧ b0 < w.heap.size ∧ w'.cell? ⟨b0, off + j, none⟩ = some (.int .i8 x) := by
  obtain ⟨⟨b0, off, e, h1⟩, -⟩ := h j x hj
  have hlt := World.block_lt_of_cell? w _ h1
  exact ⟨b0, off, e, hlt, (hB.cell (p := ⟨b0, off + j, none⟩) hlt).trans h1⟩

/-- What is put, so far. -/
def mfold (xs : List Int) : Nat → List (Int × Int)
  | 0 => []
  | i + 1 => mput (mfold xs i) (xs.getD i 0) i

theorem mfold_len (xs : List Int) : ∀ i, (mfold xs i).length ≤ i
  | 0 => Nat.le_refl _
  | i + 1 => by
    have := mfold_len xs i
    rw [mfold, mput_len]
    split <;> omega

theorem mfold_has {xs : List Int} {j : Nat} {x : Int} (hj : xs[j]? = some x) : ∀ i, j < i → ∃ v, mget (mfold xs i) x = some v
  | 0, h => by omega
  | i + 1, h => by
    rw [mfold, mget_mput]
    by_cases e : x = xs.getD i 0
    · exact ⟨_, by rw [if_pos e]⟩
    · rw [if_neg e]
      refine mfold_has hj i ?_
      rcases Nat.lt_or_ge j i with hlt | hge
      · exact hlt
      · have : j = i := by omega
        subst this
        exact (e (by simp [List.getD, hj])).elim

end Go.Proofs.Ytgokofomoachaab
