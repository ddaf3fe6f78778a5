/- law04's turned: its closure, and itself. -/
import Derived.Test.YtppjahnahomkeaaDoorShTurnMath
import Derived.Test.YtppjahnahomkeaaDoorShAlive
import Derived.Test.YtppjahnahomkeaaDoorShTwinO
namespace Go.Proofs.YtppjahnahomkeaaDoor
set_option linter.unusedVariables false
set_option linter.unusedSimpArgs false
open Go.RowKit

variable {w : World}

set_option maxRecDepth 20000 in
set_option maxHeartbeats 2000000 in
theorem turn1_in (n : Nat) (hn : n ≤ 1048576) (v : Vl) (Bn : Nat) (hc : w.heap[Bn]? = some (.cells #[.int .i64 n] 2 (0, 0))) :
    Calls Tryd.prog 24 #[.agg #[.int .u8 v.k, .int .i64 v.n], .pointer (some ⟨Bn, 0, none⟩)] w fun e w' => e = .returned (.agg #[.int .u8 (tv n v).k, .int .i64 (tv n v).n]) ∧ Below w.heap.size w w' := by
  obtain ⟨k, m⟩ := v
  have hlt : Bn < w.heap.size := (Array.getElem?_eq_some_iff.1 hc).1
  have hB := below2' w (.cells #[.int .u8 k, .int .i64 m] 26) (.cells #[.int .u8 0, .int .i64 0] 26)
  have hb0 := (Below.heap_alloc (w.alloc (.cells #[.int .u8 k, .int .i64 m] 26)) (.cells #[.int .u8 0, .int .i64 0] 26) w.heap.size (by simp)).trans (heap_alloc_new w (.cells #[.int .u8 k, .int .i64 m] 26))
  have hb1 := heap_two w (.cells #[.int .u8 k, .int .i64 m] 26) (.cells #[.int .u8 0, .int .i64 0] 26)
  obtain ⟨v0, v1⟩ := cell_rowV hb0
  have hcn := (hB.block Bn hlt).trans hc
  have cn := cell_of_one hcn
  have hcase : (3 ≤ k ∧ 1 ≤ m ∧ m ≤ n) ∨ k < 3 ∨ (3 ≤ k ∧ m < 1) ∨ (3 ≤ k ∧ 1 ≤ m ∧ n < m) := by omega
  rcases hcase with ⟨h1, h2, h3⟩ | h1 | ⟨h1, h2⟩ | ⟨h1, h2, h3⟩
  · rw [tv_in (v := ⟨k, m⟩) h1 h2 h3]
    dsimp only
    have h1' : ¬ ((k : Int) < 3) := by omega
    have h2' : ¬ (m < 1) := by omega
    have h3' : ¬ ((n : Int) < m) := by omega
    go_enter Tryd.func24, Tryd.ntmps24
    go_wp2
    refine bodyPost_ret (results_cell_row (by rfl) _ _ (w.heap.size + 1) 26 _ _ _ (by rfl) (heap_two w _ _) Tryd.underlying26 (by rfl) infoV3) (by rfl) ?_
    exact ⟨rfl, below2' _ _ _⟩
  · rw [tv_low (v := ⟨k, m⟩) h1]
    dsimp only
    have h1' : ((k : Int) < 3) := by omega
    go_enter Tryd.func24, Tryd.ntmps24
    go_wp2
    refine bodyPost_ret (results_cell_row (by rfl) _ _ (w.heap.size + 1) 26 _ _ _ (by rfl) (heap_two w _ _) Tryd.underlying26 (by rfl) infoV3) (by rfl) ?_
    exact ⟨rfl, below2' _ _ _⟩
  · rw [tv_out (v := ⟨k, m⟩) (by dsimp only; omega)]
    dsimp only
    have h1' : ¬ ((k : Int) < 3) := by omega
    go_enter Tryd.func24, Tryd.ntmps24
    go_wp2
    refine bodyPost_ret (results_cell_row (by rfl) _ _ (w.heap.size + 1) 26 _ _ _ (by rfl) (heap_two w _ _) Tryd.underlying26 (by rfl) infoV3) (by rfl) ?_
    exact ⟨rfl, below2' _ _ _⟩
  · rw [tv_out (v := ⟨k, m⟩) (by dsimp only; omega)]
    dsimp only
    have h1' : ¬ ((k : Int) < 3) := by omega
    have h2' : ¬ (m < 1) := by omega
    have h3' : ((n : Int) < m) := by omega
    go_enter Tryd.func24, Tryd.ntmps24
    go_wp2
    refine bodyPost_ret (results_cell_row (by rfl) _ _ (w.heap.size + 1) 26 _ _ _ (by rfl) (heap_two w _ _) Tryd.underlying26 (by rfl) infoV3) (by rfl) ?_
    exact ⟨rfl, below2' _ _ _⟩


theorem results_tmp_row {P : Program} {fn : Func} {p u : Tmp} {ty : TypeId} (h : fn.results = #[.tmp u, .cell p ty]) (tmps : Array Value) (w : World) (g : Nat) (t : TypeId) (cs : Array Value) (fr : Nat × Nat) (d : TypeDesc)
    (hp : tmps.getD p undef = .pointer (some ⟨g, 0, none⟩)) (hg : w.heap[g]? = some (.cells cs t fr))
    (hu : P.underlying ty = some d) (hd : (match d with | .struct _ | .array _ _ => true | _ => false) = true) (hi : (P.info? ty).map (·.size) = some cs.size) :
    (results fn tmps).run P w = .ok (.tuple #[tmps.getD u undef, .agg cs]) w := by
  have hp' : (tmps[p]?).getD undef = .pointer (some ⟨g, 0, none⟩) := by simpa using hp
  simp only [results, h]
  simp [Sem.run_bind, Result.andThen]
  rw [hp']
  simp [asAddr, run_loadVar_row w g t ty cs fr d hg hu hd hi, Result.andThen]

/-- An object whose values are a row of the call's own. -/
structure Ov where
  o : Om
  sl : Value

def ovcell (x : Ov) : List Value := [.int .u8 x.o.k, .string x.o.s, x.sl, .int .i64 x.o.room, .int .i64 x.o.fn]

def ovcells : List Ov → List Value
  | [] => []
  | x :: r => ovcell x ++ ovcells r

theorem ovcells_append : ∀ (l r : List Ov), ovcells (l ++ r) = ovcells l ++ ovcells r
  | [], _ => rfl
  | v :: l, r => by simp [ovcells, ovcells_append l r]

theorem ovcells_get : ∀ (l : List Ov) (j : Nat) (x : Ov), l[j]? = some x → ∀ i, i < 5 → (ovcells l)[j * 5 + i]? = (ovcell x)[i]?
  | [], j, x, h => by simp at h
  | u :: r, 0, x, h => by
    simp at h; subst h
    intro i hi
    simp only [ovcells]
    rw [List.getElem?_append_left (by simp [ovcell]; omega)]
    congr 1; omega
  | u :: r, j + 1, x, h => by
    intro i hi
    have := ovcells_get r j x (by simpa using h) i hi
    rw [← this]
    simp only [ovcells]
    rw [List.getElem?_append_right (by simp [ovcell]; omega)]
    congr 1
    simp [ovcell]; omega

theorem own_vals0 {w : World} {base : Nat} {v : Value} {l : List Vl} (h : w.ownsRow base 26 2 v l.length (vcells l)) : ∃ q c, v = .slice q l.length c ∧ Vals w q l ∧ (q = none → c = 0) := by
  rcases h.2 with ⟨hv, h0⟩ | ⟨g, cap, cur, rfl, _⟩
  · have : l = [] := List.eq_nil_of_length_eq_zero h0
    subst this
    exact ⟨none, 0, hv, fun j v hj => by simp at hj, fun _ => rfl⟩
  · exact ⟨_, cap, rfl, fun j v hj => ⟨g, 0, rfl, by simpa using (row_vals h rfl hj).1, by simpa using (row_vals h rfl hj).2⟩, fun e => by cases e⟩

theorem st_of_ov {base : Nat} {v : Value} {ts : List Ov} (h : w.ownsRow base 39 5 v ts.length (ovcells ts)) (hv : ∀ x ∈ ts, w.ownsRow base 26 2 x.sl x.o.l.length (vcells x.o.l)) :
    ∃ q c, v = .slice q ts.length c ∧ IsSt w q (ts.map Ov.o) := by
  rcases h.2 with ⟨hv', h0⟩ | ⟨g, cap, cur, rfl, _⟩
  · have : ts = [] := List.eq_nil_of_length_eq_zero h0
    subst this
    exact ⟨none, 0, hv', fun j v hj => by simp at hj⟩
  · refine ⟨_, cap, rfl, fun j o hj => ?_⟩
    rw [List.getElem?_map] at hj
    obtain ⟨x, hx, rfl⟩ := Option.map_eq_some_iff.1 hj
    have hlt := (List.getElem?_eq_some_iff.1 hx).1
    have hg := ovcells_get ts j x hx
    obtain ⟨q, c, e, hV, hq⟩ := own_vals0 (hv x (List.mem_of_getElem? hx))
    refine ⟨g, 0, rfl, ?_, ?_, ⟨q, c, ?_, hV, hq⟩, ?_, ?_⟩
    · rw [Nat.zero_add, h.cellAt _ (by omega)]; have := hg 0 (by omega); simpa [ovcell] using this
    · rw [Nat.zero_add, h.cellAt _ (by omega), hg 1 (by omega)]; rfl
    · rw [Nat.zero_add, h.cellAt _ (by omega), hg 2 (by omega), ← e]; rfl
    · rw [Nat.zero_add, h.cellAt _ (by omega), hg 3 (by omega)]; rfl
    · rw [Nat.zero_add, h.cellAt _ (by omega), hg 4 (by omega)]; rfl


theorem tS_snoc {S : List Om} {m : Nat} {o : Om} (hm : m < S.length) (ho : S[S.length - 1 - m]? = some o) : (tS S).take (m + 1) = (tS S).take m ++ [tO S.length o] := by
  rw [List.take_add_one, tS_get hm, ho]; rfl

end Go.Proofs.YtppjahnahomkeaaDoor
