/- plain: a Change is done in a store. -/
import Derived.Test.YtgokofomoachaaaGreatDoorPnDeed
import Derived.Test.YtgokofomoachaaaGreatDoorPmAdds
import Derived.Laws.IdiomCopy
import Derived.Deep.RegionLaw
import Derived.Deep.AppendLies
namespace Go.Proofs.YtgokofomoachaaaGreatDoor
set_option linter.unusedVariables false
set_option linter.unusedSimpArgs false
open Go.RowKit

variable {w : World}

theorem run_copy_two {P : Program} (w : World) (dT sT ty elem : TypeId) (b o dLen dCap : Nat) (a : Addr) (sLen sCap : Nat) (cs : List Value)
    (hu : P.underlying dT = some (.slice elem)) (hs : (P.info? elem).map (·.size) = some 2) (m : Nat) (hm : Nat.min sLen dLen = m) (hn : cs.length = m * 2)
    (hsrc : ∀ j v, cs[j]? = some v → w.cell? (a.add j) = some v) (hc : ∀ j, j < cs.length → (w.cell? ⟨b, o + j, none⟩).isSome = true) (hf : ∀ j, j < cs.length → w.frozen? ⟨b, o + j, none⟩ = false) (h1 : ∀ v ∈ cs, v.oneCell' = true) :
    (Builtin.copy_ #[dT, sT] ty #[.slice (some ⟨b, o, none⟩) dLen dCap, .slice (some a) sLen sCap]).run P w = .ok (goInt m) (w.setCells b o cs) := by
  have hl := run_loadCells_list (P := P) w a cs hsrc
  have hst := run_storeCells_cells (P := P) b o cs 0 w (by simpa using hc) (by simpa using hf) h1
  rw [hn] at hl
  cases hq : P.info? elem with
  | none => simp [hq] at hs
  | some i =>
    have hi : i.size = 2 := by simpa [hq] using hs
    simp [Builtin.copy_, run_underlying hu, Builtin.lenOf, Builtin.firstCells, sizeOf, typeInfo, hq, hi, hm, hl, hst]

theorem run_copy_two_none {P : Program} (w : World) (dT sT ty elem : TypeId) (d a : Option Addr) (dLen dCap sLen sCap : Nat) (hu : P.underlying dT = some (.slice elem)) (hs : (P.info? elem).map (·.size) = some 2) (hn : Nat.min sLen dLen = 0) :
    (Builtin.copy_ #[dT, sT] ty #[.slice d dLen dCap, .slice a sLen sCap]).run P w = .ok (goInt 0) w := by
  cases hq : P.info? elem with
  | none => simp [hq] at hs
  | some i =>
    have hl : ∀ (x : Addr), (loadCells x 0).run P w = .ok #[] w := fun x => by simpa using run_loadCells_list (P := P) w x [] (by simp)
    cases d <;> cases a <;> simp [Builtin.copy_, run_underlying hu, Builtin.lenOf, Builtin.firstCells, sizeOf, typeInfo, hq, hn, storeCells, hl]

theorem run_append_own_empty {P : Program} (base : Nat) (t ty e : TypeId) (i : TypeInfo) (size : Nat) (ht : P.underlying t = some (.slice e)) (hi : P.info? e = some i)
    (v : Value) (n : Nat) (xs : List Value) (hown : w.ownsRow base e size v n xs) (a : Option Addr) (c : Nat) :
    (Builtin.append_ #[t, t] ty #[v, .slice a 0 c]).run P w = .ok v w := by
  have hl : ∀ (x : Addr), (loadCells x 0).run P w = .ok #[] w := fun x => by simpa using run_loadCells_list (P := P) w x [] (by simp)
  rcases hown.2 with ⟨rfl, rfl⟩ | ⟨g, cap, cur, rfl, _, _, hnc, _⟩
  · cases a <;> simp [Builtin.append_, run_underlying ht, sizeOf, typeInfo, hi, Builtin.lenOf, Builtin.firstCells, hl]
  · cases a <;> simp [Builtin.append_, run_underlying ht, sizeOf, typeInfo, hi, Builtin.lenOf, Builtin.firstCells, hnc, storeCells, hl]

/-- At a step of a region that draws: a builtin whose run is known. -/
theorem step_append_run {P : Program} {ops : Array Oper} {o : Oper} {a : Act} {K : Act → World → Prop} {Q : Exit → Act → World → Prop} {E : Prop} (hgd : o.guard = none) (s x : Operand) (t : TypeId)
    (ho : o.op = .call { callee := .builtin .append, args := #[s, x], argTypes := #[t, t] }) (vs vx r : Value) (w' : World) (hs : a.eval s = vs) (hx : a.eval x = vx)
    (hrun : (Builtin.append_ #[t, t] o.type #[vs, vx]).run P w = .ok r w') (h : K (a.put o.dst r) w') :
    if Region.wanted o (yielded ops a.tmps) = true then Oper.wp P o a w K Q else E := by
  have hw : Region.wanted o (yielded ops a.tmps) = true := by simp [Region.wanted, hgd]
  rw [if_pos hw]
  unfold Oper.wp
  simp [execOp, ho, resolve, invoke, builtin, hs, hx, hrun, Result.andThen]
  exact h

theorem step_copy_run {P : Program} {ops : Array Oper} {o : Oper} {a : Act} {K : Act → World → Prop} {Q : Exit → Act → World → Prop} {E : Prop} (hgd : o.guard = none) (s x : Operand) (t : TypeId)
    (ho : o.op = .call { callee := .builtin .copy, args := #[s, x], argTypes := #[t, t] }) (vs vx r : Value) (w' : World) (hs : a.eval s = vs) (hx : a.eval x = vx)
    (hrun : (Builtin.copy_ #[t, t] o.type #[vs, vx]).run P w = .ok r w') (h : K (a.put o.dst r) w') :
    if Region.wanted o (yielded ops a.tmps) = true then Oper.wp P o a w K Q else E := by
  have hw : Region.wanted o (yielded ops a.tmps) = true := by simp [Region.wanted, hgd]
  rw [if_pos hw]
  unfold Oper.wp
  simp [execOp, ho, resolve, invoke, builtin, hs, hx, hrun, Result.andThen]
  exact h

theorem infoV2 : (Tryz.prog.info? 27).map (·.size) = some 2 := by kernel_rfl

theorem cell_row4C {W : World} {g : Nat} {a b c d : Value} {t : TypeId} (h : W.heap[g]? = some (.cells #[a, b, c, d] t (0, 0))) : W.cell? ⟨g, 0, none⟩ = some a ∧ W.cell? ⟨g, 1, none⟩ = some b ∧ W.cell? ⟨g, 2, none⟩ = some c ∧ W.cell? ⟨g, 3, none⟩ = some d :=
  ⟨by rw [cell_of_row W g 0 _ _ _ h]; rfl, by rw [cell_of_row W g 1 _ _ _ h]; rfl, by rw [cell_of_row W g 2 _ _ _ h]; rfl, by rw [cell_of_row W g 3 _ _ _ h]; rfl⟩

set_option maxHeartbeats 1000000 in
theorem on_none (s : Value) (at_ r2 : Int) (q2 : Option Addr) (n2 c2 : Nat) (w : World) : Calls Tryz.prog 157 #[.agg #[.int .i64 0, .int .i64 at_, .slice q2 n2 c2, .int .i64 r2], s] w fun e w' => e = .returned (.tuple #[]) ∧ Below w.heap.size w w' := by
  obtain ⟨x0, x1, x2, x3⟩ := cell_row4C (heap_alloc_new w (.cells #[.int .i64 0, .int .i64 at_, .slice q2 n2 c2, .int .i64 r2] 98))
  go_enter Tryz.func157, Tryz.ntmps157
  go_wp2
  refine bodyPost_ret (results_none (by rfl) _ _ _) (by rfl) ?_
  exact ⟨rfl, below1 _ _⟩

/-- A list's value is stored as it was. -/
theorem OwnSt.relv {base : Nat} {ts : List Po} {w : World} {g n c : Nat} (h : OwnSt base (.slice (some ⟨g, 0, none⟩) n c) ts w) {i : Nat} {x : Po} (hx : ts[i]? = some x) :
    OwnSt base (.slice (some ⟨g, 0, none⟩) n c) ts (w.setCell ⟨g, i * 5 + 2, none⟩ x.lv) := by
  have hi := (List.getElem?_eq_some_iff.1 hx).1
  have hn : ts.length = n := by
    obtain ⟨p, c', e, -⟩ := own_slice h.row
    cases e; rfl
  subst hn
  have e : ts.set i x = ts := by
    obtain ⟨hi, rfl⟩ := List.getElem?_eq_some_iff.1 hx
    simp
  have hh := h.upd (w' := w.setCell ⟨g, i * 5 + 2, none⟩ x.lv) hx x ?_ ?_ ?_ ?_
  · rw [e] at hh; exact hh
  · have := rowSet h.row (j := i * 5 + 2) (by omega) x.lv
    rw [pcells_setD hx (y := x) (by omega) (by rfl)] at this
    exact this
  · have hl := h.lst x (List.mem_of_getElem? hx)
    exact row_kept hl (fun k e => heap_setCell_other _ ⟨g, i * 5 + 2, none⟩ _ _ (val_obj_ne h.row hl e))
  · intro k j z hj hz e
    exact heap_setCell_other _ ⟨g, i * 5 + 2, none⟩ _ _ (val_obj_ne h.row (h.lst z (List.mem_of_getElem? hz)) e)
  · intro k e
    exact .inl e

theorem vals_one_cells {ad : Addr} {u : Vl} (h : Vals w (some ad) [u]) : ∃ b off, ad = ⟨b, off, none⟩ ∧ b < w.heap.size ∧ ∀ j v, [Value.int .u8 u.k, Value.int .i64 u.n][j]? = some v → w.cell? (ad.add j) = some v := by
  obtain ⟨b, off, e, h1, h2⟩ := h 0 u rfl
  cases e
  refine ⟨b, off, rfl, World.block_lt_of_cell? w _ h1, fun j v hj => ?_⟩
  rw [Addr.add_lit]
  match j, hj with
  | 0, hj => simp at hj; subst hj; simpa using h1
  | 1, hj => simp at hj; subst hj; simpa using h2

set_option maxRecDepth 20000 in
set_option maxHeartbeats 2000000 in
theorem on_set {base g N cz : Nat} {ts : List Po} (hO : OwnSt base (.slice (some ⟨g, 0, none⟩) N cz) ts w) (hN : N ≤ 1048576) {i : Nat} {x : Po} (hx : ts[i]? = some x) {gl cl : Nat} (hlv : x.lv = .slice (some ⟨gl, 0, none⟩) x.o.l.length cl) (hll : x.o.l.length ≤ 100000) {j : Nat} (hj : j < x.o.l.length) (u : Vl) {ad : Addr} (hv2 : Vals w (some ad) [u]) (r2 : Int) :
    Calls Tryz.prog 157 #[.agg #[.int .i64 ((i : Int) + 1), .int .i64 j, .slice (some ad) 1 1, .int .i64 r2], .slice (some ⟨g, 0, none⟩) N cz] w fun e w' => e = .returned (.tuple #[]) ∧ OwnSt base (.slice (some ⟨g, 0, none⟩) N cz) (ts.set i ⟨{ x.o with l := x.o.l.set j u, room := r2 }, x.lv⟩) w' ∧ Below base w w' ∧ ∀ k, k < w.heap.size → k ≠ g → x.lv.ownBlock ≠ some k → w'.heap[k]? = w.heap[k]? := by
  have hts : ts.length = N := by
    obtain ⟨p, c', e, -⟩ := own_slice hO.row
    cases e; rfl
  have hi := (List.getElem?_eq_some_iff.1 hx).1
  have hiN : (i : Int) < (N : Int) := by omega
  have hb := hO.row.lt g rfl
  have hB := below1 w (.cells #[.int .i64 ((i : Int) + 1), .int .i64 j, .slice (some ad) 1 1, .int .i64 r2] 98)
  have hbx := heap_alloc_new w (.cells #[.int .i64 ((i : Int) + 1), .int .i64 j, .slice (some ad) 1 1, .int .i64 r2] 98)
  have hO1 := hO.below hB
  obtain ⟨x0, x1, x2, x3⟩ := cell_row4C hbx
  have hrow := hO1.row
  rw [hts] at hrow
  obtain ⟨t0, t1, t2, t3, t4⟩ := cell_pcells hrow hts hx
  rw [hlv] at t2
  have hne : g ≠ w.heap.size := by omega
  go_enter Tryz.func157, Tryz.ntmps157
  go_wp2_with fail
  have hlx : x.o.l.length ≤ cl := by
    have := hO.lst x (List.mem_of_getElem? hx)
    rw [hlv] at this
    rcases this.2 with ⟨e, -⟩ | ⟨g', cap, cur, e, -, -, hnc, -⟩
    · cases e
    · cases e; exact hnc
  have hglb := (hO.lst x (List.mem_of_getElem? hx)).lt gl (by rw [hlv]; rfl)
  generalize hW : w.alloc (.cells #[.int .i64 ((i : Int) + 1), .int .i64 j, .slice (some ad) 1 1, .int .i64 r2] 98) = W at *
  have hBb : Below base w W := hB.mono (Nat.le_trans hb.1 (Nat.le_of_lt hb.2))
  have hlst := hO1.lst x (List.mem_of_getElem? hx)
  rw [hlv] at hlst
  obtain ⟨y, hy⟩ : ∃ y, x.o.l[j]? = some y := ⟨x.o.l[j], by simp⟩
  obtain ⟨z0, z1⟩ := row_vals hlst rfl hy
  obtain ⟨b2, o2, rfl, hb2, hc2⟩ := vals_one_cells (hv2.below hB)
  have HC := run_copy_two (P := Tryz.prog) W.drew 47 47 3 27 gl (j * 2) (x.o.l.length - j) (cl - j) ⟨b2, o2, none⟩ 1 1 [.int .u8 u.k, .int .i64 u.n] Tryz.underlying47 infoV2 1 (by simp only [Nat.min_def]; split <;> omega) rfl hc2
    (fun k hk => by
      have : k = 0 ∨ k = 1 := by simp at hk; omega
      rcases this with rfl | rfl
      · show (W.cell? _).isSome = true
        rw [show j * 2 + 0 = j * 2 from rfl, z0]; rfl
      · show (W.cell? _).isSome = true
        rw [z1]; rfl) (fun k hk => frozen_row (w := W.drew) hlst _) (fun v hv => by simp at hv; rcases hv with rfl | rfl <;> rfl)
  simp only [World.setCells] at HC
  have hO2 := (hO1.kept (w' := W.drew) (fun _ _ _ => rfl)).put hx hlv hj u
  have hjl : (j : Int) ≤ (x.o.l.length : Int) := by omega
  have hcj : ¬ (cl = j) := by omega
  clear z0 z1
  have hne1 : w.heap.size ≠ gl := by omega
  have hk : (((W.drew.setCell ⟨gl, j * 2, none⟩ (.int .u8 u.k)).setCell ⟨gl, j * 2 + 1, none⟩ (.int .i64 u.n))).heap[w.heap.size]? = some (.cells #[.int .i64 ((i : Int) + 1), .int .i64 j, .slice (some ⟨b2, o2, none⟩) 1 1, .int .i64 r2] 98 (0, 0)) := by
    rw [heap_setCell_other _ ⟨gl, j * 2 + 1, none⟩ _ _ hne1, heap_setCell_other _ ⟨gl, j * 2, none⟩ _ _ hne1]
    exact hbx
  have hB2 : Below base w ((W.drew.setCell ⟨gl, j * 2, none⟩ (.int .u8 u.k)).setCell ⟨gl, j * 2 + 1, none⟩ (.int .i64 u.n)) := below_set (below_set (below_drew hBb) hglb.1 _) hglb.1 _
  have hfr : ∀ k, k < w.heap.size → k ≠ gl → (((W.drew.setCell ⟨gl, j * 2, none⟩ (.int .u8 u.k)).setCell ⟨gl, j * 2 + 1, none⟩ (.int .i64 u.n))).heap[k]? = w.heap[k]? := fun k hk hg => by
    rw [heap_setCell_other _ ⟨gl, j * 2 + 1, none⟩ _ _ hg, heap_setCell_other _ ⟨gl, j * 2, none⟩ _ _ hg]
    exact hB.block k hk
  have HF : Hid _ := And.intro hO2 (And.intro hB2 (And.intro hk hfr))
  clear hO2 hB2 hk hfr
  go_cut [4, 5] from 6 (fun s4 s5 W2 => s4 = .pointer (some ⟨g, i * 5, none⟩) ∧ s5 = .int .i64 1 ∧ Hid (OwnSt base (.slice (some ⟨g, 0, none⟩) N cz) (ts.set i ⟨{ x.o with l := x.o.l.set j u }, x.lv⟩) W2 ∧ Below base w W2 ∧ W2.heap[w.heap.size]? = some (.cells #[.int .i64 ((i : Int) + 1), .int .i64 j, .slice (some ⟨b2, o2, none⟩) 1 1, .int .i64 r2] 98 (0, 0)) ∧ ∀ k, k < w.heap.size → k ≠ gl → W2.heap[k]? = w.heap[k]?))
  case first =>
    go_region_law (first
      | (refine step_copy_run (by rfl) _ _ _ (by rfl) (.slice (some ⟨gl, j * 2, none⟩) (x.o.l.length - j) (cl - j)) (.slice (some ⟨b2, o2, none⟩) 1 1) (.int .i64 1) _ (by rfl) (by rfl) HC ?_))
    all_goals
      go_wp2_with fail
      go_meet
      case rel => exact ⟨rfl, rfl, HF⟩
  case rest =>
    obtain ⟨rfl, rfl, HX⟩ := hcut
    obtain ⟨hOc, hBc, hbc, hfr⟩ := HX.out
    clear HC HF t0 t1 t2 t3 t4 x0 x1 x2 x3 hrow
    obtain ⟨x0, x1, x2, x3⟩ := cell_row4C hbc
    have hyc : (ts.set i ⟨{ x.o with l := x.o.l.set j u }, x.lv⟩)[i]? = some ⟨{ x.o with l := x.o.l.set j u }, x.lv⟩ := List.getElem?_set_self hi
    have hrow := hOc.row
    rw [List.length_set, hts] at hrow
    obtain ⟨t0, t1, t2, t3, t4⟩ := cell_pcells hrow (by rw [List.length_set]; exact hts) hyc
    have f2 := frozen_row hrow (i * 5 + 2)
    have hlc := hOc.lst _ (List.mem_of_getElem? hyc)
    have hlvS : Hid _ := hlv
    simp only [hlv] at t2 hlc
    obtain ⟨i0, hi0, -, -, -⟩ := info_parts infoV
    have HA := run_append_own_empty (P := Tryz.prog) (w := wc.drew) base 47 47 27 i0 2 Tryz.underlying47 hi0 (.slice (some ⟨gl, 0, none⟩) x.o.l.length cl) _ _ (by rw [List.length_set] at hlc; exact row_kept hlc (fun _ _ => rfl)) (some ⟨b2, o2, none⟩) 0
    have hO3 := (hOc.relv hyc).room hyc r2
    rw [List.set_set] at hO3
    have hB3 := below_set (below_set hBc (g := g) (i := i * 5 + 2) hb.1 x.lv) (g := g) (i := i * 5 + 3) hb.1 (.int .i64 r2)
    rw [hlv] at hO3 hB3
    have hne2 : w.heap.size ≠ g := by omega
    have hbc2 := (heap_setCell_other wc ⟨g, i * 5 + 2, none⟩ w.heap.size (.slice (some ⟨gl, 0, none⟩) x.o.l.length cl) hne2).trans hbc
    obtain ⟨v0, v1, v2, v3⟩ := cell_row4C hbc2
    have hrow2 := rowSet hrow (j := i * 5 + 2) (by omega) (.slice (some ⟨gl, 0, none⟩) x.o.l.length cl)
    have f3 := frozen_row hrow2 (i * 5 + 3)
    have HFR : Hid _ := hfr
    have HF : Hid _ := And.intro hO3 hB3
    clear hlv hO3 hB3 hOc hBc hlc HX hfr
    go_wp2_with fail
    go_region_law (first
      | (refine step_append_run (by rfl) _ _ _ (by rfl) (.slice (some ⟨gl, 0, none⟩) x.o.l.length cl) (.slice (some ⟨b2, o2, none⟩) 0 0) (.slice (some ⟨gl, 0, none⟩) x.o.l.length cl) _ (by rfl) (by rfl) HA ?_))
    all_goals
      go_wp2
      refine bodyPost_end (results_none (by rfl) _ _ _) (by rfl) ?_
      rw [hlvS.out]
      refine ⟨rfl, HF.out.1.kept (fun _ _ _ => rfl), below_drew HF.out.2, fun k hk hg hl => ?_⟩
      show ((wc.setCell ⟨g, i * 5 + 2, none⟩ _).setCell ⟨g, i * 5 + 3, none⟩ _).heap[k]? = _
      rw [heap_setCell_other _ ⟨g, i * 5 + 3, none⟩ _ _ hg, heap_setCell_other _ ⟨g, i * 5 + 2, none⟩ _ _ hg]
      exact HFR.out k hk (fun e => hl (by rw [e]; rfl))

theorem vals_cells {ad : Addr} {more : List Vl} (h : Vals w (some ad) more) (h0 : 0 < more.length) : ∃ b off, ad = ⟨b, off, none⟩ ∧ b < w.heap.size ∧ ∀ j v, (vcells more)[j]? = some v → w.cell? (ad.add j) = some v := by
  obtain ⟨u, hu⟩ : ∃ u, more[0]? = some u := ⟨more[0], by simp⟩
  obtain ⟨b, off, e, h1, -⟩ := h 0 u hu
  cases e
  refine ⟨b, off, rfl, World.block_lt_of_cell? w _ h1, fun j v hj => ?_⟩
  obtain ⟨a, y, hy, hu⟩ := vcells_at more j v hj
  obtain ⟨b0, off', e, h1, h2⟩ := h a y hy
  cases e
  rcases hu with ⟨rfl, rfl⟩ | ⟨rfl, rfl⟩
  · rw [Addr.add_lit]; exact h1
  · rw [Addr.add_lit, ← Nat.add_assoc]; exact h2

end Go.Proofs.YtgokofomoachaaaGreatDoor

namespace Go.Proofs.YtgokofomoachaaaGreatDoor
set_option linter.unusedVariables false
set_option linter.unusedSimpArgs false
open Go.RowKit

variable {w : World}

set_option maxRecDepth 20000 in
set_option maxHeartbeats 4000000 in
theorem on_add {base g N cz : Nat} {ts : List Po} (hO : OwnSt base (.slice (some ⟨g, 0, none⟩) N cz) ts w) (hN : N ≤ 1048576) {i : Nat} {x : Po} (hx : ts[i]? = some x) (hll : x.o.l.length ≤ 200000) {more : List Vl} (hm0 : 0 < more.length) (hm2 : more.length ≤ 2) {ad : Addr} (hv2 : Vals w (some ad) more) (r2 : Int) :
    Calls Tryz.prog 157 #[.agg #[.int .i64 ((i : Int) + 1), .int .i64 x.o.l.length, .slice (some ad) more.length more.length, .int .i64 r2], .slice (some ⟨g, 0, none⟩) N cz] w fun e w' => e = .returned (.tuple #[]) ∧ (∃ lv, OwnSt base (.slice (some ⟨g, 0, none⟩) N cz) (ts.set i ⟨{ x.o with l := x.o.l ++ more, room := r2 }, lv⟩) w') ∧ Below base w w' ∧ ∀ k, k < w.heap.size → k ≠ g → x.lv.ownBlock ≠ some k → w'.heap[k]? = w.heap[k]? := by
  have hts : ts.length = N := by
    obtain ⟨p, c', e, -⟩ := own_slice hO.row
    cases e; rfl
  have hi := (List.getElem?_eq_some_iff.1 hx).1
  have hiN : (i : Int) < (N : Int) := by omega
  have hb := hO.row.lt g rfl
  have hB := below1 w (.cells #[.int .i64 ((i : Int) + 1), .int .i64 x.o.l.length, .slice (some ad) more.length more.length, .int .i64 r2] 98)
  have hbx := heap_alloc_new w (.cells #[.int .i64 ((i : Int) + 1), .int .i64 x.o.l.length, .slice (some ad) more.length more.length, .int .i64 r2] 98)
  have hO1 := hO.below hB
  obtain ⟨x0, x1, x2, x3⟩ := cell_row4C hbx
  have hrow := hO1.row
  rw [hts] at hrow
  obtain ⟨t0, t1, t2, t3, t4⟩ := cell_pcells hrow hts hx
  obtain ⟨q, cl, hlv, hqn, hq0, hqg⟩ := own_slice (hO.lst x (List.mem_of_getElem? hx))
  rw [hlv] at t2
  have hne : g ≠ w.heap.size := by omega
  have hlx : x.o.l.length ≤ cl := by
    have := hO.lst x (List.mem_of_getElem? hx)
    rw [hlv] at this
    rcases this.2 with ⟨e, e2⟩ | ⟨g', cap, cur, e, -, -, hnc, -⟩
    · omega
    · cases e; exact hnc
  have hlvb : ∀ gg, x.lv.ownBlock = some gg → base ≤ gg ∧ gg < w.heap.size := fun gg e => (hO.lst x (List.mem_of_getElem? hx)).lt gg e
  obtain ⟨b2, o2, rfl, hb2, hc2⟩ := vals_cells (hv2.below hB) hm0
  have HC := fun (d : Option Addr) (dl dc : Nat) (W : World) (h0 : dl = 0) => run_copy_two_none (P := Tryz.prog) W 47 47 3 27 d (some ⟨b2, o2, none⟩) dl dc more.length more.length Tryz.underlying47 infoV2 (by rw [h0]; simp [Nat.min_def])
  go_enter Tryz.func157, Tryz.ntmps157
  go_wp2_with fail
  generalize hW : w.alloc (.cells #[.int .i64 ((i : Int) + 1), .int .i64 x.o.l.length, .slice (some ⟨b2, o2, none⟩) more.length more.length, .int .i64 r2] 98) = W at *
  have hBb : Below base w W := hB.mono (Nat.le_trans hb.1 (Nat.le_of_lt hb.2))
  have hBd : Below base w W.drew := below_drew hBb
  have HF : Hid _ := And.intro hO1 (And.intro hlv (And.intro hqg (And.intro hB hlvb)))
  clear hlv hO hqg
  go_cut [4, 5] from 6 (fun s4 s5 W2 => s4 = .pointer (some ⟨g, i * 5, none⟩) ∧ s5 = .int .i64 0 ∧ W2 = W.drew)
  case first =>
    cases q with
    | none =>
      have hc0 := hqn rfl
      have hl0 : x.o.l.length = 0 := by omega
      rw [hl0, hc0] at t2
      rw [hl0] at x1
      have HL : Hid _ := And.intro hl0 hc0
      clear hl0 hc0 hlx hll
      go_region_law (first
        | (refine step_copy_run (by rfl) _ _ _ (by rfl) _ _ (.int .i64 0) _ (by rfl) (by rfl) (HC _ _ _ _ (by simp)) ?_))
      all_goals
        go_wp2_with fail
        go_meet
        case rel => exact ⟨rfl, rfl, rfl⟩
    | some a =>
      obtain ⟨gl, rfl, -⟩ := HF.out.2.2.1 a rfl
      by_cases hcl : cl = x.o.l.length
      · subst hcl
        go_region_law (first
          | (refine step_copy_run (by rfl) _ _ _ (by rfl) _ _ (.int .i64 0) _ (by rfl) (by rfl) (HC _ _ _ _ (by simp)) ?_))
        all_goals
          go_wp2_with fail
          go_meet
          case rel => exact ⟨rfl, rfl, rfl⟩
      · go_region_law (first
          | (refine step_copy_run (by rfl) _ _ _ (by rfl) _ _ (.int .i64 0) _ (by rfl) (by rfl) (HC _ _ _ _ (by simp)) ?_))
        all_goals
          go_wp2_with fail
          go_meet
          case rel => exact ⟨rfl, rfl, rfl⟩
  case rest =>
    obtain ⟨rfl, rfl, rfl⟩ := hcut
    clear HC t0 t1 t2 t3 t4 x0 x1 x2 x3
    obtain ⟨hO1, hlv, hqg, hB, hlvb⟩ := HF.out
    have hOd := hO1.kept (w' := W.drew) (fun _ _ _ => rfl)
    have hbd : W.drew.heap[w.heap.size]? = _ := hbx
    obtain ⟨x0, x1, x2, x3⟩ := cell_row4C hbd
    have hrowd := hOd.row
    rw [hts] at hrowd
    obtain ⟨t0, t1, t2, t3, t4⟩ := cell_pcells hrowd hts hx
    have hrl := hOd.lst x (List.mem_of_getElem? hx)
    rw [hlv] at t2 hrl
    generalize hWd : W.drew = Wd at *
    have hsz : Wd.heap.size = w.heap.size + 1 := by rw [← hWd, ← hW]; simp
    have hBW : Below base w Wd := hBd
    have hWW : ∀ k, k < w.heap.size → Wd.heap[k]? = w.heap[k]? := fun k hk => by rw [← hWd]; exact hB.block k hk
    obtain ⟨i0, hi0, hz0, hz1, hz2⟩ := info_parts infoV
    have hcd : ∀ j v, (vcells more)[j]? = some v → Wd.drew.cell? ((⟨b2, o2, none⟩ : Addr).add j) = some v := fun j v hj => by rw [← hWd]; exact hc2 j v hj
    have hrld : Wd.drew.ownsRow base 27 2 (.slice q x.o.l.length cl) x.o.l.length (vcells x.o.l) := row_kept hrl (fun _ _ => rfl)
    have hbs : base ≤ Wd.drew.heap.size := by show base ≤ Wd.heap.size; omega
    have hgx : (Value.slice q x.o.l.length cl).ownBlock ≠ some g := fun e => val_obj_ne hrowd hrl e rfl
    have HK : ∀ w4, Wd.drew.grownBy w4 (Value.slice q x.o.l.length cl).ownBlock → w4.ownsRow base 96 5 (.slice (some ⟨g, 0, none⟩) N cz) N (pcells ts) ∧ w4.cell? ⟨g, i * 5 + 2, none⟩ = some (.slice q x.o.l.length cl) ∧ w4.frozen? ⟨g, i * 5 + 2, none⟩ = false := fun w4 hg => by
      have hrow4 := row_kept hrowd (w' := w4) (fun kk e => by cases e; exact hg.block g (by show g < Wd.heap.size; omega) (fun e => hgx e.symm))
      obtain ⟨-, -, u2, -, -⟩ := cell_pcells hrow4 hts hx
      rw [hlv] at u2
      exact ⟨hrow4, u2, frozen_row hrow4 _⟩
    have HG : Hid _ := And.intro hOd (And.intro hlv (And.intro hbd (And.intro hlvb (And.intro hBW hsz))))
    clear hO1 hlv hqg hB hlvb hOd hbd hrl hBb hBd hBW HF hbx hc2 hv2 hrowd hWd hrow hsz hW
    go_wp2_with fail
    go_cut [4] from 5 (fun s4 W2 => s4 = .pointer (some ⟨g, i * 5, none⟩) ∧ ∃ w4 g4 c4, W2 = (w4.setCell ⟨g, i * 5 + 2, none⟩ (.slice (some ⟨g4, 0, none⟩) (x.o.l.length + more.length) c4)) ∧ w4.ownsRow base 27 2 (.slice (some ⟨g4, 0, none⟩) (x.o.l.length + more.length) c4) (x.o.l.length + more.length) (vcells x.o.l ++ vcells more) ∧ Wd.drew.grownBy w4 (Value.slice q x.o.l.length cl).ownBlock ∧ ((Value.slice q x.o.l.length cl).ownBlock = some g4 ∨ g4 = Wd.heap.size))
    case first =>
      go_region_law (first
        | (refine step_append_lies _ (by rfl) _ _ _ (by rfl) base 27 i0 (.agg #[.int .u8 0, .int .i64 0]) 2 16 Tryz.underlying47 hi0 hz0 hz1 hz2 rfl (by omega) (.slice q x.o.l.length cl) x.o.l.length (vcells x.o.l) (by rfl) hrld ⟨b2, o2, none⟩ more.length more.length (vcells more) (by rfl) (vcells_len more) hcd (vcells_one more) hm0 (by unfold maxLen; omega) (by omega) hbs Wd.heap.size (by rfl) ?_; intro g4 c4 w4 ho4 hg4 hat4 hlt4; obtain ⟨-, k0, k1⟩ := HK w4 hg4))
      all_goals
        go_wp2_with fail
        go_meet
        case rel => exact ⟨rfl, w4, g4, c4, rfl, ho4, hg4, hat4⟩
    case rest =>
      obtain ⟨rfl, w4, g4, c4, rfl, ho4, hg4, hat4⟩ := hcut
      obtain ⟨hOd, hlv, hbd, hlvb, hBW, hsz⟩ := HG.out
      obtain ⟨hrow4, -, -⟩ := HK w4 hg4
      have hOdd := hOd.kept (w' := Wd.drew) (fun _ _ _ => rfl)
      have hO5 := hOdd.more hx (more := more) (g4 := g4) (c4 := c4) (w4 := w4) ho4 (by rw [hlv]; exact hg4) (by rw [hlv]; exact hat4)
      have hyc : (ts.set i ⟨{ x.o with l := x.o.l ++ more }, .slice (some ⟨g4, 0, none⟩) (x.o.l.length + more.length) c4⟩)[i]? = some ⟨{ x.o with l := x.o.l ++ more }, .slice (some ⟨g4, 0, none⟩) (x.o.l.length + more.length) c4⟩ := List.getElem?_set_self hi
      have hO6 := hO5.room hyc r2
      rw [List.set_set] at hO6
      have hlvb2 : ∀ gg, (Value.slice q x.o.l.length cl).ownBlock = some gg → base ≤ gg ∧ gg < w.heap.size := fun gg e => hlvb gg (by rw [hlv]; exact e)
      have hB4 : Below base w w4 := (below_drew hBW).trans (rbelow_grown hg4 (fun kk e => (hlvb2 kk e).1) hbs)
      have hB6 := below_set (below_set hB4 (g := g) (i := i * 5 + 2) hb.1 (.slice (some ⟨g4, 0, none⟩) (x.o.l.length + more.length) c4)) (g := g) (i := i * 5 + 3) hb.1 (.int .i64 r2)
      have hne2 : w.heap.size ≠ g := by omega
      have hb4 : w4.heap[w.heap.size]? = _ := (hg4.block w.heap.size (by show w.heap.size < Wd.heap.size; omega) (fun e => by have := (hlvb2 _ e.symm).2; omega)).trans hbd
      have hb5 := (heap_setCell_other w4 ⟨g, i * 5 + 2, none⟩ w.heap.size (.slice (some ⟨g4, 0, none⟩) (x.o.l.length + more.length) c4) hne2).trans hb4
      obtain ⟨v0, v1, v2, v3⟩ := cell_row4C hb5
      have hrow5 := hO5.row
      rw [List.length_set, hts] at hrow5
      obtain ⟨s0, s1, s2, s3, s4⟩ := cell_pcells hrow5 (by rw [List.length_set]; exact hts) hyc
      have f3 := frozen_row hrow5 (i * 5 + 3)
      have hfr : ∀ k, k < w.heap.size → k ≠ g → x.lv.ownBlock ≠ some k → ((w4.setCell ⟨g, i * 5 + 2, none⟩ (.slice (some ⟨g4, 0, none⟩) (x.o.l.length + more.length) c4)).setCell ⟨g, i * 5 + 3, none⟩ (.int .i64 r2)).heap[k]? = w.heap[k]? := fun k hk hg hl => by
        rw [heap_setCell_other _ ⟨g, i * 5 + 3, none⟩ _ _ hg, heap_setCell_other _ ⟨g, i * 5 + 2, none⟩ _ _ hg]
        rw [hlv] at hl
        exact (hg4.block k (by show k < Wd.heap.size; omega) (fun e => hl e.symm)).trans (hWW k hk)
      have HF : Hid _ := And.intro hO6 (And.intro hB6 hfr)
      clear hfr hO6 hB6 hO5 hB4 hlv hlvb hlvb2 hOd hOdd ho4 hg4 hat4 HK HG hbd hBW hsz hyc hrow4 hrow5 hb4
      go_wp2
      refine bodyPost_end (results_none (by rfl) _ _ _) (by rfl) ?_
      exact ⟨rfl, ⟨_, HF.out.1⟩, HF.out.2.1, HF.out.2.2⟩

end Go.Proofs.YtgokofomoachaaaGreatDoor
