/- TwinVals and LeftVals: a copy of values with room behind, and that it was left as it was. -/
import Derived.Test.YtgokofomoachaaaGreatDoorShTold
namespace Go.Proofs.YtgokofomoachaaaGreatDoor
set_option linter.unusedVariables false
set_option linter.unusedSimpArgs false
open Go.RowKit

variable {w : World}

theorem ownsRow_succ2 {w : World} {base e k n : Nat} {v : Value} {xs : List Value} (h : w.ownsRow base e k v (n + 1) xs) : ∃ g c, v = .slice (some ⟨g, 0, none⟩) (n + 1) c := by
  rcases h.2 with ⟨_, h0⟩ | ⟨g, cap, cur, rfl, _⟩
  · omega
  · exact ⟨g, cap, rfl⟩

theorem ownsRow_cap2 {w : World} {base e k n g c : Nat} {xs : List Value} (h : w.ownsRow base e k (.slice (some ⟨g, 0, none⟩) (n + 1) c) (n + 1) xs) : n + 1 ≤ c ∧ c ≤ maxLen := by
  rcases h.2 with ⟨h0, _⟩ | ⟨g', cap, cur, e, _, _, h1, h2, _⟩
  · simp at h0
  · simp at e; obtain ⟨rfl, rfl⟩ := e; exact ⟨h1, h2⟩

/-- The copy. -/
def TwinAt (base : Nat) (g c : Nat) (vs : List Vl) (w : World) : Prop := w.ownsRow base 27 2 (.slice (some ⟨g, 0, none⟩) (vs.length + 1) c) (vs.length + 1) (vcells (vs ++ [⟨0, 7777⟩]))

theorem TwinAt.vals {base g c : Nat} {vs : List Vl} (h : TwinAt base g c vs w) : Vals w (some ⟨g, 0, none⟩) vs := by
  intro j v hj
  have hlt := (List.getElem?_eq_some_iff.1 hj).1
  obtain ⟨h1, h2⟩ := vcells_get (vs ++ [⟨0, 7777⟩]) j v (by rw [List.getElem?_append_left hlt]; exact hj)
  refine ⟨g, 0, rfl, ?_, ?_⟩
  · rw [Nat.zero_add, h.cellAt _ (by omega)]; exact h1
  · rw [Nat.zero_add, h.cellAt _ (by omega)]; exact h2

set_option maxRecDepth 20000 in
set_option maxHeartbeats 2000000 in
theorem twinV_in {p : Option Addr} {vs : List Vl} (c : Nat) (hv : Vals w p vs) (hlen : vs.length ≤ 1000000) :
    Calls Tryz.prog 24 #[.slice p vs.length c] w fun e w' => ∃ g c, e = .returned (.slice (some ⟨g, 0, none⟩) vs.length c) ∧ TwinAt w.heap.size g c vs w' ∧ Below w.heap.size w w' := by
  obtain ⟨i0, hi, hz0, hz1, hz2⟩ := info_parts infoV
  go_enter Tryz.func24, Tryz.ntmps24
  go_wp2_with (first
    | (at_make; refine wpList_make_own w rfl _ _ 47 rfl w.heap.size 27 i0 (.agg #[.int .u8 0, .int .i64 0]) 2 Tryz.underlying47 hi hz0 hz1 .i64 .i64 _ (vs.length + 1) rfl rfl (by simp) (by rw [hz2]; omega) (by unfold maxLen; omega) (Nat.le_refl _) ?_; intro w1 hown1 hgrow1))
  have hB1 : Below w.heap.size w w1 := rbelow_grown hgrow1 (fun q e => by cases e) (Nat.le_refl _)
  go_loopw [3, 4] (fun t k wr => ∃ (pre rest : List Vl), k = .int .i64 pre.length ∧ vs = pre ++ rest ∧ wr.ownsRow w.heap.size 27 2 t pre.length (vcells pre) ∧ Below w.heap.size w wr) (fun _ k _ => vs.length - (intOf k).toNat)
  case atStart => exact ⟨[], vs, rfl, rfl, hown1, hB1⟩
  case round =>
    obtain ⟨pre, rest, rfl, hR, hrow, hB⟩ := hrel
    have hsz := hB.size
    cases rest with
    | nil =>
      have hR' : vs = pre := by simpa using hR
      have hq : ¬ ((pre.length : Int) < (vs.length : Int)) := by rw [hR']; omega
      rw [← hR'] at hrow
      have hpl : pre.length = vs.length := by rw [hR']
      have HP : Hid _ := hpl
      clear hR hR' hpl
      go_wp2_with (first
        | (at_builtin; refine wpList_append_own _ rfl _ _ 47 rfl w.heap.size 27 i0 (.agg #[.int .u8 0, .int .i64 0]) 2 16 Tryz.underlying47 hi hz0 hz1 hz2 rfl (by decide) _ vs.length _ rfl (hrow.alloc _) ⟨wr.heap.size, 0, none⟩ 1 1 [.int .u8 0, .int .i64 7777] rfl rfl (World.news_of_block (cs := #[.int .u8 0, .int .i64 7777]) (t := 27) (fr := (0, 0)) (heap_alloc_new wr _)) (by simp [Value.oneCell']) (by unfold maxLen; omega) (by omega) (by simp; omega) ?_; intro v4 w4 hown4 hgrow4 _; obtain ⟨g4, c4, rfl⟩ := ownsRow_succ2 hown4; obtain ⟨hc4, hc5⟩ := ownsRow_cap2 hown4))
      go_ret
      refine ⟨g4, c4, rfl, ?_, (hB.alloc hB.size _).trans (rbelow_grown hgrow4 (fun q e => (hrow.lt q e).1) (by simp; omega))⟩
      unfold TwinAt
      rw [vcells_append]
      exact hown4
    | cons v rest =>
      have hlR : pre.length < vs.length := by rw [hR]; simp
      obtain ⟨b0, off, rfl, c0, c1⟩ := (hv.below hB) pre.length v (by rw [hR]; simp)
      have HR : Hid (vs = pre ++ v :: rest) := hR
      have e1 : (((pre ++ [v]).length : Nat) : Int) = pre.length + 1 := by simp
      clear hR
      go_wp2_with (first
        | (at_builtin; refine wpList_append_own _ rfl _ _ 47 rfl w.heap.size 27 i0 (.agg #[.int .u8 0, .int .i64 0]) 2 16 Tryz.underlying47 hi hz0 hz1 hz2 rfl (by decide) _ pre.length _ rfl (hrow.alloc _) ⟨wr.heap.size, 0, none⟩ 1 1 [.int .u8 v.k, .int .i64 v.n] rfl rfl (World.news_of_block (cs := #[.int .u8 v.k, .int .i64 v.n]) (t := 27) (fr := (0, 0)) (heap_alloc_new wr _)) (by simp [Value.oneCell']) (by unfold maxLen; omega) (by omega) (by simp; omega) ?_; intro v4 w4 hown4 hgrow4 _))
      go_roundw
      case rel =>
        refine ⟨pre ++ [v], rest, by rw [e1], by have := HR.out; simpa using this, ?_, (hB.alloc hB.size _).trans (rbelow_grown hgrow4 (fun q e => (hrow.lt q e).1) (by simp; omega))⟩
        rw [vcells_append, show (pre ++ [v]).length = pre.length + 1 from List.length_append]
        exact hown4
      case measure => simp [intOf]; omega

set_option maxRecDepth 20000 in
set_option maxHeartbeats 2000000 in
theorem leftV_in {base g c : Nat} {p : Option Addr} {vs : List Vl} (cl : Nat) (ht : TwinAt base g c vs w) (hv : Vals w p vs) (hlen : vs.length ≤ 1000000) :
    Calls Tryz.prog 33 #[.slice (some ⟨g, 0, none⟩) vs.length c, .slice p vs.length cl] w fun e w' => e = .returned (.bool true) ∧ Below w.heap.size w w' := by
  obtain ⟨hc4, hc5⟩ := ownsRow_cap2 ht
  have hcb : ¬ ((c : Int) ≤ (vs.length : Int)) := by omega
  go_enter Tryz.func33, Tryz.ntmps33
  go_wp2
  go_loopw [5] (fun k wr => ∃ j : Nat, k = .int .i64 j ∧ j ≤ vs.length ∧ Below w.heap.size w wr) (fun k _ => vs.length - (intOf k).toNat)
  case atStart => exact ⟨0, rfl, by omega, Below.refl _ _⟩
  case round =>
    obtain ⟨j, rfl, hj, hB⟩ := hrel
    have ht' : TwinAt base g c vs wr := row_kept ht (fun k e => hB.block k (ht.lt k e).2)
    by_cases hjn : j < vs.length
    · obtain ⟨v, hvj⟩ : ∃ v, vs[j]? = some v := ⟨vs[j], by simp⟩
      obtain ⟨b0, off, rfl, c0, c1⟩ := (hv.below hB) j v hvj
      obtain ⟨g', off', e, d0, d1⟩ := ht'.vals j v hvj
      simp at e
      obtain ⟨rfl, rfl⟩ := e
      rw [Nat.zero_add] at d0 d1
      have hjn' : (j : Int) < (vs.length : Int) := by omega
      clear hvj
      go_wp2
      go_quiet (fail)
      go_wp2
      go_roundw
      case rel => exact ⟨j + 1, by simp, by omega, below_drewN' hB _⟩
      case measure => simp [intOf]; omega
    · have hjn' : ¬ ((j : Int) < (vs.length : Int)) := by omega
      have hlast := vcells_get (vs ++ [⟨0, 7777⟩]) vs.length ⟨0, 7777⟩ (by simp)
      have d0 : wr.cell? ⟨g, vs.length * 2, none⟩ = some (.int .u8 0) := by rw [ht'.cellAt _ (by omega)]; exact hlast.1
      have d1 : wr.cell? ⟨g, vs.length * 2 + 1, none⟩ = some (.int .i64 7777) := by rw [ht'.cellAt _ (by omega)]; exact hlast.2
      clear hlast
      go_wp2
      go_ret
      exact ⟨rfl, hB.alloc hB.size _⟩

end Go.Proofs.YtgokofomoachaaaGreatDoor

namespace Go.Proofs.YtgokofomoachaaaGreatDoor
set_option linter.unusedVariables false
set_option linter.unusedSimpArgs false
open Go.RowKit

variable {w : World}

theorem TwinAt.kept {base g c : Nat} {vs : List Vl} (h : TwinAt base g c vs w) {w' : World} (hk : w'.heap[g]? = w.heap[g]?) : TwinAt base g c vs w' :=
  row_kept h (fun k e => by simp [Value.ownBlock] at e; subst e; exact hk)

theorem TwinAt.lt {base g c : Nat} {vs : List Vl} (h : TwinAt base g c vs w) : base ≤ g ∧ g < w.heap.size := World.ownsRow.lt (show w.ownsRow base 27 2 (.slice (some ⟨g, 0, none⟩) (vs.length + 1) c) (vs.length + 1) (vcells (vs ++ [⟨0, 7777⟩])) from h) g rfl

theorem TwinAt.below {base g c : Nat} {vs : List Vl} (h : TwinAt base g c vs w) {w' : World} (hB : Below w.heap.size w w') : TwinAt base g c vs w' := h.kept (hB.block g h.lt.2)

theorem TwinAt.obj {base g c : Nat} {vs : List Vl} (h : TwinAt base g c vs w) : ∃ cur, w.heap[g]? = some (.cells cur 27 (0, 0)) := row_obj h rfl

set_option maxRecDepth 20000 in
set_option maxHeartbeats 2000000 in
theorem twinObj_in (o : Om) (q : Option Addr) (c : Nat) (hv : Vals w q o.l) (hl : o.l.length ≤ 1000000) :
    Calls Tryz.prog 153 #[objV o q c] w fun e w' => ∃ g cc, e = .returned (objV o (some ⟨g, 0, none⟩) cc) ∧ TwinAt w.heap.size g cc o.l w' ∧ Below w.heap.size w w' := by
  unfold objV
  have hB2 := below2' w (.cells #[.int .u8 o.k, .string o.s, .slice q o.l.length c, .int .i64 o.room, .int .i64 o.fn] 96) (.cells #[.int .u8 0, .string ⟨#[]⟩, .slice none 0 0, .int .i64 0, .int .i64 0] 96)
  have hb0 := (Below.heap_alloc (w.alloc (.cells #[.int .u8 o.k, .string o.s, .slice q o.l.length c, .int .i64 o.room, .int .i64 o.fn] 96)) (.cells #[.int .u8 0, .string ⟨#[]⟩, .slice none 0 0, .int .i64 0, .int .i64 0] 96) w.heap.size (by simp)).trans (heap_alloc_new w (.cells #[.int .u8 o.k, .string o.s, .slice q o.l.length c, .int .i64 o.room, .int .i64 o.fn] 96))
  have hb1 := heap_two w (.cells #[.int .u8 o.k, .string o.s, .slice q o.l.length c, .int .i64 o.room, .int .i64 o.fn] 96) (.cells #[.int .u8 0, .string ⟨#[]⟩, .slice none 0 0, .int .i64 0, .int .i64 0] 96)
  have hsz : ((w.alloc (.cells #[.int .u8 o.k, .string o.s, .slice q o.l.length c, .int .i64 o.room, .int .i64 o.fn] 96)).alloc (.cells #[.int .u8 0, .string ⟨#[]⟩, .slice none 0 0, .int .i64 0, .int .i64 0] 96)).heap.size = w.heap.size + 2 := by simp
  obtain ⟨⟨o0, o1, o2, o3, o4⟩, -⟩ := cell_row5 hb0
  have H1 := fun (W : World) (h : Below w.heap.size w W) => twinV_in c (hv.below h) hl
  go_enter Tryz.func153, Tryz.ntmps153
  go_wp2
  generalize hWA : (w.alloc (.cells #[.int .u8 o.k, .string o.s, .slice q o.l.length c, .int .i64 o.room, .int .i64 o.fn] 96)).alloc (.cells #[.int .u8 0, .string ⟨#[]⟩, .slice none 0 0, .int .i64 0, .int .i64 0] 96) = WA at *
  have hne : w.heap.size ≠ w.heap.size + 1 := by omega
  obtain ⟨⟨z0, z1, z2, z3, z4⟩, ⟨y0, y1, y2, y3, y4⟩⟩ := cell_row5 hb1
  go_region_held3 (fun W => W.cell? ⟨w.heap.size, 0, none⟩ = some (.int .u8 o.k) ∧ W.cell? ⟨w.heap.size, 1, none⟩ = some (.string o.s) ∧ W.cell? ⟨w.heap.size, 2, none⟩ = some (.slice q o.l.length c) ∧ W.cell? ⟨w.heap.size, 3, none⟩ = some (.int .i64 o.room) ∧ W.cell? ⟨w.heap.size, 4, none⟩ = some (.int .i64 o.fn)) (first | with_reducible exact ⟨o0, o1, o2, o3, o4⟩ | with_reducible exact ⟨p0, p1, p2, p3, p4⟩ | with_reducible exact ⟨(cell_set5 hne).trans p0, (cell_set5 hne).trans p1, (cell_set5 hne).trans p2, (cell_set5 hne).trans p3, (cell_set5 hne).trans p4⟩ | go_keep)
    ((go_at_call 24; refine (H1 _ (below_drew hB2)).mono ?_; rintro e w1 ⟨g, cc, rfl, htw, hB1⟩; have hb2 := (hB1.block w.heap.size (by show w.heap.size < WA.heap.size; omega)).trans hb0; have hb3 := (hB1.block (w.heap.size + 1) (by show w.heap.size + 1 < WA.heap.size; omega)).trans hb1; obtain ⟨⟨p0, p1, p2, p3, p4⟩, -⟩ := cell_row5 hb2; obtain ⟨⟨r0, r1, r2, r3, r4⟩, ⟨s0, s1, s2, s3, s4⟩⟩ := cell_row5 hb3))
  all_goals
    go_wp2
    refine bodyPost_ret (results_cell_row (by rfl) _ _ (w.heap.size + 1) 96 _ _ _ (by rfl) (set5_row hb3) Tryz.underlying96 (by rfl) infoO) (by rfl) ?_
    have hB3 : Below w.heap.size w w1 := (below_drew hB2).trans (hB1.mono (by show w.heap.size ≤ WA.heap.size; omega))
    have hg := htw.lt
    refine ⟨g, cc, rfl, TwinAt.kept (w := w1) (show TwinAt w.heap.size g cc o.l w1 from row_mono2 htw (by show w.heap.size ≤ WA.heap.size; omega)) ?_, below_set5 hB3 (by omega) _ _ _ _ _⟩
    have hgne : g ≠ w.heap.size + 1 := by have : WA.heap.size ≤ g := hg.1; omega
    rw [heap_setCell_other _ ⟨w.heap.size + 1, 4, none⟩ _ _ hgne, heap_setCell_other _ ⟨w.heap.size + 1, 3, none⟩ _ _ hgne, heap_setCell_other _ ⟨w.heap.size + 1, 2, none⟩ _ _ hgne, heap_setCell_other _ ⟨w.heap.size + 1, 1, none⟩ _ _ hgne, heap_setCell_other _ ⟨w.heap.size + 1, 0, none⟩ _ _ hgne]

/-- An object and where its copied values lie. -/
structure Ot where
  o : Om
  g : Nat
  c : Nat

def ocell (x : Ot) : List Value := [.int .u8 x.o.k, .string x.o.s, .slice (some ⟨x.g, 0, none⟩) x.o.l.length x.c, .int .i64 x.o.room, .int .i64 x.o.fn]

def ocells : List Ot → List Value
  | [] => []
  | x :: r => ocell x ++ ocells r

theorem ocells_len : ∀ (l : List Ot), (ocells l).length = l.length * 5
  | [] => rfl
  | v :: r => by simp [ocells, ocell, ocells_len r]; omega

theorem ocells_append : ∀ (l r : List Ot), ocells (l ++ r) = ocells l ++ ocells r
  | [], _ => rfl
  | v :: l, r => by simp [ocells, ocells_append l r]

theorem ocells_get : ∀ (l : List Ot) (j : Nat) (x : Ot) (t : List Value), l[j]? = some x → ∀ i, i < 5 → (ocells l ++ t)[j * 5 + i]? = (ocell x)[i]?
  | [], j, x, t, h => by simp at h
  | u :: r, 0, x, t, h => by
    simp at h; subst h
    intro i hi
    simp only [ocells, List.append_assoc]
    rw [List.getElem?_append_left (by simp [ocell]; omega)]
    congr 1; omega
  | u :: r, j + 1, x, t, h => by
    intro i hi
    have := ocells_get r j x t (by simpa using h) i hi
    rw [← this]
    simp only [ocells, List.append_assoc]
    rw [List.getElem?_append_right (by simp [ocell]; omega)]
    congr 1
    simp [ocell]; omega

def spareO : List Value := [.int .u8 0, .string ⟨#[115, 112, 97, 114, 101]⟩, .slice none 0 0, .int .i64 0, .int .i64 0]

/-- A copied store. -/
structure TwinSt (base G C : Nat) (ts : List Ot) (w : World) : Prop where
  row : w.ownsRow base 96 5 (.slice (some ⟨G, 0, none⟩) (ts.length + 1) C) (ts.length + 1) (ocells ts ++ spareO)
  vals : ∀ x ∈ ts, TwinAt base x.g x.c x.o.l w

theorem TwinSt.below {base G C : Nat} {ts : List Ot} (h : TwinSt base G C ts w) {w' : World} (hB : Below w.heap.size w w') : TwinSt base G C ts w' :=
  ⟨row_below h.row hB, fun x hx => (h.vals x hx).below hB⟩

theorem TwinSt.cells {base G C : Nat} {ts : List Ot} (h : TwinSt base G C ts w) {j : Nat} {x : Ot} (hj : ts[j]? = some x) :
    w.cell? ⟨G, j * 5, none⟩ = some (.int .u8 x.o.k) ∧ w.cell? ⟨G, j * 5 + 1, none⟩ = some (.string x.o.s) ∧ w.cell? ⟨G, j * 5 + 2, none⟩ = some (.slice (some ⟨x.g, 0, none⟩) x.o.l.length x.c) ∧ w.cell? ⟨G, j * 5 + 3, none⟩ = some (.int .i64 x.o.room) ∧ w.cell? ⟨G, j * 5 + 4, none⟩ = some (.int .i64 x.o.fn) := by
  have hlt := (List.getElem?_eq_some_iff.1 hj).1
  have hg := ocells_get ts j x spareO hj
  refine ⟨?_, ?_, ?_, ?_, ?_⟩
  · rw [h.row.cellAt _ (by omega)]; have := hg 0 (by omega); simpa [ocell] using this
  · rw [h.row.cellAt _ (by omega), hg 1 (by omega)]; rfl
  · rw [h.row.cellAt _ (by omega), hg 2 (by omega)]; rfl
  · rw [h.row.cellAt _ (by omega), hg 3 (by omega)]; rfl
  · rw [h.row.cellAt _ (by omega), hg 4 (by omega)]; rfl

theorem TwinSt.isSt {base G C : Nat} {ts : List Ot} (h : TwinSt base G C ts w) : IsSt w (some ⟨G, 0, none⟩) (ts.map Ot.o) := by
  intro j o hj
  rw [List.getElem?_map] at hj
  cases hx : ts[j]? with
  | none => rw [hx] at hj; simp at hj
  | some x =>
    rw [hx] at hj; simp at hj; subst hj
    obtain ⟨h0, h1, h2, h3, h4⟩ := h.cells hx
    refine ⟨G, 0, rfl, by simpa using h0, by simpa using h1, ⟨_, x.c, by simpa using h2, (h.vals x (List.mem_of_getElem? hx)).vals, fun e => by cases e⟩, by simpa using h3, by simpa using h4⟩

theorem infoO2 : (Tryz.prog.info? 96).map (fun i => (i.zero, i.size, i.bytes)) = some (some (.agg #[.int .u8 0, .string ⟨#[]⟩, .slice none 0 0, .int .i64 0, .int .i64 0]), 5, 64) := by kernel_rfl

set_option maxRecDepth 20000 in
set_option maxHeartbeats 2000000 in
theorem twinObjs_in {p : Option Addr} {S : List Om} (c : Nat) (hs : IsSt w p S) (hlen : S.length ≤ 1048576) (hls : ∀ o ∈ S, o.l.length ≤ 1000000) :
    Calls Tryz.prog 48 #[.slice p S.length c] w fun e w' => ∃ g c, e = .returned (.slice (some ⟨g, 0, none⟩) S.length c) ∧ ∃ ts : List Ot, ts.map Ot.o = S ∧ TwinSt w.heap.size g c ts w' ∧ Below w.heap.size w w' := by
  obtain ⟨i0, hi, hz0, hz1, hz2⟩ := info_parts infoO2
  go_enter Tryz.func48, Tryz.ntmps48
  go_wp2_with (first
    | (at_make; refine wpList_make_own w rfl _ _ 22 rfl w.heap.size 96 i0 (.agg #[.int .u8 0, .string ⟨#[]⟩, .slice none 0 0, .int .i64 0, .int .i64 0]) 5 Tryz.underlying22 hi hz0 hz1 .i64 .i64 _ (S.length + 1) rfl rfl (by simp) (by rw [hz2]; omega) (by unfold maxLen; omega) (Nat.le_refl _) ?_; intro w1 hown1 hgrow1))
  have hB1 : Below w.heap.size w w1 := rbelow_grown hgrow1 (fun q e => by cases e) (Nat.le_refl _)
  go_loopw [3, 4] (fun t k wr => ∃ (ts : List Ot) (rest : List Om), k = .int .i64 ts.length ∧ S = ts.map Ot.o ++ rest ∧ wr.ownsRow w.heap.size 96 5 t ts.length (ocells ts) ∧ (∀ x ∈ ts, TwinAt w.heap.size x.g x.c x.o.l wr) ∧ Below w.heap.size w wr) (fun _ k _ => S.length - (intOf k).toNat)
  case atStart => exact ⟨[], S, rfl, rfl, hown1, by simp, hB1⟩
  case round =>
    obtain ⟨ts, rest, rfl, hR, hrow, htw, hB⟩ := hrel
    have hsz := hB.size
    cases rest with
    | nil =>
      have hR' : S = ts.map Ot.o := by simpa using hR
      have hpl : ts.length = S.length := by rw [hR']; simp
      have hq : ¬ ((ts.length : Int) < (S.length : Int)) := by omega
      rw [hpl] at hrow
      have HP : Hid _ := And.intro hpl hR'
      clear hR hR' hpl
      go_wp2_with (first
        | (at_builtin; refine wpList_append_own _ rfl _ _ 22 rfl w.heap.size 96 i0 (.agg #[.int .u8 0, .string ⟨#[]⟩, .slice none 0 0, .int .i64 0, .int .i64 0]) 5 64 Tryz.underlying22 hi hz0 hz1 hz2 rfl (by decide) _ S.length _ rfl (hrow.alloc _) ⟨wr.heap.size, 0, none⟩ 1 1 spareO rfl rfl (World.news_of_block (cs := #[.int .u8 0, .string ⟨#[115, 112, 97, 114, 101]⟩, .slice none 0 0, .int .i64 0, .int .i64 0]) (t := 96) (fr := (0, 0)) (heap_alloc_new wr _)) (by simp [spareO, Value.oneCell']) (by unfold maxLen; omega) (by omega) (by simp; omega) ?_; intro v4 w4 hown4 hgrow4 _; obtain ⟨g4, c4, rfl⟩ := ownsRow_succ2 hown4; obtain ⟨hc4, hc5⟩ := ownsRow_cap2 hown4))
      go_ret
      obtain ⟨hpl, hR'⟩ := HP.out
      rw [← hpl] at hown4
      refine ⟨g4, c4, rfl, ts, hR'.symm, ⟨hown4, fun x hx => ?_⟩, (hB.alloc hB.size _).trans (rbelow_grown hgrow4 (fun q e => (hrow.lt q e).1) (by simp; omega))⟩
      have h1 := htw x hx
      refine h1.kept ((hgrow4.block _ (by have := h1.lt.2; simp; omega) (fun e => ?_)).trans (Below.heap_alloc _ _ _ h1.lt.2))
      obtain ⟨cur, hc⟩ := row_obj hrow e.symm
      obtain ⟨cur', hc'⟩ := h1.obj
      rw [hc] at hc'
      cases hc'
    | cons o rest =>
      have hlR : ts.length < S.length := by rw [hR]; simp
      have hSo : S[ts.length]? = some o := by rw [hR]; simp
      have hoS := List.mem_of_getElem? hSo
      obtain ⟨b0, off, rfl, c0, c1, ⟨q, cq, c2, hvq, -⟩, c3, c4⟩ := hs.look hB hSo
      have H1 := twinObj_in o q cq (hvq.below hB) (hls o hoS)
      unfold objV at H1
      have HR : Hid (S = ts.map Ot.o ++ o :: rest) := hR
      clear hR
      go_wp2_with (first
        | (go_at_call 153; refine H1.mono ?_; clear H1; rintro e w2 ⟨gg, cc, rfl, htg, hB2⟩; have hrow2 := row_below hrow hB2; have hsz2 := hB2.size)
        | (at_builtin; refine wpList_append_own _ rfl _ _ 22 rfl w.heap.size 96 i0 (.agg #[.int .u8 0, .string ⟨#[]⟩, .slice none 0 0, .int .i64 0, .int .i64 0]) 5 64 Tryz.underlying22 hi hz0 hz1 hz2 rfl (by decide) _ ts.length _ rfl (hrow2.alloc _) ⟨w2.heap.size, 0, none⟩ 1 1 (ocell ⟨o, gg, cc⟩) rfl rfl (World.news_of_block (cs := #[.int .u8 o.k, .string o.s, .slice (some ⟨gg, 0, none⟩) o.l.length cc, .int .i64 o.room, .int .i64 o.fn]) (t := 96) (fr := (0, 0)) (heap_alloc_new w2 _)) (by simp [ocell, Value.oneCell']) (by unfold maxLen; omega) (by omega) (by simp; omega) ?_; intro v4 w4 hown4 hgrow4 _))
      have e1 : (((ts ++ [(⟨o, gg, cc⟩ : Ot)]).length : Nat) : Int) = ts.length + 1 := by simp
      go_roundw
      case rel =>
        have hBg : Below w.heap.size w w4 := ((hB.trans (hB2.mono hsz)).alloc (by omega) _).trans (rbelow_grown hgrow4 (fun q e => (hrow2.lt q e).1) (by simp; omega))
        refine ⟨ts ++ [⟨o, gg, cc⟩], rest, by rw [e1], by have := HR.out; simpa using this, ?_, ?_, hBg⟩
        · rw [ocells_append, show (ts ++ [(⟨o, gg, cc⟩ : Ot)]).length = ts.length + 1 from List.length_append]
          simpa [ocells] using hown4
        · intro x hx
          have key : ∀ {y : Ot}, TwinAt w.heap.size y.g y.c y.o.l w2 → TwinAt w.heap.size y.g y.c y.o.l w4 := fun {y} h1 => by
            refine h1.kept ((hgrow4.block _ (by have := h1.lt.2; simp; omega) (fun e => ?_)).trans (Below.heap_alloc _ _ _ h1.lt.2))
            obtain ⟨cur, hc⟩ := row_obj hrow2 e.symm
            obtain ⟨cur', hc'⟩ := h1.obj
            rw [hc] at hc'
            cases hc'
          rcases List.mem_append.1 hx with hx | hx
          · exact key ((htw x hx).below hB2)
          · simp at hx; subst hx
            exact key (row_mono2 htg hsz)
      case measure => simp [intOf]; omega

set_option maxRecDepth 20000 in
set_option maxHeartbeats 2000000 in
theorem leftObj_in {base : Nat} (x : Ot) (q : Option Addr) (c : Nat) (ht : TwinAt base x.g x.c x.o.l w) (hv : Vals w q x.o.l) (hl : x.o.l.length ≤ 1000000) :
    Calls Tryz.prog 244 #[objV x.o (some ⟨x.g, 0, none⟩) x.c, objV x.o q c] w fun e w' => e = .returned (.bool true) ∧ Below w.heap.size w w' := by
  obtain ⟨o, g, cc⟩ := x
  dsimp only at ht hv hl ⊢
  unfold objV
  have hB2 := below2' w (.cells #[.int .u8 o.k, .string o.s, .slice (some ⟨g, 0, none⟩) o.l.length cc, .int .i64 o.room, .int .i64 o.fn] 96) (.cells #[.int .u8 o.k, .string o.s, .slice q o.l.length c, .int .i64 o.room, .int .i64 o.fn] 96)
  have hb0 := (Below.heap_alloc (w.alloc (.cells #[.int .u8 o.k, .string o.s, .slice (some ⟨g, 0, none⟩) o.l.length cc, .int .i64 o.room, .int .i64 o.fn] 96)) (.cells #[.int .u8 o.k, .string o.s, .slice q o.l.length c, .int .i64 o.room, .int .i64 o.fn] 96) w.heap.size (by simp)).trans (heap_alloc_new w (.cells #[.int .u8 o.k, .string o.s, .slice (some ⟨g, 0, none⟩) o.l.length cc, .int .i64 o.room, .int .i64 o.fn] 96))
  have hb1 := heap_two w (.cells #[.int .u8 o.k, .string o.s, .slice (some ⟨g, 0, none⟩) o.l.length cc, .int .i64 o.room, .int .i64 o.fn] 96) (.cells #[.int .u8 o.k, .string o.s, .slice q o.l.length c, .int .i64 o.room, .int .i64 o.fn] 96)
  have hsz : ((w.alloc (.cells #[.int .u8 o.k, .string o.s, .slice (some ⟨g, 0, none⟩) o.l.length cc, .int .i64 o.room, .int .i64 o.fn] 96)).alloc (.cells #[.int .u8 o.k, .string o.s, .slice q o.l.length c, .int .i64 o.room, .int .i64 o.fn] 96)).heap.size = w.heap.size + 2 := by simp
  obtain ⟨⟨o0, o1, o2, o3, o4⟩, -⟩ := cell_row5 hb0
  obtain ⟨⟨p0, p1, p2, p3, p4⟩, -⟩ := cell_row5 hb1
  have H1 := fun (W : World) (h : Below w.heap.size w W) => leftV_in c (ht.below h) (hv.below h) hl
  go_enter Tryz.func244, Tryz.ntmps244
  go_wp2_with (first
    | (go_at_call 33; refine (H1 _ (below2' _ _ _)).mono ?_; rintro e w1 ⟨rfl, hB1⟩; obtain ⟨⟨r0, r1, r2, r3, r4⟩, -⟩ := cell_row5 ((hB1.block w.heap.size (by omega)).trans hb0); obtain ⟨⟨s0, s1, s2, s3, s4⟩, -⟩ := cell_row5 ((hB1.block (w.heap.size + 1) (by omega)).trans hb1)))
  go_ret
  exact ⟨rfl, hB2.trans (hB1.mono (by omega))⟩

set_option maxRecDepth 20000 in
set_option maxHeartbeats 2000000 in
theorem leftObjs_in {base G C : Nat} {p : Option Addr} {ts : List Ot} (cl : Nat) (ht : TwinSt base G C ts w) (hs : IsSt w p (ts.map Ot.o)) (hlen : ts.length ≤ 1048576) (hls : ∀ x ∈ ts, x.o.l.length ≤ 1000000) :
    Calls Tryz.prog 176 #[.slice (some ⟨G, 0, none⟩) ts.length C, .slice p ts.length cl] w fun e w' => e = .returned (.bool true) ∧ Below w.heap.size w w' := by
  obtain ⟨hc4, hc5⟩ := ownsRow_cap2 ht.row
  have hcb : ¬ ((C : Int) ≤ (ts.length : Int)) := by omega
  go_enter Tryz.func176, Tryz.ntmps176
  go_wp2
  go_loopw [5] (fun k wr => ∃ j : Nat, k = .int .i64 j ∧ j ≤ ts.length ∧ Below w.heap.size w wr) (fun k _ => ts.length - (intOf k).toNat)
  case atStart => exact ⟨0, rfl, by omega, Below.refl _ _⟩
  case round =>
    obtain ⟨j, rfl, hj, hB⟩ := hrel
    have ht' := ht.below hB
    by_cases hjn : j < ts.length
    · obtain ⟨x, hxj⟩ : ∃ x, ts[j]? = some x := ⟨ts[j], by simp [hjn]⟩
      obtain ⟨b0, off, rfl, c0, c1, ⟨q, cq, c2, hvq, -⟩, c3, c4⟩ := hs.look hB (j := j) (o := x.o) (by rw [List.getElem?_map, hxj]; rfl)
      obtain ⟨d0, d1, d2, d3, d4⟩ := ht'.cells hxj
      have H1 := fun (W : World) (h : Below w.heap.size w W) => leftObj_in x q cq ((ht.below h).vals x (List.mem_of_getElem? hxj)) (hvq.below h) (hls x (List.mem_of_getElem? hxj))
      unfold objV at H1
      have hjn' : (j : Int) < (ts.length : Int) := by omega
      clear hxj
      go_wp2
      go_region_with
        ((go_at_call 244; refine (H1 _ (below_drew hB)).mono ?_; rintro e w2 ⟨rfl, hB2⟩))
      all_goals
        go_wp2
        go_roundw
        case rel => exact ⟨j + 1, by simp, by omega, (below_drew hB).trans (hB2.mono hB.size)⟩
        case measure => simp [intOf]; omega
    · have hjn' : ¬ ((j : Int) < (ts.length : Int)) := by omega
      have hlast : ∀ i, i < 5 → wr.cell? ⟨G, ts.length * 5 + i, none⟩ = spareO[i]? := by
        intro i hi
        rw [ht'.row.cellAt _ (by omega), List.getElem?_append_right (by rw [ocells_len]; omega)]
        congr 1
        rw [ocells_len]; omega
      have d0 : wr.cell? ⟨G, ts.length * 5, none⟩ = some (.int .u8 0) := hlast 0 (by omega)
      have d1 : wr.cell? ⟨G, ts.length * 5 + 1, none⟩ = some (.string ⟨#[115, 112, 97, 114, 101]⟩) := hlast 1 (by omega)
      have d2 : wr.cell? ⟨G, ts.length * 5 + 2, none⟩ = some (.slice none 0 0) := hlast 2 (by omega)
      have d3 : wr.cell? ⟨G, ts.length * 5 + 3, none⟩ = some (.int .i64 0) := hlast 3 (by omega)
      have d4 : wr.cell? ⟨G, ts.length * 5 + 4, none⟩ = some (.int .i64 0) := hlast 4 (by omega)
      clear hlast
      go_wp2
      go_ret
      exact ⟨rfl, hB.alloc hB.size _⟩

theorem twinStore_in {p : Option Addr} {S : List Om} (c : Nat) (hs : IsSt w p S) (hlen : S.length ≤ 1048576) (hls : ∀ o ∈ S, o.l.length ≤ 1000000) :
    Calls Tryz.prog 10 #[.slice p S.length c] w fun e w' => ∃ g c, e = .returned (.slice (some ⟨g, 0, none⟩) S.length c) ∧ ∃ ts : List Ot, ts.map Ot.o = S ∧ TwinSt w.heap.size g c ts w' ∧ Below w.heap.size w w' := by
  have H := twinObjs_in c hs hlen hls
  go_enter Tryz.func10, Tryz.ntmps10
  go_wp2_with (first
    | (go_at_call 48; refine H.mono ?_; clear H; rintro e w2 ⟨g, c', rfl, ts, h1, h2, h3⟩))
  go_ret
  exact ⟨g, c', rfl, ts, h1, h2, h3⟩

theorem leftStore_in {base G C : Nat} {p : Option Addr} {ts : List Ot} (cl : Nat) (ht : TwinSt base G C ts w) (hs : IsSt w p (ts.map Ot.o)) (hlen : ts.length ≤ 1048576) (hls : ∀ x ∈ ts, x.o.l.length ≤ 1000000) :
    Calls Tryz.prog 61 #[.slice (some ⟨G, 0, none⟩) ts.length C, .slice p ts.length cl] w fun e w' => e = .returned (.bool true) ∧ Below w.heap.size w w' := by
  have H := leftObjs_in cl ht hs hlen hls
  go_enter Tryz.func61, Tryz.ntmps61
  go_wp2_with (first
    | (go_at_call 176; refine H.mono ?_; clear H; rintro e w2 ⟨rfl, h3⟩))
  go_ret
  exact ⟨rfl, h3⟩

end Go.Proofs.YtgokofomoachaaaGreatDoor
