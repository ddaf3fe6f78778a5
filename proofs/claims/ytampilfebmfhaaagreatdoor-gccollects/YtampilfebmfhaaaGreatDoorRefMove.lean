/- The document's Move, Cut, Places. -/
import Derived.Test.YtampilfebmfhaaaGreatDoorRefAlloc
namespace Go.Proofs.YtampilfebmfhaaaGreatDoor
open Go.RowKit

attribute [local go_sem ↓] Go.wp_at_zero Go.wp_at_succ

variable {n₀ br all en : Nat} {vo : Value} {w : World} {R : List (Ob × Value)}

theorem row_mono' {w : World} {base base' size : Nat} {e : TypeId} {v : Value} {n : Nat} {xs : List Value} (h : w.ownsRow base e size v n xs) (hb : base' ≤ base) : w.ownsRow base' e size v n xs := by
  refine ⟨h.1, ?_⟩
  rcases h.2 with hn | ⟨g, cap, cur, hv, hg, rest⟩
  · exact .inl hn
  · exact .inr ⟨g, cap, cur, hv, Nat.le_trans hb hg, rest⟩

/-- The list of objects is another one, out of the old ones. -/
theorem IsRf.replaced {W w1 w2 : World} (h : IsRf n₀ br vo W all en R) {R' : List (Ob × Value)} {vo' : Value} {en' : Nat} (hB : Below W.heap.size W w1) (hrow : w1.ownsRow W.heap.size 85 3 vo' R'.length (rcells R'))
    (hsub : (R'.map (fun x => (x.1.ws, x.2))).Sublist (R.map (fun x => (x.1.ws, x.2)))) (hbnd : ∀ x ∈ R', x.1.at_ < 1048576 ∧ x.1.kind < 256) (hen : en' ≤ all)
    (hoth : ∀ q, q ≠ br → w2.heap[q]? = w1.heap[q]?) (hbr : w2.heap[br]? = some (.cells #[.int .i64 all, .int .i64 en', vo'] 88 (0, 0))) (hsz : w2.heap.size = w1.heap.size)
    (e1 : w2.os = w1.os) (e2 : w2.tape = w1.tape) (e3 : w2.output = w1.output) :
    IsRf n₀ br vo' w2 all en' R' ∧ RStep br vo R W vo' R' w2 := by
  have hlt := h.lt
  have hbase : n₀ ≤ W.heap.size := Nat.le_trans h.base (Nat.le_of_lt hlt)
  have from_ : ∀ x ∈ R', ∃ y ∈ R, y.1.ws = x.1.ws ∧ y.2 = x.2 := by
    intro x hx
    have := hsub.subset (List.mem_map.2 ⟨x, hx, rfl⟩)
    obtain ⟨y, hy, e⟩ := List.mem_map.1 this
    simp at e
    exact ⟨y, hy, e.1, e.2⟩
  have hle : R'.length ≤ R.length := by have := hsub.length_le; simpa using this
  have old : ∀ q, q < W.heap.size → q ≠ br → w2.heap[q]? = W.heap[q]? := fun q hq hn => (hoth q hn).trans (hB.block q hq)
  refine ⟨⟨h.base, hbr, ?_, ?_, ?_, by have := h.le; omega, ?_, hen, h.all20⟩, ⟨by rw [e1, hB.os], by rw [e2, hB.tape], by rw [e3, hB.output], by rw [hsz]; exact hB.size, ?_, ?_, ?_⟩⟩
  · exact row_mono' (IsRf.row_kept hrow (fun q e => hoth q (by have := (hrow.lt q e).1; omega))) hbase
  · intro x hx
    obtain ⟨y, hy, e4, e5⟩ := from_ x hx
    rw [← e4, ← e5]
    exact ⟨IsRf.row_kept (h.wrds y hy).1 (fun q e => old q ((h.wrds y hy).1.lt q e).2 (h.nwo hy e).1), (h.wrds y hy).2⟩
  · have h1 : (R'.map (fun x => x.2.ownBlock)).Sublist (R.map (fun x => x.2.ownBlock)) := by
      have := hsub.map (fun p : List Nat × Value => p.2.ownBlock)
      simpa [Function.comp_def] using this
    exact h1.nodup h.nod
  · intro x hx
    obtain ⟨y, hy, e4, _⟩ := from_ x hx
    have := h.bnd y hy
    have := hbnd x hx
    rw [← e4]
    omega
  · intro q hq hm
    exact old q hq (fun e => hm (.inl e))
  · rintro q (rfl | e | ⟨x, hx, e⟩)
    · exact .inl (.inl rfl)
    · exact .inr (hrow.lt q e).1
    · obtain ⟨y, hy, _, e5⟩ := from_ x hx
      exact .inl (.inr (.inr ⟨y, hy, by rw [e5]; exact e⟩))
  · intro x hx
    obtain ⟨y, hy, _, e5⟩ := from_ x hx
    exact .inl ⟨y, hy, by rw [e5]⟩

theorem rbelow_grown {W w1 : World} {m₀ : Nat} {row : Option Nat} (hg : W.grownBy w1 row) (hrow : ∀ q, row = some q → m₀ ≤ q) (hm : m₀ ≤ W.heap.size) : Below m₀ W w1 :=
  ⟨hg.os, hg.tape, hg.output, hg.size, fun k hk => hg.block k (by omega) (fun e => by have := hrow k e.symm; omega)⟩

set_option maxRecDepth 20000 in
set_option maxHeartbeats 1000000 in
theorem rplaces_in (h : IsRf n₀ br vo w all en R) : Calls Tryz.prog 31 #[.pointer (some ⟨br, 0, none⟩)] w fun e w' => ∃ p c, e = .returned (.slice p R.length c) ∧ w'.ownsRow w.heap.size 2 1 (.slice p R.length c) R.length (R.map (fun x => pv x.1.at_)) ∧ Below w.heap.size w w' := by
  have hle := h.le
  obtain ⟨p, c, rfl, _, _, hp⟩ := IsRf.row_some3 h.row
  obtain ⟨i0, hi, hz0, hz1, hz2⟩ := info_parts info2
  go_enter Tryz.func31, Tryz.ntmps31
  go_wp2
  go_loopw [3, 4] (fun out k wr => ∃ (l r : List (Ob × Value)), R = l ++ r ∧ k = .int .i64 l.length ∧ wr.ownsRow w.heap.size 2 1 out l.length (l.map (fun x => pv x.1.at_)) ∧ Below w.heap.size w wr) (fun _ k _ => R.length - (intOf k).toNat)
  case atStart => exact ⟨[], R, rfl, rfl, World.ownsRow_nil _ _ _ _, Below.refl _ _⟩
  case round =>
    obtain ⟨l, r, hR, rfl, hrow, hB⟩ := hrel
    have h' := h.below hB
    have hc := h'.c2
    cases r with
    | nil =>
      have hR' : R = l := by simpa using hR
      have hq : ¬ ((l.length : Int) < (R.length : Int)) := by rw [hR']; omega
      have E1 : Hid _ := hR'
      obtain ⟨p1, c1, hv, _, _⟩ := IsAr.row_form hrow
      have E2 : Hid _ := hv
      clear hR hR' hp hv
      go_wp2
      go_ret
      have e := E2.out
      refine ⟨p1, c1, ?_, ?_, hB⟩
      · rw [E1.out, ← e]; rfl
      · rw [E1.out, ← e]; exact hrow
    | cons x r =>
      have hlR : l.length < R.length := by rw [hR]; simp
      obtain ⟨g, rfl⟩ := hp (by omega)
      have hxm : x ∈ R := by rw [hR]; simp
      obtain ⟨e0, e1, e2⟩ := h'.elem (j := l.length) (x := x) (by rw [hR]; simp)
      obtain ⟨b1, b2, _⟩ := h.bnd x hxm
      have HR : Hid (R = l ++ x :: r) := hR
      have hsz := hB.size
      clear hR hxm
      go_wp2_with (at_builtin; refine wpList_append_own _ rfl _ _ 29 rfl w.heap.size 2 i0 (.int .i64 0) 1 8 Tryz.underlying29 hi hz0 hz1 hz2 rfl (by decide) _ l.length _ rfl (hrow.alloc _) ⟨wr.heap.size, 0, none⟩ 1 1 [.int .i64 x.1.at_] rfl rfl (cell_one_new _ _ _) (by simp [Value.oneCell']) (by unfold maxLen; omega) (by omega) (by simp; omega) ?_; intro v4 w4 hown4 hgrow4 _)
      go_roundw
      case rel =>
        have e1 : (((l ++ [x]).length : Nat) : Int) = l.length + 1 := by simp
        refine ⟨l ++ [x], r, by have := HR.out; simpa using this, by rw [e1], ?_, ?_⟩
        · simpa [pv] using hown4
        · exact (hB.alloc hB.size _).trans (rbelow_grown hgrow4 (fun q e => (hrow.lt q e).1) (by simp; omega))
      case measure => simp [intOf]; omega

/-- What stays behind a cut. -/
def ahR (t : Nat) (x : Ob × Value) : Bool := decide (x.1.at_ < t)

set_option maxRecDepth 20000 in
set_option maxHeartbeats 1000000 in
theorem rcut_ok (h : IsRf n₀ br vo w all en R) (t : Nat) (ht : t ≤ en) (hw : R.any (withinR t) = false) : Calls Tryz.prog 113 #[.pointer (some ⟨br, 0, none⟩), .int .i64 t] w fun e w' => e = .returned (.int .i64 0) ∧ 
   ∃ vo', IsRf n₀ br vo' w' all t (R.filter (ahR t)) ∧ RStep br vo R w vo' (R.filter (ahR t)) w' := by
  have hle := h.le
  have a1 := within_r h t
  have c1 := h.c1
  have b1 := h.en20
  have b2 := h.all20
  have HH : Hid _ := h
  obtain ⟨p, c, hvo, _, _, hp⟩ := IsRf.row_some3 h.row
  subst hvo
  obtain ⟨i0, hi, hz0, hz1, hz2⟩ := info_parts info94
  rw [hw] at a1
  have q1 : ((t : Int) < 0) = False := by simp
  have q2 : (en < t) = False := by simp; omega
  go_enter Tryz.func113, Tryz.ntmps113
  go_wp2_with (go_at_call 184; refine a1.mono ?_; clear a1; rintro e w1 ⟨rfl, hB1⟩)
  go_loopw [5, 6] (fun out k wr => ∃ (l r : List (Ob × Value)), R = l ++ r ∧ k = .int .i64 l.length ∧ wr.ownsRow w.heap.size 85 3 out (l.filter (ahR t)).length (rcells (l.filter (ahR t))) ∧ Below w.heap.size w wr) (fun _ k _ => R.length - (intOf k).toNat)
  case atStart => exact ⟨[], R, rfl, rfl, World.ownsRow_nil _ _ _ _, hB1⟩
  case round =>
    obtain ⟨l, r, hR, rfl, hrow, hB⟩ := hrel
    obtain ⟨p5, c5, rfl, _, _, _⟩ := IsRf.row_some3 hrow
    have h' := h.below hB
    have hc := h'.c2
    have hc1' := h'.c1
    cases r with
    | nil =>
      have hR' : R = l := by simpa using hR
      have hq : ¬ ((l.length : Int) < (R.length : Int)) := by rw [hR']; omega
      have E1 : Hid _ := hR'
      have f1 := h'.f 1
      have f2 := h'.f 2
      clear hR hR' hp
      go_wp2
      go_ret
      obtain rfl := E1.out
      have hh := h'.blk
      obtain ⟨g1, g2⟩ := h.replaced (en' := t) hB hrow (List.Sublist.map _ List.filter_sublist) (fun x hx => by have := h.bnd x (List.mem_filter.1 hx).1; omega) (by omega) (w2 := (wr.setCell ⟨br, 2, none⟩ (.slice p5 (R.filter (ahR t)).length c5)).setCell ⟨br, 1, none⟩ (.int .i64 t))
        (fun q hq => (heap_setCell_other _ ⟨br, 1, none⟩ q _ hq).trans (heap_setCell_other _ ⟨br, 2, none⟩ q _ hq)) (by
          have t1 := heap_setCell_same wr br 2 _ 88 (.slice p5 (R.filter (ahR t)).length c5) hh
          have t2 := heap_setCell_same _ br 1 _ 88 (.int .i64 t) t1
          simpa using t2) (by simp [World.setCell]) rfl rfl rfl
      exact ⟨rfl, _, g1, g2⟩
    | cons x r =>
      have hlR : l.length < R.length := by rw [hR]; simp
      obtain ⟨g, rfl⟩ := hp (by omega)
      have hxm : x ∈ R := by rw [hR]; simp
      obtain ⟨e0, e1, e2⟩ := h'.elem (j := l.length) (x := x) (by rw [hR]; simp)
      obtain ⟨b3, b4, _⟩ := h.bnd x hxm
      obtain ⟨hw1, hw2⟩ := h.wrds x hxm
      obtain ⟨gw, cw, hw⟩ := wform hw1 hw2
      have HW : Hid _ := hw
      rw [hw] at e2
      have HR : Hid (R = l ++ x :: r) := hR
      have hsz := hB.size
      have hfl : (l.filter (ahR t)).length ≤ 1048576 := Nat.le_trans (List.length_filter_le _ _) (by omega)
      clear hR hxm hw hw1 hw2
      by_cases hx : x.1.at_ < t
      · go_wp2_with (at_builtin; refine wpList_append_own _ rfl (.tmp 43) (.tmp 51) 86 rfl w.heap.size 85 i0 (.agg #[.int .i64 0, .int .u8 0, .slice none 0 0]) 3 40 Tryz.underlying86 hi hz0 hz1 hz2 rfl (by decide) (.slice p5 (l.filter (ahR t)).length c5) (l.filter (ahR t)).length (rcells (l.filter (ahR t))) rfl (hrow.alloc _) ⟨wr.heap.size, 0, none⟩ 1 1 [.int .i64 x.1.at_, .int .u8 x.1.kind, .slice (some ⟨gw, 0, none⟩) x.1.ws.length cw] rfl rfl (World.news_of_block (cs := #[.int .i64 x.1.at_, .int .u8 x.1.kind, .slice (some ⟨gw, 0, none⟩) x.1.ws.length cw]) (t := 85) (fr := (0, 0)) (heap_alloc_new wr _)) (by simp [Value.oneCell']) (by unfold maxLen; omega) (by omega) (by simp; omega) ?_; intro v4 w4 hown4 hgrow4 _)
        go_roundw
        case rel =>
          have e1 : (((l ++ [x]).length : Nat) : Int) = l.length + 1 := by simp
          have e2 : (l ++ [x]).filter (ahR t) = l.filter (ahR t) ++ [x] := by simp [List.filter_append, ahR, hx]
          refine ⟨l ++ [x], r, by have := HR.out; simpa using this, by rw [e1], ?_, ?_⟩
          · rw [e2, rcells_append]; simpa [rcells, HW.out] using hown4
          · exact (hB.alloc hB.size _).trans (rbelow_grown hgrow4 (fun q e => (hrow.lt q e).1) (by simp; omega))
        case measure => simp [intOf]; omega
      · go_wp2
        go_roundw
        case rel =>
          have e1 : (((l ++ [x]).length : Nat) : Int) = l.length + 1 := by simp
          have e2 : (l ++ [x]).filter (ahR t) = l.filter (ahR t) := by simp [List.filter_append, ahR, hx]
          refine ⟨l ++ [x], r, by have := HR.out; simpa using this, by rw [e1], ?_, hB⟩
          rw [e2]; exact hrow
        case measure => simp [intOf]; omega

set_option maxHeartbeats 1000000 in
theorem rcut_bad (h : IsRf n₀ br vo w all en R) (t : Int) (ht : t < 0 ∨ (en : Int) < t) : Calls Tryz.prog 113 #[.pointer (some ⟨br, 0, none⟩), .int .i64 t] w fun e w' => e = .returned (.int .i64 1) ∧ Below w.heap.size w w' := by
  have c1 := h.c1
  clear h
  by_cases h1 : t < 0
  · clear ht
    go_enter Tryz.func113, Tryz.ntmps113
    go_wp2
    go_ret
    exact ⟨rfl, Below.refl _ _⟩
  · have h2 : (en : Int) < t := by omega
    clear ht
    go_enter Tryz.func113, Tryz.ntmps113
    go_wp2
    go_ret
    exact ⟨rfl, Below.refl _ _⟩

set_option maxHeartbeats 1000000 in
theorem rcut_in (h : IsRf n₀ br vo w all en R) (t : Nat) (ht : t ≤ en) (hw : R.any (withinR t) = true) : Calls Tryz.prog 113 #[.pointer (some ⟨br, 0, none⟩), .int .i64 t] w fun e w' => e = .returned (.int .i64 1) ∧ Below w.heap.size w w' := by
  have c1 := h.c1
  have a1 := within_r h t
  rw [hw] at a1
  have q1 : ((t : Int) < 0) = False := by simp
  have q2 : (en < t) = False := by simp; omega
  clear h
  go_enter Tryz.func113, Tryz.ntmps113
  go_wp2_with (go_at_call 184; refine a1.mono ?_; clear a1; rintro e w1 ⟨rfl, hB1⟩)
  go_ret
  exact ⟨rfl, hB1⟩

theorem news2 (W : World) (a k : Int) (v : Value) : ∀ (j : Nat) (u : Value), [.int .i64 a, .int .u8 k, v][j]? = some u →
    ((W.alloc (.cells #[.int .i64 a, .int .u8 k, v] 85)).alloc (.cells #[.int .i64 a, .int .u8 k, v] 85)).cell? ((⟨W.heap.size + 1, 0, none⟩ : Addr).add j) = some u := by
  have h := heap_alloc_new (W.alloc (.cells #[.int .i64 a, .int .u8 k, v] 85)) (.cells #[.int .i64 a, .int .u8 k, v] 85)
  rw [World.size_alloc] at h
  exact World.news_of_block h

theorem below2 {w W : World} (hB : Below w.heap.size w W) (x y : Obj) : Below w.heap.size w ((W.alloc x).alloc y) := (hB.alloc hB.size _).alloc (by have := hB.size; simp; omega) _

/-- What becomes of an object at a move. -/
def mvOne (t f k j : Nat) (x : Ob × Value) : List (Ob × Value) := if j = k then [({ x.1 with at_ := t }, x.2)] else if x.1.at_ < t ∨ f < x.1.at_ then [x] else []

def mvR (t f k : Nat) : Nat → List (Ob × Value) → List (Ob × Value)
  | _, [] => []
  | j, x :: r => mvOne t f k j x ++ mvR t f k (j + 1) r

theorem mvR_append (t f k : Nat) : ∀ (l r : List (Ob × Value)) (j : Nat), mvR t f k j (l ++ r) = mvR t f k j l ++ mvR t f k (j + l.length) r
  | [], r, j => by simp [mvR]
  | x :: l, r, j => by simp [mvR, mvR_append t f k l r (j + 1)]; congr 1; omega

theorem mvOne_sub (t f k j : Nat) (x : Ob × Value) : ((mvOne t f k j x).map (fun x => (x.1.ws, x.2))).Sublist [(x.1.ws, x.2)] := by
  unfold mvOne; split
  · simp
  · split <;> simp

theorem mvR_sub (t f k : Nat) : ∀ (l : List (Ob × Value)) (j : Nat), ((mvR t f k j l).map (fun x => (x.1.ws, x.2))).Sublist (l.map (fun x => (x.1.ws, x.2)))
  | [], j => by simp [mvR]
  | x :: l, j => by
    rw [mvR, List.map_append, List.map_cons]
    exact (mvOne_sub t f k j x).append (mvR_sub t f k l (j + 1))

theorem mvR_bnd {t f k : Nat} (ht : t < 1048576) : ∀ {l : List (Ob × Value)} {j : Nat}, (∀ x ∈ l, x.1.at_ < 1048576 ∧ x.1.kind < 256) → ∀ x ∈ mvR t f k j l, x.1.at_ < 1048576 ∧ x.1.kind < 256
  | [], j, _ => by simp [mvR]
  | y :: l, j, h => by
    intro x hx
    rw [mvR, List.mem_append] at hx
    rcases hx with hx | hx
    · have hy := h y (by simp)
      unfold mvOne at hx
      split at hx
      · simp at hx; subst hx; exact ⟨ht, hy.2⟩
      · split at hx
        · simp at hx; subst hx; exact hy
        · simp at hx
    · exact mvR_bnd ht (fun x hx => h x (by simp [hx])) x hx

theorem mvR_len (t f k : Nat) (l : List (Ob × Value)) (j : Nat) : (mvR t f k j l).length ≤ l.length := by
  have := (mvR_sub t f k l j).length_le; simpa using this

set_option maxRecDepth 20000 in
set_option maxHeartbeats 1000000 in
theorem rmove_ok (h : IsRf n₀ br vo w all en R) (f t : Nat) (k : Nat) (hf : findR f R = k) (ht : t ≤ f) (hf20 : f < 1048576) (hw : R.any (withinR t) = false) : Calls Tryz.prog 112 #[.pointer (some ⟨br, 0, none⟩), .int .i64 f, .int .i64 t] w fun e w' => e = .returned (.int .i64 0) ∧
    ∃ vo', IsRf n₀ br vo' w' all en (mvR t f k 0 R) ∧ RStep br vo R w vo' (mvR t f k 0 R) w' := by
  have hle := h.le
  have a1 := within_r h t
  have a2 := find_r h f
  rw [hf] at a2
  rw [hw] at a1
  obtain ⟨p, c, hvo, _, _, hp⟩ := IsRf.row_some3 h.row
  subst hvo
  obtain ⟨i0, hi, hz0, hz1, hz2⟩ := info_parts info94
  have q1 : ((t : Int) < 0) = False := by simp
  have q2 : (f < t) = False := by simp; omega
  have q3 : ((k : Int) < 0) = False := by simp
  go_enter Tryz.func112, Tryz.ntmps112
  go_wp2_with (first | (go_at_call 184; refine a1.mono ?_; clear a1; rintro e w1 ⟨rfl, hB1⟩) | (go_at_call 178; refine a2.mono ?_; clear a2; rintro e w ⟨rfl, rfl⟩))
  go_loopw [8, 9] (fun out i wr => ∃ (l r : List (Ob × Value)), R = l ++ r ∧ i = .int .i64 l.length ∧ wr.ownsRow w.heap.size 85 3 out (mvR t f k 0 l).length (rcells (mvR t f k 0 l)) ∧ Below w.heap.size w wr) (fun _ i _ => R.length - (intOf i).toNat)
  case atStart => exact ⟨[], R, rfl, rfl, World.ownsRow_nil _ _ _ _, hB1⟩
  case round =>
    obtain ⟨l, r, hR, rfl, hrow, hB⟩ := hrel
    obtain ⟨p5, c5, rfl, _, _, _⟩ := IsRf.row_some3 hrow
    have h' := h.below hB
    have hc := h'.c2
    cases r with
    | nil =>
      have hR' : R = l := by simpa using hR
      have hq : ¬ ((l.length : Int) < (R.length : Int)) := by rw [hR']; omega
      have E1 : Hid _ := hR'
      have f2 := h'.f 2
      clear hR hR' hp
      go_wp2
      go_ret
      obtain rfl := E1.out
      have hh := h'.blk
      obtain ⟨g1, g2⟩ := h.replaced (en' := en) hB hrow (mvR_sub _ _ _ _ _) (mvR_bnd (by omega) (fun x hx => by have := h.bnd x hx; omega)) h.en20 (w2 := wr.setCell ⟨br, 2, none⟩ (.slice p5 (mvR t f k 0 R).length c5))
        (fun q hq => heap_setCell_other _ ⟨br, 2, none⟩ q _ hq) (by
          have t1 := heap_setCell_same wr br 2 _ 88 (.slice p5 (mvR t f k 0 R).length c5) hh
          simpa using t1) (by simp [World.setCell]) rfl rfl rfl
      exact ⟨rfl, _, g1, g2⟩
    | cons x r =>
      have hlR : l.length < R.length := by rw [hR]; simp
      obtain ⟨g, rfl⟩ := hp (by omega)
      have hxm : x ∈ R := by rw [hR]; simp
      obtain ⟨e0, e1, e2⟩ := h'.elem (j := l.length) (x := x) (by rw [hR]; simp)
      obtain ⟨b3, b4, _⟩ := h.bnd x hxm
      obtain ⟨hw1, hw2⟩ := h.wrds x hxm
      obtain ⟨gw, cw, hw'⟩ := wform hw1 hw2
      have HW : Hid _ := hw'
      rw [hw'] at e2
      have HR : Hid (R = l ++ x :: r) := hR
      have hsz := hB.size
      have hfl : (mvR t f k 0 l).length ≤ 1048576 := Nat.le_trans (mvR_len _ _ _ _ _) (by omega)
      have eR : mvR t f k 0 (l ++ [x]) = mvR t f k 0 l ++ mvOne t f k l.length x := by rw [mvR_append]; simp [mvR]
      have ER : Hid _ := eR
      clear hR hxm hw' hw1 hw2 eR
      by_cases hk : l.length = k
      · have HK : Hid _ := hk
        subst hk
        go_wp2_with (at_builtin; refine wpList_append_own _ rfl (.tmp 53) (.tmp 55) 86 rfl w.heap.size 85 i0 (.agg #[.int .i64 0, .int .u8 0, .slice none 0 0]) 3 40 Tryz.underlying86 hi hz0 hz1 hz2 rfl (by decide) (.slice p5 (mvR t f l.length 0 l).length c5) (mvR t f l.length 0 l).length (rcells (mvR t f l.length 0 l)) rfl ((hrow.alloc _).alloc _) ⟨wr.heap.size + 1, 0, none⟩ 1 1 [.int .i64 t, .int .u8 x.1.kind, .slice (some ⟨gw, 0, none⟩) x.1.ws.length cw] rfl rfl (news2 _ _ _ _) (by simp [Value.oneCell']) (by unfold maxLen; omega) (by omega) (by simp; omega) ?_; intro v4 w4 hown4 hgrow4 _)
        go_roundw
        case rel =>
          have e1 : (((l ++ [x]).length : Nat) : Int) = l.length + 1 := by simp
          refine ⟨l ++ [x], r, by have := HR.out; simpa using this, by rw [e1], ?_, ?_⟩
          · rw [ER.out, rcells_append]; simpa [mvOne, rcells, HW.out] using hown4
          · exact (below2 hB _ _).trans (rbelow_grown hgrow4 (fun q e => (hrow.lt q e).1) (by simp; omega))
        case measure => simp [intOf]; omega
      · have hkb : ((l.length : Int) == (k : Int)) = false := by simp; omega
        by_cases hx : x.1.at_ < t
        · go_wp2_with (at_builtin; refine wpList_append_own _ rfl (.tmp 67) (.tmp 69) 86 rfl w.heap.size 85 i0 (.agg #[.int .i64 0, .int .u8 0, .slice none 0 0]) 3 40 Tryz.underlying86 hi hz0 hz1 hz2 rfl (by decide) (.slice p5 (mvR t f k 0 l).length c5) (mvR t f k 0 l).length (rcells (mvR t f k 0 l)) rfl ((hrow.alloc _).alloc _) ⟨wr.heap.size + 1, 0, none⟩ 1 1 [.int .i64 x.1.at_, .int .u8 x.1.kind, .slice (some ⟨gw, 0, none⟩) x.1.ws.length cw] rfl rfl (news2 _ _ _ _) (by simp [Value.oneCell']) (by unfold maxLen; omega) (by omega) (by simp; omega) ?_; intro v4 w4 hown4 hgrow4 _)
          go_roundw
          case rel =>
            have e1 : (((l ++ [x]).length : Nat) : Int) = l.length + 1 := by simp
            refine ⟨l ++ [x], r, by have := HR.out; simpa using this, by rw [e1], ?_, ?_⟩
            · rw [ER.out, rcells_append]; simpa [mvOne, hk, hx, rcells, HW.out] using hown4
            · exact (below2 hB _ _).trans (rbelow_grown hgrow4 (fun q e => (hrow.lt q e).1) (by simp; omega))
          case measure => simp [intOf]; omega
        · by_cases hx2 : f < x.1.at_
          · go_wp2_with (at_builtin; refine wpList_append_own _ rfl (.tmp 67) (.tmp 69) 86 rfl w.heap.size 85 i0 (.agg #[.int .i64 0, .int .u8 0, .slice none 0 0]) 3 40 Tryz.underlying86 hi hz0 hz1 hz2 rfl (by decide) (.slice p5 (mvR t f k 0 l).length c5) (mvR t f k 0 l).length (rcells (mvR t f k 0 l)) rfl ((hrow.alloc _).alloc _) ⟨wr.heap.size + 1, 0, none⟩ 1 1 [.int .i64 x.1.at_, .int .u8 x.1.kind, .slice (some ⟨gw, 0, none⟩) x.1.ws.length cw] rfl rfl (news2 _ _ _ _) (by simp [Value.oneCell']) (by unfold maxLen; omega) (by omega) (by simp; omega) ?_; intro v4 w4 hown4 hgrow4 _)
            go_roundw
            case rel =>
              have e1 : (((l ++ [x]).length : Nat) : Int) = l.length + 1 := by simp
              refine ⟨l ++ [x], r, by have := HR.out; simpa using this, by rw [e1], ?_, ?_⟩
              · rw [ER.out, rcells_append]; simpa [mvOne, hk, hx2, rcells, HW.out] using hown4
              · exact (below2 hB _ _).trans (rbelow_grown hgrow4 (fun q e => (hrow.lt q e).1) (by simp; omega))
            case measure => simp [intOf]; omega
          · go_wp2
            go_roundw
            case rel =>
              have e1 : (((l ++ [x]).length : Nat) : Int) = l.length + 1 := by simp
              refine ⟨l ++ [x], r, by have := HR.out; simpa using this, by rw [e1], ?_, ?_⟩
              · rw [ER.out, mvOne, if_neg hk, if_neg (by omega), List.append_nil]; exact hrow.alloc _
              · exact hB.alloc hB.size _
            case measure => simp [intOf]; omega

end Go.Proofs.YtampilfebmfhaaaGreatDoor
