/- ObjectIsMap: the closure 'put'. -/
import Derived.Test.YtkombdkhodjckaaIsMapKey
import Derived.Deep.RegionLaw
import Derived.Deep.AppendLies
namespace Go.Proofs.Ytkombdkhodjckaa
set_option linter.unusedVariables false
set_option linter.unusedSimpArgs false
open Go.RowKit

variable {w : World} {tb : Bool} {B5 B9 B11 B12 base : Nat} {nv : List (Int × Int)}

def fsts (nv : List (Int × Int)) : List Value := nv.map (fun q => .int .i64 q.1)

def snds (nv : List (Int × Int)) : List Value := nv.map (fun q => .int .i64 q.2)

/-- Two rows of numbers, each in a slice that is held by a variable. -/
structure NW (w : World) (base B11 B12 a b : Nat) (xs ys : List Value) (sn sv : Value) : Prop where
  b11 : w.heap[B11]? = some (.cells #[sn] 44 (0, 0))
  b12 : w.heap[B12]? = some (.cells #[sv] 44 (0, 0))
  rn : w.ownsRow base 2 1 sn a xs
  rv : w.ownsRow base 2 1 sv b ys
  ap : ∀ k, sn.ownBlock = some k → sv.ownBlock ≠ some k
  l11 : base ≤ B11
  l12 : base ≤ B12
  ne : B11 ≠ B12

/-- Names and values. -/
abbrev NV (w : World) (base B11 B12 : Nat) (nv : List (Int × Int)) (sn sv : Value) : Prop := NW w base B11 B12 nv.length nv.length (fsts nv) (snds nv) sn sv

theorem NW.flip {a b : Nat} {xs ys : List Value} {sn sv : Value} (h : NW w base B11 B12 a b xs ys sn sv) : NW w base B12 B11 b a ys xs sv sn :=
  ⟨h.b12, h.b11, h.rv, h.rn, fun k e e' => h.ap k e' e, h.l12, h.l11, h.ne.symm⟩

/-- What leaves all blocks but those of numbers and of slices of numbers. -/
def TyK (w w' : World) : Prop := ∀ (k : Nat) (cur : Array Value) (t : TypeId), w.heap[k]? = some (.cells cur t (0, 0)) → t ≠ 2 → t ≠ 44 → w'.heap[k]? = w.heap[k]?

theorem row_typ1 {base e n : Nat} {t : Value} {xs : List Value} (h : w.ownsRow base e 1 t n xs) {k : Nat} (hk : t.ownBlock = some k) : ∃ cur, w.heap[k]? = some (.cells cur e (0, 0)) := by
  rcases h.2 with ⟨rfl, _⟩ | ⟨g, cap, cur, rfl, _, h1, _⟩
  · cases hk
  · simp [Value.ownBlock] at hk; subst hk; exact ⟨cur, h1⟩

theorem NW.kept {a b : Nat} {xs ys : List Value} {sn sv : Value} (h : NW w base B11 B12 a b xs ys sn sv) {w' : World} (hk : ∀ (k : Nat) (cur : Array Value) (t : TypeId), w.heap[k]? = some (.cells cur t (0, 0)) → (t = 2 ∨ t = 44) → w'.heap[k]? = w.heap[k]?) : NW w' base B11 B12 a b xs ys sn sv :=
  ⟨(hk _ _ _ h.b11 (.inr rfl)).trans h.b11, (hk _ _ _ h.b12 (.inr rfl)).trans h.b12, row_kept h.rn (fun k e => by obtain ⟨cur, hc⟩ := row_typ1 h.rn e; exact hk _ _ _ hc (.inl rfl)), row_kept h.rv (fun k e => by obtain ⟨cur, hc⟩ := row_typ1 h.rv e; exact hk _ _ _ hc (.inl rfl)), h.ap, h.l11, h.l12, h.ne⟩

theorem NW.below {a b : Nat} {xs ys : List Value} {sn sv : Value} (h : NW w base B11 B12 a b xs ys sn sv) {w' : World} (hB : Below w.heap.size w w') : NW w' base B11 B12 a b xs ys sn sv := h.kept (fun k cur t hk _ => hB.block k (Array.getElem?_eq_some_iff.1 hk).1)

theorem row_form1 {base e n : Nat} {t : Value} {xs : List Value} (h : w.ownsRow base e 1 t n xs) : ∃ p c, t = .slice p n c ∧ n ≤ c ∧ c ≤ maxLen ∧ (0 < n → ∃ g, p = some ⟨g, 0, none⟩) := by
  rcases h.2 with ⟨rfl, h0⟩ | ⟨g, cap, cur, rfl, _, _, h1, h2, _⟩
  · exact ⟨none, 0, by rw [h0], by omega, by simp [maxLen], fun h => by omega⟩
  · exact ⟨_, cap, rfl, h1, h2, fun _ => ⟨g, rfl⟩⟩

theorem row_cell1 {base e n g c j : Nat} {xs : List Value} {u : Value} (h : w.ownsRow base e 1 (.slice (some ⟨g, 0, none⟩) n c) n xs) (hj : xs[j]? = some u) : w.cell? ⟨g, j, none⟩ = some u := by
  have := h.cells (g := g) rfl j u hj
  rwa [show (⟨g, 0, none⟩ : Addr).add j = ⟨g, j, none⟩ by cases j <;> simp [Addr.add]] at this

/-- A number is stored into a row of one's own. -/
theorem row_set1 {base e n g c j : Nat} {xs : List Value} {v : Value} (h : w.ownsRow base e 1 (.slice (some ⟨g, 0, none⟩) n c) n xs) : (w.setCell ⟨g, j, none⟩ v).ownsRow base e 1 (.slice (some ⟨g, 0, none⟩) n c) n (xs.set j v) := by
  rcases h.2 with ⟨h1, _⟩ | ⟨g', cap, cur, h1, hb, hg, hnc, hcm, hcs, htake⟩
  · cases h1
  · simp only [Value.slice.injEq, Option.some.injEq, Addr.mk.injEq, and_true, true_and] at h1
    obtain ⟨rfl, rfl⟩ := h1
    refine ⟨by rw [List.length_set]; exact h.1, .inr ⟨g, c, cur.setIfInBounds j v, rfl, hb, heap_setCell_same w g j cur _ v hg, hnc, hcm, by simpa using hcs, ?_⟩⟩
    rw [← htake, Array.toList_setIfInBounds, List.take_set]

/-- A number is put behind the first row, and the variable takes the row. -/
theorem NW.more {a b g c : Nat} {xs ys : List Value} {sn sv u : Value} (h : NW w base B11 B12 a b xs ys sn sv) {Wa w4 : World} (hA : Below w.heap.size w Wa) (hg : Wa.grownBy w4 sn.ownBlock) (ho : w4.ownsRow base 2 1 (.slice (some ⟨g, 0, none⟩) (a + 1) c) (a + 1) (xs ++ [u])) (hat : sn.ownBlock = some g ∨ w.heap.size < g) :
    (w4.heap[B11]? = w.heap[B11]? ∧ w4.heap[B12]? = w.heap[B12]?) ∧ NW (w4.setCell ⟨B11, 0, none⟩ (.slice (some ⟨g, 0, none⟩) (a + 1) c)) base B11 B12 (a + 1) b (xs ++ [u]) ys (.slice (some ⟨g, 0, none⟩) (a + 1) c) sv ∧ TyK w (w4.setCell ⟨B11, 0, none⟩ (.slice (some ⟨g, 0, none⟩) (a + 1) c)) ∧ Below base w (w4.setCell ⟨B11, 0, none⟩ (.slice (some ⟨g, 0, none⟩) (a + 1) c)) := by
  have hsz := hA.size
  have hk4 : ∀ (k : Nat) (cur : Array Value) (t : TypeId), w.heap[k]? = some (.cells cur t (0, 0)) → some k ≠ sn.ownBlock → w4.heap[k]? = w.heap[k]? := fun k cur t hk hne => by
    have hlt := (Array.getElem?_eq_some_iff.1 hk).1
    exact (hg.block k (by omega) hne).trans (hA.block k hlt)
  have hne : ∀ (k : Nat) (cur : Array Value) (t : TypeId), w.heap[k]? = some (.cells cur t (0, 0)) → t ≠ 2 → some k ≠ sn.ownBlock := fun k cur t hk ht e => by
    obtain ⟨cur', hc⟩ := row_typ1 h.rn e.symm
    rw [hc] at hk; cases hk; exact ht rfl
  have x11 := hk4 _ _ _ h.b11 (hne _ _ _ h.b11 (by decide))
  have x12 := hk4 _ _ _ h.b12 (hne _ _ _ h.b12 (by decide))
  obtain ⟨cg, hcg⟩ := row_typ1 ho (k := g) rfl
  have hg11 : g ≠ B11 := fun e => by
    rw [e, x11, h.b11] at hcg; cases hcg
  have hlt11 := (Array.getElem?_eq_some_iff.1 h.b11).1
  refine ⟨⟨x11, x12⟩, ⟨?_, ?_, ?_, ?_, ?_, h.l11, h.l12, h.ne⟩, ?_, ?_⟩
  · have := heap_setCell_same w4 B11 0 _ _ (.slice (some ⟨g, 0, none⟩) (a + 1) c) (x11.trans h.b11)
    simpa using this
  · exact (heap_setCell_other _ ⟨B11, 0, none⟩ B12 _ (fun e => h.ne e.symm)).trans (x12.trans h.b12)
  · exact row_kept ho (fun k e => heap_setCell_other _ ⟨B11, 0, none⟩ k _ (fun ek => by simp [Value.ownBlock] at e; rw [← e] at ek; exact hg11 ek))
  · refine row_kept h.rv (fun k e => ?_)
    obtain ⟨cur, hc⟩ := row_typ1 h.rv e
    exact (heap_setCell_other _ ⟨B11, 0, none⟩ k _ (fun ek => by rw [show k = B11 from ek, h.b11] at hc; cases hc)).trans (hk4 _ _ _ hc (fun e' => h.ap k e'.symm e))
  · intro k e e'
    simp [Value.ownBlock] at e
    subst e
    rcases hat with hat | hat
    · exact h.ap _ hat e'
    · have := (h.rv.lt _ e').2
      omega
  · intro k cur t hk h2 h44
    exact (heap_setCell_other _ ⟨B11, 0, none⟩ k _ (fun ek => by rw [show k = B11 from ek, h.b11] at hk; cases hk; exact h44 rfl)).trans (hk4 _ _ _ hk (hne _ _ _ hk h2))
  · have h1 : Below base w w4 := ((hA.mono (by have := h.l11; omega)).trans (rbelow_grown hg (fun k e => (h.rn.lt k e).1) (by have := h.l11; omega)))
    exact h1.setCell h.l11 _

theorem nv_split {nv : List (Int × Int)} {i : Nat} {q : Int × Int} (hq : nv[i]? = some q) : nv = nv.take i ++ q :: nv.drop (i + 1) := by
  have hi := (List.getElem?_eq_some_iff.1 hq).1
  have e : nv.drop i = q :: nv.drop (i + 1) := by
    rw [List.drop_eq_getElem_cons hi]
    rw [List.getElem?_eq_getElem hi] at hq
    cases hq; rfl
  rw [← e, List.take_append_drop]

set_option maxRecDepth 20000 in
set_option maxHeartbeats 2000000 in
theorem put_in {sn sv : Value} (hN : NV w base B11 B12 nv sn sv) (h5 : w.heap[B5]? = some (.cells #[.bool tb] 4 (0, 0))) (h9 : w.heap[B9]? = some (.cells #[.func (.func 15) #[] #[.pointer (some ⟨B5, 0, none⟩)]] 42 (0, 0))) (n x : Int) (hn : -9223372036854775808 ≤ n ∧ n ≤ 9223372036854775807) (hl : nv.length ≤ 1000) :
    Calls Try.prog 16 #[.int .i64 n, .int .i64 x, .pointer (some ⟨B11, 0, none⟩), .pointer (some ⟨B9, 0, none⟩), .pointer (some ⟨B12, 0, none⟩)] w fun e w' => e = .returned (.tuple #[]) ∧ ∃ sn' sv', NV w' base B11 B12 (putNV nv (nameI tb n) x) sn' sv' ∧ Below base w w' ∧ TyK w w' := by
  obtain ⟨m, hm⟩ : ∃ m, nameI tb n = m := ⟨_, rfl⟩
  have H1 : ∀ w', Below w.heap.size w w' → Calls Try.prog 15 #[.int .i64 n, .pointer (some ⟨B5, 0, none⟩)] w' fun e w'' => e = .returned (.int .i64 m) ∧ w'' = w' := fun w' hB => by
    rw [← hm]
    exact name_in n hn w' ((hB.block _ (Array.getElem?_eq_some_iff.1 h5).1).trans h5)
  rw [hm]
  clear hm
  have HN : Hid (NV w base B11 B12 nv sn sv) := hN
  obtain ⟨pn, cn, hsn, hcn1, hcn2, hpn⟩ := row_form1 hN.rn
  obtain ⟨pv, cv, hsv, hcv1, hcv2, hpv⟩ := row_form1 hN.rv
  subst hsn hsv
  clear hN
  go_enter Try.func16, Try.ntmps16
  go_wp2
  go_loopw [7] (fun iv wr => ∃ i : Nat, iv = .int .i64 i ∧ i ≤ nv.length ∧ (∀ q ∈ nv.take i, q.1 ≠ m) ∧ Below w.heap.size w wr) (fun iv _ => nv.length - (intOf iv).toNat)
  case atStart => exact ⟨0, rfl, by omega, by simp, Below.refl _ _⟩
  case round =>
    obtain ⟨i, rfl, hi, hno, hB⟩ := hrel
    have N2 := HN.out.below hB
    have c11 := cell_row1 N2.b11
    have c12 := cell_row1 N2.b12
    have k9 := (hB.block _ (Array.getElem?_eq_some_iff.1 h9).1).trans h9
    have c9 := cell_row1 k9
    by_cases hil : i < nv.length
    · have hil' : (i : Int) < (nv.length : Int) := by omega
      obtain ⟨q, hq⟩ : ∃ q, nv[i]? = some q := ⟨nv[i], by simp⟩
      obtain ⟨gn, rfl⟩ := hpn (by omega)
      obtain ⟨gv, rfl⟩ := hpv (by omega)
      have cq := row_cell1 N2.rn (j := i) (u := .int .i64 q.1) (by simp [fsts, hq])
      have cw := row_cell1 N2.rv (j := i) (u := .int .i64 q.2) (by simp [snds, hq])
      have S0 : wr.drew.cell? ⟨B11, 0, none⟩ = some (.slice (some ⟨gn, 0, none⟩) nv.length cn) ∧ wr.drew.cell? ⟨gn, i, none⟩ = some (.int .i64 q.1) ∧ wr.drew.cell? ⟨B9, 0, none⟩ = some (.func (.func 15) #[] #[.pointer (some ⟨B5, 0, none⟩)]) := ⟨c11, cq, c9⟩
      go_wp2_with (first | fail)
      go_region_held3 (fun W => W.cell? ⟨B11, 0, none⟩ = some (.slice (some ⟨gn, 0, none⟩) nv.length cn) ∧ W.cell? ⟨gn, i, none⟩ = some (.int .i64 q.1) ∧ W.cell? ⟨B9, 0, none⟩ = some (.func (.func 15) #[] #[.pointer (some ⟨B5, 0, none⟩)])) (first | with_reducible exact S0 | go_keep)
        ((first | (go_at_call 15; (with_reducible refine (H1 _ (below_drew hB)).mono ?_); rintro e w3 ⟨rfl, hw3⟩; obtain rfl := hw3.symm)))
      by_cases hqm : q.1 = m
      · have hqb : (q.1 == m) = true := by simp [hqm]
        have HQM : Hid (q.1 = m) := hqm
        have fv : wr.drew.frozen? ⟨gv, i, none⟩ = false := by
          obtain ⟨cur, hc⟩ := row_typ1 N2.rv (k := gv) rfl
          exact frozen_of_row wr gv i _ _ hc
        have cwd : wr.drew.cell? ⟨gv, i, none⟩ = some (.int .i64 q.2) := cw
        have c12d : wr.drew.cell? ⟨B12, 0, none⟩ = some (.slice (some ⟨gv, 0, none⟩) nv.length cv) := c12
        clear hqm
        go_wp2
        (try simp only [Exit.inBlock, Exit.then])
        refine bodyPost_ret (results_none rfl _ _ _) rfl ?_
        have hsp := nv_split hq
        have hq2 : q = (m, q.2) := by rw [← HQM.out]
        have hput : putNV nv m x = nv.take i ++ (m, x) :: nv.drop (i + 1) := by
          have h1 := putNV_yes (x := x) (y := q.2) (r := nv.drop (i + 1)) (l := nv.take i) hno
          rw [← hq2, ← hsp] at h1
          exact h1
        have hgvl := (N2.rv.lt gv rfl)
        have htl : (nv.take i).length = i := by rw [List.length_take]; omega
        have e1 : fsts (putNV nv m x) = fsts nv := by
          rw [hput]
          conv => rhs; rw [hsp, hq2]
          simp [fsts]
        have e2 : snds (putNV nv m x) = (snds nv).set i (.int .i64 x) := by
          rw [hput]
          conv => rhs; rw [hsp]
          simp only [snds, List.map_append, List.map_cons]
          rw [List.set_append_right _ _ (by rw [List.length_map, htl]; exact Nat.le_refl _), List.length_map, htl, Nat.sub_self, List.set_cons_zero]
        have e3 : (putNV nv m x).length = nv.length := by
          have := congrArg List.length e1
          simpa [fsts] using this
        have hty : ∀ k, k ≠ gv → (wr.drew.setCell ⟨gv, i, none⟩ (.int .i64 x)).heap[k]? = wr.heap[k]? := fun k hk => heap_setCell_other _ ⟨gv, i, none⟩ k _ hk
        have hgvn : ∀ k cur (t : TypeId), wr.heap[k]? = some (.cells cur t (0, 0)) → t ≠ 2 → k ≠ gv := fun k cur t hk ht e => by
          obtain ⟨cur', hc⟩ := row_typ1 N2.rv (k := gv) rfl
          rw [e, hc] at hk; cases hk; exact ht rfl
        refine ⟨rfl, _, _, ⟨(hty _ (hgvn _ _ _ N2.b11 (by decide))).trans N2.b11, (hty _ (hgvn _ _ _ N2.b12 (by decide))).trans N2.b12, ?_, ?_, N2.ap, N2.l11, N2.l12, N2.ne⟩, ?_, ?_⟩
        · rw [e3, e1]
          exact row_kept N2.rn (fun k e => hty k (fun ek => N2.ap k e (by rw [ek]; rfl)))
        · rw [e3, e2]
          exact row_set1 (w := wr.drew) N2.rv
        · exact ⟨hB.os, hB.tape, hB.output, by simpa [World.setCell, World.drew] using hB.size, fun k hk => (hty k (by omega)).trans (hB.block k (by have := HN.out.l11; have := (Array.getElem?_eq_some_iff.1 HN.out.b11).1; omega))⟩
        · intro k cur t hk h2 h44
          have hkw := (hB.block k (Array.getElem?_eq_some_iff.1 hk).1)
          exact (hty k (hgvn k cur t (hkw.trans hk) h2)).trans hkw
      · have hqb : (q.1 == m) = false := by simp [hqm]
        have HQM : Hid (q.1 ≠ m) := hqm
        clear hqm
        go_wp2
        go_roundw
        case rel =>
          refine ⟨i + 1, by simp, by omega, ?_, below_drew hB⟩
          intro p hp
          rw [List.take_add_one, hq] at hp
          rcases List.mem_append.1 hp with hp | hp
          · exact hno p hp
          · simp at hp; subst hp; exact HQM.out
        case measure => simp [intOf]; omega
    · have hil' : ¬ (i : Int) < (nv.length : Int) := by omega
      have hall : ∀ q ∈ nv, q.1 ≠ m := by rw [List.take_of_length_le (by omega)] at hno; exact hno
      have hput := putNV_no (x := x) hall
      obtain ⟨i0, hi0, hz0, hz1, hz2⟩ := info_parts info2
      have f11 := frozen_of_row wr B11 0 _ _ N2.b11
      have hBl := (Array.getElem?_eq_some_iff.1 N2.b11).1
      have hbs : base ≤ wr.heap.size := by have := N2.l11; omega
      have HP : Hid (putNV nv m x = nv ++ [(m, x)]) := hput
      have HA : Hid (∀ q ∈ nv, q.1 ≠ m) := hall
      clear hput hall hno
      have c11d : wr.drew.cell? ⟨B11, 0, none⟩ = some (.slice pn nv.length cn) := c11
      have c9d : wr.drew.cell? ⟨B9, 0, none⟩ = some (.func (.func 15) #[] #[.pointer (some ⟨B5, 0, none⟩)]) := c9
      go_wp2_with (first | fail)
      go_region_law (first
        | (refine step_append_lies _ (by rfl) _ _ _ (by rfl) base 2 i0 (.int .i64 0) 1 8 Try.underlying44 hi0 hz0 hz1 hz2 rfl (by omega) (.slice pn nv.length cn) nv.length (fsts nv) (by rfl) (by first | exact N2.rn.alloc _ | exact (N2.rn.alloc _).drew | exact N2.rn.drew.alloc _) ⟨wr.heap.size, 0, none⟩ 1 1 [.int .i64 m] (by rfl) rfl (World.news_of_block (cs := #[.int .i64 m]) (t := 2) (fr := (0, 0)) (heap_alloc_new wr _)) (by simp [Value.oneCell']) (by omega) (by unfold maxLen; omega) (by omega) (by simp; omega) (wr.heap.size + 1) (by simp) ?_; intro g4 c4 w4 ho4 hg4 hat4 hlt4
           obtain ⟨⟨h11, h12⟩, N5, T5, Bl5⟩ := N2.more (Wa := wr.alloc (.cells #[.int .i64 m] 2)) ((Below.refl _ _).alloc (Nat.le_refl _) _) (by first | exact hg4 | exact ⟨hg4.os, hg4.tape, hg4.output, hg4.size, hg4.block⟩) ho4 (by rcases hat4 with h | h; exact .inl h; exact .inr (by omega))
           have x11 := cell_row1 (h11.trans N2.b11)
           have f11' := frozen_of_row w4 B11 0 _ _ (h11.trans N2.b11))
        | (go_simp; go_at_call 15; (first | (with_reducible refine (H1 _ (below_drew hB)).mono ?_) | (with_reducible refine (H1 _ hB).mono ?_)); rintro e w3 ⟨rfl, hw3⟩; obtain rfl := hw3.symm; (try dsimp only [Oper.upon])))
      all_goals
        generalize hw5 : w4.setCell ⟨B11, 0, none⟩ (.slice (some ⟨g4, 0, none⟩) (nv.length + 1) c4) = w5 at N5 T5 Bl5 ⊢
        have HW : Hid _ := hw5
        clear hw5 x11 f11' c11 c12 c9 c11d c9d f11
        have d12 := cell_row1 N5.b12
        have hl12 := (Array.getElem?_eq_some_iff.1 N5.b12).1
        have hb5 : base ≤ w5.heap.size := by have := N5.l12; omega
        go_wp2_with (at_builtin; refine wpList_append_lies _ rfl _ _ 44 rfl base 2 i0 (.int .i64 0) 1 8 Try.underlying44 hi0 hz0 hz1 hz2 rfl (by decide) _ nv.length _ rfl (N5.rv.alloc _) ⟨w5.heap.size, 0, none⟩ 1 1 [.int .i64 x] rfl rfl (cell_one_new _ _ _) (by simp [Value.oneCell']) (by omega) (by unfold maxLen; omega) (by omega) (by simp; omega) (w5.heap.size + 1) (by simp) ?_; intro g6 c6 w6 ho6 hg6 hat6 hlt6
                     obtain ⟨⟨h12', h11'⟩, N7, T7, Bl7⟩ := N5.flip.more (Wa := w5.alloc (.cells #[.int .i64 x] 2)) ((Below.refl _ _).alloc (Nat.le_refl _) _) hg6 ho6 (by rcases hat6 with h | h; exact .inl h; exact .inr (by omega))
                     have x12 := cell_row1 (h12'.trans N5.b12)
                     have f12 := frozen_of_row w6 B12 0 _ _ (h12'.trans N5.b12))
        go_end0
        have HBl : Below base w wr := hB.mono (by have := HN.out.l11; have := (Array.getElem?_eq_some_iff.1 HN.out.b11).1; omega)
        have e1 : fsts (putNV nv m x) = fsts nv ++ [.int .i64 m] := by rw [HP.out]; simp [fsts]
        have e2 : snds (putNV nv m x) = snds nv ++ [.int .i64 x] := by rw [HP.out]; simp [snds]
        have e3 : (putNV nv m x).length = nv.length + 1 := by rw [HP.out]; simp
        refine ⟨rfl, ⟨.slice (some ⟨g4, 0, none⟩) (nv.length + 1) c4, .slice (some ⟨g6, 0, none⟩) (nv.length + 1) c6, ?_⟩, HBl.trans (Bl5.trans Bl7), ?_⟩
        · show NW _ _ _ _ _ _ _ _ _ _
          rw [e1, e2, e3]
          exact N7.flip
        · intro k cur t hk h2 h44
          have k1 := hB.block k (Array.getElem?_eq_some_iff.1 hk).1
          have k2 := T5 k cur t (k1.trans hk) h2 h44
          have k3 := T7 k cur t (k2.trans (k1.trans hk)) h2 h44
          exact k3.trans (k2.trans k1)

end Go.Proofs.Ytkombdkhodjckaa
