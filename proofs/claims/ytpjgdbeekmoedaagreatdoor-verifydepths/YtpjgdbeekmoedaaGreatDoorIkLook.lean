/- The book fills the lists that it holds with marks. -/
import Derived.Test.YtpjgdbeekmoedaaGreatDoorIkHold
import Derived.ArgAppend
import Derived.Deep.DeepAppendRoom
namespace Go.Proofs.YtpjgdbeekmoedaaGreatDoor
set_option linter.unusedVariables false
set_option linter.unusedSimpArgs false
open Go.RowKit

variable {n₀ bk : Nat} {vp : Value} {w : World} {H : List He}

/-- The mark of a list's number. -/
def mk (n : Nat) : Value := .int .i64 (-1000 - (n : Int))

/-- A list that was kept; one that is filled. -/
def HA (n₀ : Nat) (w : World) (x : He) : Prop := x.long = .slice none 0 0 ∧ ∃ xs, w.ownsRow n₀ 3 1 x.l x.len xs

def HB (n₀ : Nat) (w : World) (x : He) : Prop := x.long = .slice none 0 0 ∧ w.ownsRow n₀ 3 1 x.l x.len (List.replicate x.len (mk x.n))

def Apt (H : List He) : Prop := H.Pairwise (fun x y => ∀ k, x.mine k → ¬ y.mine k)

def mineH (H : List He) (k : Nat) : Prop := ∃ x ∈ H, x.mine k

theorem HA.blocks {x : He} (h : HA n₀ w x) {k : Nat} (hk : x.mine k) : n₀ ≤ k ∧ k < w.heap.size ∧ x.l.ownBlock = some k ∧ ∃ cur, w.heap[k]? = some (.cells cur 3 (0, 0)) := by
  obtain ⟨h1, xs, h2⟩ := h
  rcases hk with e | e
  · exact ⟨(h2.lt k e).1, (h2.lt k e).2, e, Ik.row_type h2 e⟩
  · rw [h1] at e; simp [Value.ownBlock] at e

theorem HB.ha {x : He} (h : HB n₀ w x) : HA n₀ w x := ⟨h.1, _, h.2⟩

theorem HA.kept {x : He} (h : HA n₀ w x) {w' : World} (hk : ∀ k, x.mine k → w'.heap[k]? = w.heap[k]?) : HA n₀ w' x := by
  obtain ⟨h1, xs, h2⟩ := h
  exact ⟨h1, xs, Ik.row_kept h2 (fun k e => hk k (.inl e))⟩

theorem HB.kept {x : He} (h : HB n₀ w x) {w' : World} (hk : ∀ k, x.mine k → w'.heap[k]? = w.heap[k]?) : HB n₀ w' x :=
  ⟨h.1, Ik.row_kept h.2 (fun k e => hk k (.inl e))⟩

/-- The book's own blocks are none of the lists'. -/
theorem IsBk.off (h : IsBk n₀ bk vp w H) {x : He} (hx : HA n₀ w x) {k : Nat} (hk : IsBk.own bk vp k) : ¬ x.mine k := by
  intro e
  obtain ⟨_, _, cur, t, h1, h2⟩ := h.blocks hk
  obtain ⟨_, _, _, cur', h3⟩ := hx.blocks e
  rw [h1] at h3
  rcases h2 with rfl | rfl <;> simp at h3

theorem set_mark {m y : Value} (j : Nat) (ys : List Value) : (List.replicate j m ++ y :: ys).set j m = List.replicate (j + 1) m ++ ys := by
  rw [List.set_append_right _ _ (by simp), List.replicate_succ']
  simp

set_option maxHeartbeats 400000 in
theorem mark_place (n : Nat) (hn : n ≤ 20) (w : World) : Calls Tryz.prog 116 #[.int .i64 n] w fun e w' => e = .returned (mk n) ∧ w' = w := by
  unfold mk
  go_enter Tryz.func116, Tryz.ntmps116
  go_wp2
  go_ret
  exact ⟨rfl, rfl⟩

set_option maxHeartbeats 400000 in
theorem is_place (n : Nat) (hn : n ≤ 20) (w : World) : Calls Tryz.prog 136 #[mk n, .int .i64 n] w fun e w' => e = .returned (.bool true) ∧ w' = w := by
  unfold mk
  go_enter Tryz.func136, Tryz.ntmps136
  go_wp2
  go_ret
  exact ⟨rfl, rfl⟩

set_option maxRecDepth 20000 in
set_option maxHeartbeats 1000000 in
theorem fill_place (h : IsBk n₀ bk vp w H) (hA : ∀ x ∈ H, HA n₀ w x) (hP : Apt H) : Calls Tryz.prog 30 #[.pointer (some ⟨bk, 0, none⟩)] w fun e w' => e = .returned (.tuple #[]) ∧
    IsBk n₀ bk vp w' H ∧ (∀ x ∈ H, HB n₀ w' x) ∧ KStep (mineH H) w w' := by
  have HH : Hid (IsBk n₀ bk vp w H) := h
  have hle := h.le
  obtain ⟨p, c, hvp, _, _, hp⟩ := Ik.row_some3 h.row
  subst hvp
  have bkept : ∀ {wr}, KStep (mineH H) w wr → IsBk n₀ bk (.slice p H.length c) wr H := fun hK => h.kept (fun k hk => hK.block k (h.blocks hk).2.1 (by rintro ⟨x, hx, e⟩; exact h.off (hA x hx) hk e))
  clear h
  go_enter Tryz.func30, Tryz.ntmps30
  go_wp2
  go_loopw [2] (fun k wr => ∃ (l r : List He), H = l ++ r ∧ k = .int .i64 l.length ∧ (∀ x ∈ l, HB n₀ wr x) ∧ (∀ x ∈ r, HA n₀ wr x) ∧ KStep (mineH H) w wr) (fun k _ => H.length - (intOf k).toNat)
  case atStart => exact ⟨[], H, rfl, rfl, by simp, hA, KStep.refl _ _⟩
  case round =>
    obtain ⟨l, r, hH, rfl, hl, hr, hK⟩ := hrel
    rename World => wo
    have h' := bkept hK
    have hc := h'.c2
    cases r with
    | nil =>
      have hH' : H = l := by simpa using hH
      have hq : ¬ ((l.length : Int) < (H.length : Int)) := by rw [hH']; omega
      have E1 : Hid _ := hH'
      clear hH hH' hp
      go_wp2
      go_end0
      exact ⟨rfl, h', by rw [E1.out]; exact hl, hK⟩
    | cons x r =>
      have hlH : l.length < H.length := by rw [hH]; simp
      obtain ⟨g, rfl⟩ := hp (by omega)
      have hxm : x ∈ H := by rw [hH]; simp
      obtain ⟨e0, e1, e2⟩ := h'.elem (j := l.length) (x := x) (by rw [hH]; simp)
      obtain ⟨b1, b2⟩ := h'.num x hxm
      obtain ⟨hx1, xs, hx2⟩ := hr x (by simp)
      obtain ⟨px, cx, hxl, _, _⟩ := Ik.row_form hx2
      have HL : Hid _ := hxl
      have HL2 : Hid _ := hx1
      rw [hxl] at e0
      rw [hx1] at e1
      have HR : Hid (H = l ++ x :: r) := hH
      clear hH hxl hx1
      go_wp2
      obtain ⟨W0, hW0⟩ : ∃ W0, wo.alloc (.cells #[.slice px x.len cx, .slice none 0 0, .int .i64 x.n] 137) = W0 := ⟨_, rfl⟩
      have hBW : Below wo.heap.size wo W0 := hW0 ▸ (Below.refl _ _).alloc (Nat.le_refl _) _
      have hn0 : W0.heap[wo.heap.size]? = some (.cells #[.slice px x.len cx, .slice none 0 0, .int .i64 x.n] 137 (0, 0)) := hW0 ▸ heap_alloc_new wo _
      have hn1 : wo.heap.size < W0.heap.size := (Array.getElem?_eq_some_iff.1 hn0).1
      rw [hW0]
      have hrow0 : W0.ownsRow n₀ 3 1 (.slice px x.len cx) x.len xs := by have := Ik.row_kept hx2 (fun k hk => hBW.block k (hx2.lt k hk).2); rwa [HL.out] at this
      have hblt : ∀ k, Value.ownBlock (.slice px x.len cx) = some k → k < wo.heap.size := fun k hk => (hx2.lt k (by rw [HL.out]; exact hk)).2
      have HWr : Hid (KStep (mineH H) w wo) := hK
      have HBW : Hid (Below wo.heap.size wo W0) := hBW
      have Hl : Hid (∀ x ∈ l, HB n₀ wo x) := hl
      have Hr : Hid (∀ y ∈ x :: r, HA n₀ wo y) := hr
      clear hW0 hx2 e0 e1 e2 hBW hc hK hl hr h' hA bkept
      go_loopw [4] (fun k wr => ∃ (j : Nat) (ys : List Value), k = .int .i64 j ∧ j ≤ x.len ∧ wr.ownsRow n₀ 3 1 (.slice px x.len cx) x.len (List.replicate j (mk x.n) ++ ys) ∧ KStep (fun k => Value.ownBlock (.slice px x.len cx) = some k) W0 wr) (fun k _ => x.len - (intOf k).toNat)
      case atStart => exact ⟨0, xs, rfl, by omega, by simpa using hrow0, KStep.refl _ _⟩
      case round =>
        obtain ⟨j, ys, rfl, hj, hrow, hKi⟩ := hrel
        have hbi : wr.heap[wo.heap.size]? = some (.cells #[.slice px x.len cx, .slice none 0 0, .int .i64 x.n] 137 (0, 0)) := (hKi.block _ hn1 (fun e => by have := hblt _ e; omega)).trans hn0
        have d0 : wr.cell? ⟨wo.heap.size, 0, none⟩ = some (.slice px x.len cx) := by rw [cell_of_row wr _ 0 _ _ _ hbi]; rfl
        have d2 : wr.cell? ⟨wo.heap.size, 2, none⟩ = some (.int .i64 x.n) := by rw [cell_of_row wr _ 2 _ _ _ hbi]; rfl
        by_cases hjn : j < x.len
        · have hlen : ys.length = x.len - j := by have := hrow.1; simp at this; omega
          obtain ⟨y, ys', rfl⟩ : ∃ y ys', ys = y :: ys' := by cases ys with | nil => simp at hlen; omega | cons y ys' => exact ⟨y, ys', rfl⟩
          obtain ⟨gx, cx', hgx, _⟩ := Ik.row_some hrow (by omega)
          simp at hgx
          obtain ⟨rfl, rfl⟩ := hgx
          have hgl : gx < wo.heap.size := hblt gx rfl
          have a1 := mark_place x.n b1
          unfold mk at a1
          have hne : wo.heap.size ≠ gx := by omega
          have c1 : wr.cell? ⟨gx, j, none⟩ = some y := by rw [hrow.cellAt _ (by omega)]; simp
          obtain ⟨cur, hcur⟩ := Ik.row_type hrow (k := gx) rfl
          have f1 : wr.frozen? ⟨gx, j, none⟩ = false := frozen_of_row wr gx j _ _ hcur
          have s2 : Hid (∀ v, (wr.setCell ⟨gx, j, none⟩ v).drew.cell? ⟨wo.heap.size, 0, none⟩ = some (.slice (some ⟨gx, 0, none⟩) x.len cx) ∧ (wr.setCell ⟨gx, j, none⟩ v).drew.cell? ⟨wo.heap.size, 2, none⟩ = some (.int .i64 x.n)) := fun v =>
            ⟨(World.cell?_of_block (a := ⟨wo.heap.size, 0, none⟩) (heap_setCell_other wr ⟨gx, j, none⟩ wo.heap.size v hne)).trans d0, (World.cell?_of_block (a := ⟨wo.heap.size, 2, none⟩) (heap_setCell_other wr ⟨gx, j, none⟩ wo.heap.size v hne)).trans d2⟩
          have HRow : Hid (wr.ownsRow n₀ 3 1 (.slice (some ⟨gx, 0, none⟩) x.len cx) x.len (List.replicate j (mk x.n) ++ y :: ys')) := hrow
          clear hlen hrow hcur hbi
          go_wp2
          go_region_held3 (fun W => W.cell? ⟨wo.heap.size, 0, none⟩ = some (.slice (some ⟨gx, 0, none⟩) x.len cx) ∧ W.cell? ⟨wo.heap.size, 2, none⟩ = some (.int .i64 x.n)) (first | exact s2.out _ | go_keep)
            ((first
              | (go_at_call 116; refine (a1 _).mono ?_; rintro e w' ⟨rfl, rfl⟩)))
          all_goals
            go_wp2
            go_roundw
            case rel =>
              have hst := HRow.out.stored j (mk x.n)
              rw [set_mark] at hst
              exact ⟨j + 1, ys', by simp, by omega, hst.1.drew, (hKi.trans (KStep.of_grown hst.2 (fun k e => by simpa [Value.ownBlock] using e))).drew⟩
            case measure => simp [intOf]; omega
        · have hq : ¬ ((j : Int) < (x.len : Int)) := by omega
          clear hrow0
          go_wp2
          go_roundw
          case rel =>
            have e1 : (((l ++ [x]).length : Nat) : Int) = l.length + 1 := by simp
            have hj' : j = x.len := by omega
            have hys : ys = [] := by have := hrow.1; simp at this; exact List.length_eq_zero_iff.1 (by omega)
            subst hys
            subst hj'
            have hlw := HL.out
            have hKx : KStep (fun k => x.l.ownBlock = some k) wo wr := (KStep.of_below HBW.out).trans (by rw [hlw]; exact hKi)
            have hap := hP
            rw [HR.out] at hap
            obtain ⟨_, hap1, hap2⟩ := List.pairwise_append.1 hap
            refine ⟨l ++ [x], r, by have := HR.out; simpa using this, by rw [e1], ?_, ?_, ?_⟩
            · intro y hy
              rcases List.mem_append.1 hy with hy | hy
              · have hy' := Hl.out y hy
                refine hy'.kept (fun k hk => hKx.block k (hy'.ha.blocks hk).2.1 (fun e => ?_))
                exact hap2 y hy x (by simp) k hk (.inl e)
              · simp at hy; subst hy
                exact ⟨HL2.out, by rw [hlw]; simpa using hrow⟩
            · intro y hy
              have hy' := Hr.out y (by simp [hy])
              refine hy'.kept (fun k hk => hKx.block k (hy'.blocks hk).2.1 (fun e => ?_))
              exact (List.pairwise_cons.1 hap1).1 y hy k (.inl e) hk
            · exact HWr.out.trans (hKx.mono (fun k e => ⟨x, by rw [HR.out]; simp, .inl e⟩))
          case measure => simp [intOf]; omega

end Go.Proofs.YtpjgdbeekmoedaaGreatDoor

namespace Go.Proofs.YtpjgdbeekmoedaaGreatDoor
set_option linter.unusedVariables false
set_option linter.unusedSimpArgs false
open Go.RowKit


variable {n₀ bk : Nat} {vp : Value} {w : World} {H : List He}

/-- A list that was grown. -/
structure HC (n₀ : Nat) (w : World) (x : He) : Prop where
  row : w.ownsRow n₀ 3 1 x.long (x.len + 40) (List.replicate (x.len + 40) (mk x.n))
  form : ∃ p c, x.l = .slice p x.len c ∧ (0 < x.len → ∃ g, p = some ⟨g, 0, none⟩)
  cells : ∀ g, x.l.ownBlock = some g → ∀ k, k < x.len → w.cell? ⟨g, k, none⟩ = some (mk x.n)
  blk : ∀ k, x.l.ownBlock = some k → n₀ ≤ k ∧ k < w.heap.size ∧ ∃ cur, w.heap[k]? = some (.cells cur 3 (0, 0))

theorem HC.blocks {x : He} (h : HC n₀ w x) {k : Nat} (hk : x.mine k) : n₀ ≤ k ∧ k < w.heap.size ∧ ∃ cur, w.heap[k]? = some (.cells cur 3 (0, 0)) := by
  rcases hk with e | e
  · exact h.blk k e
  · exact ⟨(h.row.lt k e).1, (h.row.lt k e).2, Ik.row_type h.row e⟩

theorem HC.kept {x : He} (h : HC n₀ w x) {w' : World} (hk : ∀ k, x.mine k → w'.heap[k]? = w.heap[k]?) : HC n₀ w' x := by
  refine ⟨Ik.row_kept h.row (fun k e => hk k (.inr e)), h.form, fun g e k hl => (World.cell?_of_block (a := ⟨g, k, none⟩) (hk g (.inl e))).trans (h.cells g e k hl), fun k e => ?_⟩
  obtain ⟨h1, h2, cur, h3⟩ := h.blk k e
  have h4 := (hk k (.inl e)).trans h3
  exact ⟨h1, (Array.getElem?_eq_some_iff.1 h4).1, cur, h4⟩

/-- While a list grows: what was it stays; what it is grown to lies there or in a new block. -/
structure Grn (v : Value) (n : Nat) (m : Value) (W0 wr : World) (long : Value) : Prop where
  step : KStep (fun k => v.ownBlock = some k) W0 wr
  where_ : long.ownBlock = v.ownBlock ∨ ∀ q, long.ownBlock = some q → W0.heap.size ≤ q
  cells : ∀ g, v.ownBlock = some g → g < W0.heap.size ∧ (∀ k, k < n → wr.cell? ⟨g, k, none⟩ = some m) ∧ ∃ cur, wr.heap[g]? = some (.cells cur 3 (0, 0))

theorem addr_add (g k : Nat) : (⟨g, 0, none⟩ : Addr).add k = ⟨g, k, none⟩ := by cases k <;> simp [Addr.add]

theorem Grn.first {v : Value} {n : Nat} {m : Value} {W0 : World} (h : W0.ownsRow n₀ 3 1 v n (List.replicate n m)) : Grn v n m W0 W0 v := by
  refine ⟨KStep.refl _ _, .inl rfl, fun g e => ⟨(h.lt g e).2, fun k hk => ?_, Ik.row_type h e⟩⟩
  have := h.cells e k m (by simp [hk])
  rwa [addr_add] at this

theorem Grn.spare {p : Option Addr} {n c gl N cl : Nat} {m : Value} {W0 wr w4 : World} {o : Obj} (h : Grn (.slice p n c) n m W0 wr (.slice (some ⟨gl, 0, none⟩) N cl)) (hown : w4.ownsRow n₀ 3 1 (.slice (some ⟨gl, 0, none⟩) (N + 1) cl) (N + 1) (List.replicate (N + 1) m)) (hN : n ≤ N) (hg : (wr.alloc o).grownBy w4 (some gl)) :
    Grn (.slice p n c) n m W0 w4 (.slice (some ⟨gl, 0, none⟩) (N + 1) cl) := by
  have hsz := h.step.size
  have hsp : ∀ k, some gl = some k → Value.ownBlock (.slice p n c) = some k ∨ W0.heap.size ≤ k := by
    intro k e
    rcases h.where_ with e2 | e2
    · left; rw [← e2]; exact e
    · right; exact e2 k e
  refine ⟨h.step.trans' (T := fun k => some gl = some k) ((KStep.of_below ((Below.refl _ _).alloc (Nat.le_refl _) _)).trans (KStep.of_grown hg (fun k e => e))) hsp, ?_, ?_⟩
  · rcases h.where_ with e | e
    · exact .inl e
    · exact .inr e
  · intro q e
    obtain ⟨q1, q2, q3⟩ := h.cells q e
    by_cases hq : q = gl
    · subst hq
      refine ⟨q1, fun k hk => ?_, Ik.row_type hown rfl⟩
      have := hown.cells (g := q) rfl k m (by rw [List.getElem?_replicate, if_pos (by omega)])
      rwa [addr_add] at this
    · have hb : w4.heap[q]? = wr.heap[q]? := (hg.block q (by simp; omega) (by simpa using hq)).trans (Below.heap_alloc _ _ q (by omega))
      exact ⟨q1, fun k hk => (World.cell?_of_block (a := ⟨q, k, none⟩) hb).trans (q2 k hk), by rw [hb]; exact q3⟩

theorem Grn.grow {v long v4 : Value} {n N : Nat} {m : Value} {W0 wr w4 : World} {o : Obj} (h : Grn v n m W0 wr long) (hown : w4.ownsRow (wr.alloc o).heap.size 3 1 v4 N (List.replicate N m)) (hg : (wr.alloc o).grownBy w4 none) :
    Grn v n m W0 w4 v4 := by
  have hsz := h.step.size
  refine ⟨(h.step.alloc o).trans (KStep.of_grown hg (fun k e => by simp at e)), .inr ?_, ?_⟩
  · intro q e
    have := (hown.lt q e).1
    simp at this; omega
  · intro q e
    obtain ⟨q1, q2, q3⟩ := h.cells q e
    have hb : w4.heap[q]? = wr.heap[q]? := (hg.block q (by simp; omega) (by simp)).trans (Below.heap_alloc _ _ q (by omega))
    exact ⟨q1, fun k hk => (World.cell?_of_block (a := ⟨q, k, none⟩) hb).trans (q2 k hk), by rw [hb]; exact q3⟩

theorem hcells_set (l r : List He) (x : He) (long : Value) : (hcells (l ++ x :: r)).set (l.length * 3 + 1) long = hcells (l ++ { x with long := long } :: r) := by
  rw [hcells_append, hcells_append, List.set_append_right _ _ (by rw [hcells_len]; omega), hcells_len, show l.length * 3 + 1 - l.length * 3 = 1 by omega]
  simp [hcells]

section
variable {W0 wo wr : World} {g N c : Nat} {l r : List He} {x : He} {v long : Value}

/-- The book where the first list has grown. -/
theorem grown_book (Hb : IsBk n₀ bk (.slice (some ⟨g, 0, none⟩) N c) wo (l ++ x :: r)) (hx : HB n₀ wo x) (HBW : Below wo.heap.size wo W0) (HL : x.l = v) (HG : Grn v x.len (mk x.n) W0 wr long) : IsBk n₀ bk (.slice (some ⟨g, 0, none⟩) N c) wr (l ++ x :: r) ∧ KStep (fun k => x.l.ownBlock = some k) wo wr := by
  have kx : KStep (fun k => x.l.ownBlock = some k) wo wr := (KStep.of_below HBW).trans (by rw [HL]; exact HG.step)
  exact ⟨Hb.kept (fun k hk => kx.block k (Hb.blocks hk).2.1 (fun e => Hb.off hx.ha hk (.inl e))), kx⟩

theorem book_cell (h : IsBk n₀ bk (.slice (some ⟨g, 0, none⟩) N c) wr (l ++ x :: r)) : wr.frozen? ⟨g, l.length * 3 + 1, none⟩ = false ∧ wr.cell? ⟨g, l.length * 3 + 1, none⟩ = some x.long := by
  have hN : N = (l ++ x :: r).length := by
    obtain ⟨p', c', e, _⟩ := Ik.row_some3 h.row
    simp at e; simp; omega
  subst hN
  obtain ⟨cur, hc⟩ := Ik.row_type3 h.row (k := g) rfl
  exact ⟨frozen_of_row wr g _ _ _ hc, (h.elem (j := l.length) (x := x) (by simp)).2.1⟩

theorem grown_round (Hb : IsBk n₀ bk (.slice (some ⟨g, 0, none⟩) N c) wo (l ++ x :: r)) (Hl : ∀ x ∈ l, HC n₀ wo x) (Hr : ∀ y ∈ x :: r, HB n₀ wo y) (hap : Apt (l ++ x :: r))
    (HK : KStep (fun k => mineH H k ∨ Value.ownBlock (.slice (some ⟨g, 0, none⟩) N c) = some k) w wo) (Hm : ∀ k, mineH (l ++ x :: r) k → mineH H k ∨ w.heap.size ≤ k)
    (HBW : Below wo.heap.size wo W0) (HL : x.l = v) (HG : Grn v x.len (mk x.n) W0 wr long) (HRow : wr.ownsRow n₀ 3 1 long (x.len + 40) (List.replicate (x.len + 40) (mk x.n))) :
    IsBk n₀ bk (.slice (some ⟨g, 0, none⟩) N c) (wr.setCell ⟨g, l.length * 3 + 1, none⟩ long) (l ++ { x with long := long } :: r) ∧
    (∀ y ∈ l ++ [{ x with long := long }], HC n₀ (wr.setCell ⟨g, l.length * 3 + 1, none⟩ long) y) ∧ (∀ y ∈ r, HB n₀ (wr.setCell ⟨g, l.length * 3 + 1, none⟩ long) y) ∧
    Apt (l ++ { x with long := long } :: r) ∧ KStep (fun k => mineH H k ∨ Value.ownBlock (.slice (some ⟨g, 0, none⟩) N c) = some k) w (wr.setCell ⟨g, l.length * 3 + 1, none⟩ long) ∧
    (∀ k, mineH (l ++ { x with long := long } :: r) k → mineH H k ∨ w.heap.size ≤ k) := by
  have hx := Hr x (by simp)
  obtain ⟨HbW, kx⟩ := grown_book Hb hx HBW HL HG
  have hso : ∀ q, q ≠ g → (wr.setCell ⟨g, l.length * 3 + 1, none⟩ long).heap[q]? = wr.heap[q]? := fun q hq => heap_setCell_other wr ⟨g, l.length * 3 + 1, none⟩ q long hq
  obtain ⟨cg, hcg⟩ := Ik.row_type3 Hb.row (k := g) rfl
  obtain ⟨cgw, hcgw⟩ := Ik.row_type3 HbW.row (k := g) rfl
  obtain ⟨hl1, hap1, hlx⟩ := List.pairwise_append.1 hap
  obtain ⟨hxr, hr1⟩ := List.pairwise_cons.1 hap1
  have hsz0 := HBW.size
  have hsz1 := kx.size
  have hszw := HK.size
  have keepY : ∀ k, k < wo.heap.size → (∃ cur, wo.heap[k]? = some (.cells cur 3 (0, 0))) → x.l.ownBlock ≠ some k → (wr.setCell ⟨g, l.length * 3 + 1, none⟩ long).heap[k]? = wo.heap[k]? := by
    rintro k hk ⟨cur, hcur⟩ hne
    refine (hso k ?_).trans (kx.block k hk hne)
    rintro rfl; rw [hcg] at hcur; simp at hcur
  have hmx : ∀ k, He.mine { x with long := long } k → x.mine k ∨ wo.heap.size ≤ k := by
    rintro k (e | e)
    · exact .inl (.inl e)
    · rcases HG.where_ with e2 | e2
      · left; left; rw [HL, ← e2]; exact e
      · right; have := e2 k e; omega
  have hlk : ∀ y ∈ l, ∀ k, y.mine k → k < wo.heap.size := fun y hy k hk => ((Hl y hy).blocks hk).2.1
  have hrk : ∀ y ∈ r, ∀ k, y.mine k → k < wo.heap.size := fun y hy k hk => ((Hr y (by simp [hy])).ha.blocks hk).2.1
  have hN : (l ++ x :: r).length = N := by
    obtain ⟨p', c', e, _⟩ := Ik.row_some3 HbW.row
    simp at e; simp; omega
  have hN' : (l ++ { x with long := long } :: r).length = N := by rw [← hN]; simp
  have hrow := HbW.row
  rw [hN] at hrow
  have hst := hrow.stored (l.length * 3 + 1) long
  rw [hcells_set] at hst
  refine ⟨⟨HbW.base, ?_, ?_, ?_, ?_⟩, ?_, ?_, ?_, ?_, ?_⟩
  · have : bk ≠ g := fun e => HbW.nvp (by rw [e]; rfl)
    have h2 := (hso bk this).trans HbW.blk
    simpa using h2
  · rw [hN']; exact hst.1
  · have := HbW.le; simpa using this
  · intro y hy
    rcases List.mem_append.1 hy with hy | hy
    · exact HbW.num y (by simp [hy])
    · rcases List.mem_cons.1 hy with rfl | hy
      · exact HbW.num x (by simp)
      · exact HbW.num y (by simp [hy])
  · intro y hy
    rcases List.mem_append.1 hy with hy | hy
    · refine (Hl y hy).kept (fun k hk => keepY k (hlk y hy k hk) ((Hl y hy).blocks hk).2.2 (fun e => hlx y hy x (by simp) k hk (.inl e)))
    · simp at hy; subst hy
      refine ⟨?_, ?_, ?_, ?_⟩
      · refine Ik.row_kept HRow (fun k hk => hso k ?_)
        rintro rfl
        obtain ⟨cur, hcur⟩ := Ik.row_type HRow hk
        rw [hcgw] at hcur; simp at hcur
      · rcases hx.2.2 with ⟨e, e2⟩ | ⟨g', c', _, e, _⟩
        · exact ⟨none, 0, by rw [e, e2], fun h => by dsimp only at h; omega⟩
        · exact ⟨_, _, e, fun _ => ⟨g', rfl⟩⟩
      · intro q e k hk
        obtain ⟨_, q2, cur, q3⟩ := HG.cells q (by rw [← HL]; exact e)
        refine (World.cell?_of_block (a := ⟨q, k, none⟩) (hso q ?_)).trans (q2 k hk)
        rintro rfl; rw [hcgw] at q3; simp at q3
      · intro k e
        obtain ⟨_, _, cur, q3⟩ := HG.cells k (by rw [← HL]; exact e)
        have hkg : k ≠ g := by rintro rfl; rw [hcgw] at q3; simp at q3
        have h4 := (hso k hkg).trans q3
        exact ⟨(hx.2.lt k e).1, (Array.getElem?_eq_some_iff.1 h4).1, cur, h4⟩
  · intro y hy
    have hy' := Hr y (by simp [hy])
    exact hy'.kept (fun k hk => keepY k (hrk y hy k hk) (hy'.ha.blocks hk).2.2.2 (fun e => hxr y hy k (.inl e) hk))
  · refine List.pairwise_append.2 ⟨hl1, List.pairwise_cons.2 ⟨?_, hr1⟩, ?_⟩
    · intro y hy k hk hk2
      rcases hmx k hk with e | e
      · exact hxr y hy k e hk2
      · have := hrk y hy k hk2; omega
    · intro y hy z hz k hk hk2
      rcases List.mem_cons.1 hz with rfl | hz
      · rcases hmx k hk2 with e | e
        · exact hlx y hy x (by simp) k hk e
        · have := hlk y hy k hk; omega
      · exact hlx y hy z (by simp [hz]) k hk hk2
  · refine (HK.trans' kx (fun k e => ?_)).trans (KStep.of_grown hst.2 (fun k e => by right; exact e))
    rcases Hm k ⟨x, by simp, .inl e⟩ with h | h
    · exact .inl (.inl h)
    · exact .inr h
  · rintro k ⟨y, hy, hk⟩
    rcases List.mem_append.1 hy with hy | hy
    · exact Hm k ⟨y, by simp [hy], hk⟩
    · rcases List.mem_cons.1 hy with rfl | hy
      · rcases hmx k hk with e | e
        · exact Hm k ⟨x, by simp, e⟩
        · right; omega
      · exact Hm k ⟨y, by simp [hy], hk⟩
end

set_option maxRecDepth 20000 in
set_option maxHeartbeats 1000000 in
theorem grow_place (h : IsBk n₀ bk vp w H) (hA : ∀ x ∈ H, HB n₀ w x) (hP : Apt H) : Calls Tryz.prog 50 #[.pointer (some ⟨bk, 0, none⟩)] w fun e w' => e = .returned (.tuple #[]) ∧
    ∃ H', IsBk n₀ bk vp w' H' ∧ (∀ x ∈ H', HC n₀ w' x) ∧ KStep (fun k => mineH H k ∨ vp.ownBlock = some k) w w' := by
  obtain ⟨N, hN⟩ : ∃ N, H.length = N := ⟨_, rfl⟩
  have hle := h.le
  obtain ⟨p, c, hvp, _, _, hp⟩ := Ik.row_some3 h.row
  rw [hN] at hvp hp hle
  subst hvp
  have HH : Hid (IsBk n₀ bk (.slice p N c) w H ∧ H.length = N) := ⟨h, hN⟩
  clear h hN
  go_enter Tryz.func50, Tryz.ntmps50
  go_wp2
  go_loopw [2] (fun k wr => ∃ (l r : List He), k = .int .i64 l.length ∧ l.length + r.length = N ∧ IsBk n₀ bk (.slice p N c) wr (l ++ r) ∧ (∀ x ∈ l, HC n₀ wr x) ∧ (∀ x ∈ r, HB n₀ wr x) ∧ Apt (l ++ r) ∧ KStep (fun k => mineH H k ∨ Value.ownBlock (.slice p N c) = some k) w wr ∧ (∀ k, mineH (l ++ r) k → mineH H k ∨ w.heap.size ≤ k)) (fun k _ => N - (intOf k).toNat)
  case atStart => exact ⟨[], H, rfl, by simpa using HH.out.2, HH.out.1, by simp, hA, hP, KStep.refl _ _, fun k h => .inl h⟩
  case round =>
    obtain ⟨l, r, rfl, hlr, h', hl, hr, hap, hK, hm⟩ := hrel
    rename World => wo
    have hc := h'.c2
    cases r with
    | nil =>
      have hq : ¬ ((l.length : Int) < (N : Int)) := by simp at hlr; omega
      have E1 : Hid _ := hlr
      clear hlr hp
      go_wp2
      go_end0
      exact ⟨rfl, l, by simpa using h', hl, hK⟩
    | cons x r =>
      have hlH : l.length < N := by simp at hlr; omega
      obtain ⟨g, rfl⟩ := hp (by omega)
      have hlen : (l ++ x :: r).length = N := by simpa using hlr
      have h2 := h'
      rw [← hlen] at h2
      obtain ⟨e0, e1, e2⟩ := h2.elem (j := l.length) (x := x) (by simp)
      obtain ⟨b1, b2⟩ := h'.num x (by simp)
      obtain ⟨hx1, hx2⟩ := hr x (by simp)
      obtain ⟨px, cx, hxl, hxc, _⟩ := Ik.row_form hx2
      have HL : Hid (x.l = .slice px x.len cx) := hxl
      have HL2 : Hid (x.long = .slice none 0 0) := hx1
      rw [hxl] at e0
      rw [hx1] at e1
      have HLR : Hid (l.length + (x :: r).length = N) := hlr
      clear hlr hxl hx1 hlen h2
      go_wp2
      obtain ⟨W0, hW0⟩ : ∃ W0, wo.alloc (.cells #[.slice px x.len cx, .slice none 0 0, .int .i64 x.n] 137) = W0 := ⟨_, rfl⟩
      have hBW : Below wo.heap.size wo W0 := hW0 ▸ (Below.refl _ _).alloc (Nat.le_refl _) _
      have hn0 : W0.heap[wo.heap.size]? = some (.cells #[.slice px x.len cx, .slice none 0 0, .int .i64 x.n] 137 (0, 0)) := hW0 ▸ heap_alloc_new wo _
      have hn1 : wo.heap.size < W0.heap.size := (Array.getElem?_eq_some_iff.1 hn0).1
      rw [hW0]
      have hrow0 : W0.ownsRow n₀ 3 1 (.slice px x.len cx) x.len (List.replicate x.len (mk x.n)) := by have := Ik.row_kept hx2 (fun k hk => hBW.block k (hx2.lt k hk).2); rwa [HL.out] at this
      have hblt : ∀ k, Value.ownBlock (.slice px x.len cx) = some k → k < wo.heap.size := fun k hk => (hx2.lt k (by rw [HL.out]; exact hk)).2
      have hbs : n₀ ≤ W0.heap.size := Nat.le_trans h'.base (Nat.le_of_lt (Nat.lt_trans h'.lt hn1))
      have HK : Hid (KStep (fun k => mineH H k ∨ Value.ownBlock (.slice (some ⟨g, 0, none⟩) N c) = some k) w wo) := hK
      have HBW : Hid (Below wo.heap.size wo W0) := hBW
      have Hl : Hid (∀ x ∈ l, HC n₀ wo x) := hl
      have Hr : Hid (∀ y ∈ x :: r, HB n₀ wo y) := hr
      have Hb : Hid (IsBk n₀ bk (.slice (some ⟨g, 0, none⟩) N c) wo (l ++ x :: r)) := h'
      have Hm : Hid (∀ k, mineH (l ++ x :: r) k → mineH H k ∨ w.heap.size ≤ k) := hm
      obtain ⟨i0, hi, hz0, hz1, hz2⟩ := info_parts infoI3
      clear hW0 hx2 e0 e1 e2 hBW hc hK hl hr h' hA hm
      go_loopw [4, 5] (fun long k wr => ∃ (j : Nat), k = .int .i64 j ∧ j ≤ 40 ∧ wr.ownsRow n₀ 3 1 long (x.len + j) (List.replicate (x.len + j) (mk x.n)) ∧ Grn (.slice px x.len cx) x.len (mk x.n) W0 wr long) (fun _ k _ => 40 - (intOf k).toNat)
      case atStart => exact ⟨0, rfl, by omega, hrow0, Grn.first hrow0⟩
      case round =>
        obtain ⟨j, rfl, hj, hrow, hG⟩ := hrel
        obtain ⟨pl, cl, rfl, hcl, hcm⟩ := Ik.row_form hrow
        have hKi := hG.step
        have hbi : wr.heap[wo.heap.size]? = some (.cells #[.slice px x.len cx, .slice none 0 0, .int .i64 x.n] 137 (0, 0)) := (hKi.block _ hn1 (fun e => by have := hblt _ e; omega)).trans hn0
        have d2 : wr.cell? ⟨wo.heap.size, 2, none⟩ = some (.int .i64 x.n) := by rw [cell_of_row wr _ 2 _ _ _ hbi]; rfl
        have hsz := hKi.size
        by_cases hjn : j < 40
        · have a1 := mark_place x.n b1
          unfold mk at a1
          have HG : Hid (Grn (.slice px x.len cx) x.len (mk x.n) W0 wr (.slice pl (x.len + j) cl)) := hG
          have HRow : Hid (wr.ownsRow n₀ 3 1 (.slice pl (x.len + j) cl) (x.len + j) (List.replicate (x.len + j) (mk x.n))) := hrow
          by_cases hroom : x.len + j + 1 ≤ cl
          · obtain ⟨gl, rfl⟩ : ∃ gl, pl = some ⟨gl, 0, none⟩ := by
              rcases hrow.2 with ⟨e, _⟩ | ⟨g', _, _, e, _⟩
              · simp at e; omega
              · simp at e; exact ⟨g', e.1⟩
            clear hG hrow hbi hKi
            go_wp2_with (first
              | (go_at_call 116; refine (a1 _).mono ?_; rintro e w' ⟨rfl, rfl⟩)
              | (at_builtin; refine wpList_append_own_spare _ rfl (.tmp 28) (.tmp 32) 26 rfl n₀ 3 i0 1 Tryz.underlying26 hi hz1 gl (x.len + j) cl (List.replicate (x.len + j) (mk x.n)) rfl (HRow.out.alloc _) ⟨_, 0, none⟩ 1 1 [mk x.n] rfl rfl (cell_one_new _ _ _) (by simp [mk, Value.oneCell']) hroom ?_; intro w4 hown4 hgrow4))
            go_roundw
            case rel => 
              rw [← List.replicate_succ'] at hown4
              exact ⟨j + 1, by simp, by omega, hown4, HG.out.spare hown4 (by omega) hgrow4⟩
            case measure => simp [intOf]; omega
          · clear hG hrow hbi hKi
            have hnone : pl = none → x.len + j = 0 ∧ cl = 0 := by
              intro e
              rcases HRow.out.2 with ⟨e2, _⟩ | ⟨g', _, _, e2, _⟩
              · simp at e2; omega
              · rw [e] at e2; simp at e2
            have holds : ∀ (W : World), W.ownsRow n₀ 3 1 (.slice pl (x.len + j) cl) (x.len + j) (List.replicate (x.len + j) (mk x.n)) → ∀ b, pl = some b → ∀ q u, (List.replicate (x.len + j) (mk x.n))[q]? = some u → W.cell? (b.add q) = some u := by
              intro W hW b hb q u hq
              rcases hW.2 with ⟨e2, _⟩ | ⟨g', c', cur, e2, _⟩
              · rw [hb] at e2; simp at e2
              · rw [hb] at e2; simp at e2
                have := hW.cells (g := g') (by rw [hb, e2.1]; rfl) q u hq
                rw [e2.1]; exact this
            go_wp2_with (first
              | (go_at_call 116; refine (a1 _).mono ?_; rintro e w' ⟨rfl, rfl⟩)
              | (at_builtin; refine wpList_append_grows _ rfl (.tmp 28) (.tmp 32) 26 rfl 3 i0 (.int .i64 0) 1 8 Tryz.underlying26 hi hz0 hz1 hz2 rfl (by decide) pl (x.len + j) cl (List.replicate (x.len + j) (mk x.n)) rfl hnone (by simp) (holds _ (HRow.out.alloc _)) ⟨_, 0, none⟩ 1 1 [mk x.n] rfl rfl (cell_one_new _ _ _) (by simp [mk, Value.oneCell']) (by omega) (by unfold maxLen; omega) (by omega) ?_; intro v4 w4 hown4 hgrow4))
            go_roundw
            case rel => 
              rw [← List.replicate_succ'] at hown4
              exact ⟨j + 1, by simp, by omega, row_mono2 hown4 (by simp; omega), HG.out.grow hown4 hgrow4⟩
            case measure => simp [intOf]; omega
        · have hq : ¬ ((j : Int) < 40) := by omega
          obtain rfl : j = 40 := by omega
          have HG : Hid (Grn (.slice px x.len cx) x.len (mk x.n) W0 wr (.slice pl (x.len + 40) cl)) := hG
          have HRow : Hid (wr.ownsRow n₀ 3 1 (.slice pl (x.len + 40) cl) (x.len + 40) (List.replicate (x.len + 40) (mk x.n))) := hrow
          obtain ⟨HbW, _⟩ := grown_book Hb.out (Hr.out x (by simp)) HBW.out HL.out HG.out
          have c2 := HbW.c2
          obtain ⟨hf, hcc⟩ := book_cell HbW
          rw [HL2.out] at hcc
          clear hrow hrow0 hG hbi hKi HbW
          go_wp2
          go_roundw
          case rel =>
            obtain ⟨q1, q2, q3, q4, q5, q6⟩ := grown_round Hb.out Hl.out Hr.out hap HK.out Hm.out HBW.out HL.out HG.out HRow.out
            have e1 : (((l ++ [{ x with long := Value.slice pl (x.len + 40) cl }]).length : Nat) : Int) = l.length + 1 := by simp
            have e2 : l ++ { x with long := Value.slice pl (x.len + 40) cl } :: r = (l ++ [{ x with long := Value.slice pl (x.len + 40) cl }]) ++ r := by simp
            rw [e2] at q1 q4 q6
            exact ⟨_, r, by rw [e1], by have := HLR.out; simp at this ⊢; omega, q1, q2, q3, q4, q5, q6⟩
          case measure => simp [intOf]; omega

end Go.Proofs.YtpjgdbeekmoedaaGreatDoor

namespace Go.Proofs.YtpjgdbeekmoedaaGreatDoor
set_option linter.unusedVariables false
set_option linter.unusedSimpArgs false
open Go.RowKit


variable {n₀ bk : Nat} {vp : Value} {w : World} {H : List He}

set_option maxRecDepth 20000 in
set_option maxHeartbeats 1000000 in
theorem look_place (h : IsBk n₀ bk vp w H) (hA : ∀ x ∈ H, HC n₀ w x) : Calls Tryz.prog 70 #[.pointer (some ⟨bk, 0, none⟩)] w fun e w' => e = .returned (.bool true) ∧ Below w.heap.size w w' := by
  have hle := h.le
  have HH : Hid (IsBk n₀ bk vp w H) := h
  obtain ⟨p, c, hvp, _, _, hp⟩ := Ik.row_some3 h.row
  subst hvp
  clear h
  go_enter Tryz.func70, Tryz.ntmps70
  go_wp2
  go_loopw [3] (fun k wr => ∃ (l r : List He), H = l ++ r ∧ k = .int .i64 l.length ∧ Below w.heap.size w wr) (fun k _ => H.length - (intOf k).toNat)
  case atStart => exact ⟨[], H, rfl, rfl, Below.refl _ _⟩
  case round =>
    obtain ⟨l, r, hH, rfl, hB⟩ := hrel
    rename World => wo
    have h' : IsBk n₀ bk (.slice p H.length c) wo H := HH.out.kept (fun k hk => hB.block k (HH.out.blocks hk).2.1)
    have hc := h'.c2
    cases r with
    | nil =>
      have hH' : H = l := by simpa using hH
      have hq : ¬ ((l.length : Int) < (H.length : Int)) := by rw [hH']; omega
      clear hH hH' hp
      go_wp2
      go_ret
      exact ⟨rfl, hB⟩
    | cons x r =>
      have hlH : l.length < H.length := by rw [hH]; simp
      obtain ⟨g, rfl⟩ := hp (by omega)
      have hxm : x ∈ H := by rw [hH]; simp
      obtain ⟨e0, e1, e2⟩ := h'.elem (j := l.length) (x := x) (by rw [hH]; simp)
      obtain ⟨b1, b2⟩ := h'.num x hxm
      have hx := (hA x hxm).kept (w' := wo) (fun k hk => hB.block k ((hA x hxm).blocks hk).2.1)
      obtain ⟨px, cx, hxl, hxs⟩ := hx.form
      obtain ⟨gl, cl, hxg, _, _⟩ := Ik.row_some hx.row (by omega)
      have HL : Hid (x.l = .slice px x.len cx) := hxl
      have HG : Hid (x.long = .slice (some ⟨gl, 0, none⟩) (x.len + 40) cl) := hxg
      rw [hxl] at e0
      rw [hxg] at e1
      have HR : Hid (H = l ++ x :: r) := hH
      have HX : Hid (HC n₀ wo x) := hx
      clear hH hxl hxg hx h'
      go_wp2
      obtain ⟨W0, hW0⟩ : ∃ W0, wo.alloc (.cells #[.slice px x.len cx, .slice (some ⟨gl, 0, none⟩) (x.len + 40) cl, .int .i64 x.n] 137) = W0 := ⟨_, rfl⟩
      rw [hW0]
      have hBW : Below wo.heap.size wo W0 := hW0 ▸ (Below.refl _ _).alloc (Nat.le_refl _) _
      have hn0 : W0.heap[wo.heap.size]? = some (.cells #[.slice px x.len cx, .slice (some ⟨gl, 0, none⟩) (x.len + 40) cl, .int .i64 x.n] 137 (0, 0)) := hW0 ▸ heap_alloc_new wo _
      have hn1 : wo.heap.size < W0.heap.size := (Array.getElem?_eq_some_iff.1 hn0).1
      have HBW : Hid (Below wo.heap.size wo W0) := hBW
      clear hW0 e0 e1 e2 hBW hc hA
      go_loopw [5] (fun k wr => ∃ (j : Nat), k = .int .i64 j ∧ j ≤ x.len + 40 ∧ Below W0.heap.size W0 wr) (fun k _ => x.len + 40 - (intOf k).toNat)
      case atStart => exact ⟨0, rfl, by omega, Below.refl _ _⟩
      case round =>
        obtain ⟨j, rfl, hj, hBi⟩ := hrel
        have hbi := (hBi.block _ hn1).trans hn0
        have d0 : wr.cell? ⟨wo.heap.size, 0, none⟩ = some (.slice px x.len cx) := by rw [cell_of_row wr _ 0 _ _ _ hbi]; rfl
        have d1 : wr.cell? ⟨wo.heap.size, 1, none⟩ = some (.slice (some ⟨gl, 0, none⟩) (x.len + 40) cl) := by rw [cell_of_row wr _ 1 _ _ _ hbi]; rfl
        have d2 : wr.cell? ⟨wo.heap.size, 2, none⟩ = some (.int .i64 x.n) := by rw [cell_of_row wr _ 2 _ _ _ hbi]; rfl
        have hbw : ∀ k, k < wo.heap.size → wr.heap[k]? = wo.heap[k]? := fun k hk => (hBi.block k (by omega)).trans (HBW.out.block k hk)
        clear hbi
        by_cases hjn : j < x.len + 40
        · have a1 := is_place x.n b1
          unfold mk at a1
          have d3 : wr.cell? ⟨gl, j, none⟩ = some (.int .i64 (-1000 - (x.n : Int))) := by
            have h1 := HX.out.row
            rw [HG.out] at h1
            have h2 := h1.cells (g := gl) rfl j (mk x.n) (by rw [List.getElem?_replicate, if_pos hjn])
            rw [addr_add] at h2
            exact (World.cell?_of_block (a := ⟨gl, j, none⟩) (hbw gl (h1.lt gl rfl).2)).trans h2
          by_cases hjl : j < x.len
          · obtain ⟨gx, rfl⟩ := hxs (by omega)
            have hgx : x.l.ownBlock = some gx := by rw [HL.out]; rfl
            have d4 : wr.cell? ⟨gx, j, none⟩ = some (.int .i64 (-1000 - (x.n : Int))) :=
              (World.cell?_of_block (a := ⟨gx, j, none⟩) (hbw gx (HX.out.blk gx hgx).2.1)).trans (HX.out.cells gx hgx j hjl)
            clear hxs hbw hgx hn0
            go_wp2
            go_quiet ((go_at_call 136; exact Calls.quiet_of_same (a1 _)))
            go_wp2
            go_roundw
            case rel => exact ⟨j + 1, by simp, by omega, below_drewN' hBi _⟩
            case measure => simp [intOf]; omega
          · have hjl' : ¬ ((j : Int) < (x.len : Int)) := by omega
            clear hxs hbw hn0
            go_wp2
            go_quiet ((go_at_call 136; exact Calls.quiet_of_same (a1 _)))
            go_wp2
            go_roundw
            case rel => exact ⟨j + 1, by simp, by omega, below_drewN' hBi _⟩
            case measure => simp [intOf]; omega
        · have hq : ¬ ((j : Int) < (x.len : Int) + 40) := by omega
          clear hbw hn0 hxs
          go_wp2
          go_roundw
          case rel =>
            have e1 : (((l ++ [x]).length : Nat) : Int) = l.length + 1 := by simp
            exact ⟨l ++ [x], r, by have := HR.out; simpa using this, by rw [e1], hB.trans ((HBW.out.trans (hBi.mono HBW.out.size)).mono hB.size)⟩
          case measure => simp [intOf]; omega

end Go.Proofs.YtpjgdbeekmoedaaGreatDoor
