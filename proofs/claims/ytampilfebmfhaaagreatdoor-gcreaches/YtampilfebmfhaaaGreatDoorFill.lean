/- The book fills the lists that it holds with marks. -/
import Derived.Test.YtampilfebmfhaaaGreatDoorHold
namespace Go.Proofs.YtampilfebmfhaaaGreatDoor
open Go.RowKit

variable {n₀ bk : Nat} {vp : Value} {w : World} {H : List He}

/-- The mark of a list's number. -/
def mk (n : Nat) : Value := .int .i64 (-1000 - (n : Int))

/-- A list that was kept; one that is filled. -/
def HA (n₀ : Nat) (w : World) (x : He) : Prop := x.long = .slice none 0 0 ∧ ∃ xs, w.ownsRow n₀ 2 1 x.l x.len xs

def HB (n₀ : Nat) (w : World) (x : He) : Prop := x.long = .slice none 0 0 ∧ w.ownsRow n₀ 2 1 x.l x.len (List.replicate x.len (mk x.n))

def Apt (H : List He) : Prop := H.Pairwise (fun x y => ∀ k, x.mine k → ¬ y.mine k)

def mineH (H : List He) (k : Nat) : Prop := ∃ x ∈ H, x.mine k

theorem HA.blocks {x : He} (h : HA n₀ w x) {k : Nat} (hk : x.mine k) : n₀ ≤ k ∧ k < w.heap.size ∧ x.l.ownBlock = some k ∧ ∃ cur, w.heap[k]? = some (.cells cur 2 (0, 0)) := by
  obtain ⟨h1, xs, h2⟩ := h
  rcases hk with e | e
  · exact ⟨(h2.lt k e).1, (h2.lt k e).2, e, IsAr.row_type h2 e⟩
  · rw [h1] at e; simp [Value.ownBlock] at e

theorem HB.ha {x : He} (h : HB n₀ w x) : HA n₀ w x := ⟨h.1, _, h.2⟩

theorem HA.kept {x : He} (h : HA n₀ w x) {w' : World} (hk : ∀ k, x.mine k → w'.heap[k]? = w.heap[k]?) : HA n₀ w' x := by
  obtain ⟨h1, xs, h2⟩ := h
  exact ⟨h1, xs, IsRf.row_kept h2 (fun k e => hk k (.inl e))⟩

theorem HB.kept {x : He} (h : HB n₀ w x) {w' : World} (hk : ∀ k, x.mine k → w'.heap[k]? = w.heap[k]?) : HB n₀ w' x :=
  ⟨h.1, IsRf.row_kept h.2 (fun k e => hk k (.inl e))⟩

/-- The book's own blocks are none of the lists'. -/
theorem IsBk.off (h : IsBk n₀ bk vp w H) {x : He} (hx : HA n₀ w x) {k : Nat} (hk : IsBk.own bk vp k) : ¬ x.mine k := by
  intro e
  obtain ⟨_, _, cur, t, h1, h2⟩ := h.blocks hk
  obtain ⟨_, _, _, cur', h3⟩ := hx.blocks e
  rw [h1] at h3
  rcases h2 with rfl | rfl <;> simp at h3

theorem set_mark {m y : Value} (j : Nat) (ys : List Value) : (List.replicate j m ++ y :: ys).set j m = List.replicate (j + 1) m ++ ys := by
  rw [List.set_append_right _ _ (by simp), List.replicate_succ']
  simp

set_option maxHeartbeats 400000 in
theorem mark_place (n : Nat) (hn : n ≤ 20) (w : World) : Calls Tryz.prog 133 #[.int .i64 n] w fun e w' => e = .returned (mk n) ∧ w' = w := by
  unfold mk
  go_enter Tryz.func133, Tryz.ntmps133
  go_wp2
  go_ret
  exact ⟨rfl, rfl⟩

set_option maxHeartbeats 400000 in
theorem is_place (n : Nat) (hn : n ≤ 20) (w : World) : Calls Tryz.prog 153 #[mk n, .int .i64 n] w fun e w' => e = .returned (.bool true) ∧ w' = w := by
  unfold mk
  go_enter Tryz.func153, Tryz.ntmps153
  go_wp2
  go_ret
  exact ⟨rfl, rfl⟩

set_option maxRecDepth 20000 in
set_option maxHeartbeats 1000000 in
theorem fill_place (h : IsBk n₀ bk vp w H) (hA : ∀ x ∈ H, HA n₀ w x) (hP : Apt H) : Calls Tryz.prog 37 #[.pointer (some ⟨bk, 0, none⟩)] w fun e w' => e = .returned (.tuple #[]) ∧
    IsBk n₀ bk vp w' H ∧ (∀ x ∈ H, HB n₀ w' x) ∧ KStep (mineH H) w w' := by
  have HH : Hid (IsBk n₀ bk vp w H) := h
  have hle := h.le
  obtain ⟨p, c, hvp, _, _, hp⟩ := IsRf.row_some3 h.row
  subst hvp
  have bkept : ∀ {wr}, KStep (mineH H) w wr → IsBk n₀ bk (.slice p H.length c) wr H := fun hK => h.kept (fun k hk => hK.block k (h.blocks hk).2.1 (by rintro ⟨x, hx, e⟩; exact h.off (hA x hx) hk e))
  clear h
  go_enter Tryz.func37, Tryz.ntmps37
  go_wp2
  go_loopw [2] (fun k wr => ∃ (l r : List He), H = l ++ r ∧ k = .int .i64 l.length ∧ (∀ x ∈ l, HB n₀ wr x) ∧ (∀ x ∈ r, HA n₀ wr x) ∧ KStep (mineH H) w wr) (fun k _ => H.length - (intOf k).toNat)
  case atStart => exact ⟨[], H, rfl, rfl, by simp, hA, KStep.refl _ _⟩
  case round =>
    obtain ⟨l, r, hH, rfl, hl, hr, hK⟩ := hrel
    rename World => wo
    have h' := bkept hK
    have hc := h'.c2
    cases r with
    | nil =>
      have hH' : H = l := by simpa using hH
      have hq : ¬ ((l.length : Int) < (H.length : Int)) := by rw [hH']; omega
      have E1 : Hid _ := hH'
      clear hH hH' hp
      go_wp2
      go_end0
      exact ⟨rfl, h', by rw [E1.out]; exact hl, hK⟩
    | cons x r =>
      have hlH : l.length < H.length := by rw [hH]; simp
      obtain ⟨g, rfl⟩ := hp (by omega)
      have hxm : x ∈ H := by rw [hH]; simp
      obtain ⟨e0, e1, e2⟩ := h'.elem (j := l.length) (x := x) (by rw [hH]; simp)
      obtain ⟨b1, b2⟩ := h'.num x hxm
      obtain ⟨hx1, xs, hx2⟩ := hr x (by simp)
      obtain ⟨px, cx, hxl, _, _⟩ := IsAr.row_form hx2
      have HL : Hid _ := hxl
      have HL2 : Hid _ := hx1
      rw [hxl] at e0
      rw [hx1] at e1
      have HR : Hid (H = l ++ x :: r) := hH
      clear hH hxl hx1
      go_wp2
      obtain ⟨W0, hW0⟩ : ∃ W0, wo.alloc (.cells #[.slice px x.len cx, .slice none 0 0, .int .i64 x.n] 148) = W0 := ⟨_, rfl⟩
      have hBW : Below wo.heap.size wo W0 := hW0 ▸ (Below.refl _ _).alloc (Nat.le_refl _) _
      have hn0 : W0.heap[wo.heap.size]? = some (.cells #[.slice px x.len cx, .slice none 0 0, .int .i64 x.n] 148 (0, 0)) := hW0 ▸ heap_alloc_new wo _
      have hn1 : wo.heap.size < W0.heap.size := (Array.getElem?_eq_some_iff.1 hn0).1
      rw [hW0]
      have hrow0 : W0.ownsRow n₀ 2 1 (.slice px x.len cx) x.len xs := by have := IsRf.row_kept hx2 (fun k hk => hBW.block k (hx2.lt k hk).2); rwa [HL.out] at this
      have hblt : ∀ k, Value.ownBlock (.slice px x.len cx) = some k → k < wo.heap.size := fun k hk => (hx2.lt k (by rw [HL.out]; exact hk)).2
      have HWr : Hid (KStep (mineH H) w wo) := hK
      have HBW : Hid (Below wo.heap.size wo W0) := hBW
      have Hl : Hid (∀ x ∈ l, HB n₀ wo x) := hl
      have Hr : Hid (∀ y ∈ x :: r, HA n₀ wo y) := hr
      clear hW0 hx2 e0 e1 e2 hBW hc hK hl hr h' hA bkept
      go_loopw [4] (fun k wr => ∃ (j : Nat) (ys : List Value), k = .int .i64 j ∧ j ≤ x.len ∧ wr.ownsRow n₀ 2 1 (.slice px x.len cx) x.len (List.replicate j (mk x.n) ++ ys) ∧ KStep (fun k => Value.ownBlock (.slice px x.len cx) = some k) W0 wr) (fun k _ => x.len - (intOf k).toNat)
      case atStart => exact ⟨0, xs, rfl, by omega, by simpa using hrow0, KStep.refl _ _⟩
      case round =>
        obtain ⟨j, ys, rfl, hj, hrow, hKi⟩ := hrel
        have hbi : wr.heap[wo.heap.size]? = some (.cells #[.slice px x.len cx, .slice none 0 0, .int .i64 x.n] 148 (0, 0)) := (hKi.block _ hn1 (fun e => by have := hblt _ e; omega)).trans hn0
        have d0 : wr.cell? ⟨wo.heap.size, 0, none⟩ = some (.slice px x.len cx) := by rw [cell_of_row wr _ 0 _ _ _ hbi]; rfl
        have d2 : wr.cell? ⟨wo.heap.size, 2, none⟩ = some (.int .i64 x.n) := by rw [cell_of_row wr _ 2 _ _ _ hbi]; rfl
        by_cases hjn : j < x.len
        · have hlen : ys.length = x.len - j := by have := hrow.1; simp at this; omega
          obtain ⟨y, ys', rfl⟩ : ∃ y ys', ys = y :: ys' := by cases ys with | nil => simp at hlen; omega | cons y ys' => exact ⟨y, ys', rfl⟩
          obtain ⟨gx, cx', hgx, _⟩ := IsAr.row_some hrow (by omega)
          simp at hgx
          obtain ⟨rfl, rfl⟩ := hgx
          have hgl : gx < wo.heap.size := hblt gx rfl
          have a1 := mark_place x.n b1
          unfold mk at a1
          have hne : wo.heap.size ≠ gx := by omega
          have c1 : wr.cell? ⟨gx, j, none⟩ = some y := by rw [hrow.cellAt _ (by omega)]; simp
          obtain ⟨cur, hcur⟩ := IsAr.row_type hrow (k := gx) rfl
          have f1 : wr.frozen? ⟨gx, j, none⟩ = false := frozen_of_row wr gx j _ _ hcur
          have s2 : Hid (∀ v, (wr.setCell ⟨gx, j, none⟩ v).drew.cell? ⟨wo.heap.size, 0, none⟩ = some (.slice (some ⟨gx, 0, none⟩) x.len cx) ∧ (wr.setCell ⟨gx, j, none⟩ v).drew.cell? ⟨wo.heap.size, 2, none⟩ = some (.int .i64 x.n)) := fun v =>
            ⟨(World.cell?_of_block (a := ⟨wo.heap.size, 0, none⟩) (heap_setCell_other wr ⟨gx, j, none⟩ wo.heap.size v hne)).trans d0, (World.cell?_of_block (a := ⟨wo.heap.size, 2, none⟩) (heap_setCell_other wr ⟨gx, j, none⟩ wo.heap.size v hne)).trans d2⟩
          have HRow : Hid (wr.ownsRow n₀ 2 1 (.slice (some ⟨gx, 0, none⟩) x.len cx) x.len (List.replicate j (mk x.n) ++ y :: ys')) := hrow
          clear hlen hrow hcur hbi
          go_wp2
          go_region_held3 (fun W => W.cell? ⟨wo.heap.size, 0, none⟩ = some (.slice (some ⟨gx, 0, none⟩) x.len cx) ∧ W.cell? ⟨wo.heap.size, 2, none⟩ = some (.int .i64 x.n)) (first | exact s2.out _ | go_keep)
            ((first
              | (go_at_call 133; refine (a1 _).mono ?_; rintro e w' ⟨rfl, rfl⟩)))
          all_goals
            go_wp2
            go_roundw
            case rel =>
              have hst := HRow.out.stored j (mk x.n)
              rw [set_mark] at hst
              exact ⟨j + 1, ys', by simp, by omega, hst.1.drew, (hKi.trans (KStep.of_grown hst.2 (fun k e => by simpa [Value.ownBlock] using e))).drew⟩
            case measure => simp [intOf]; omega
        · have hq : ¬ ((j : Int) < (x.len : Int)) := by omega
          clear hrow0
          go_wp2
          go_roundw
          case rel =>
            have e1 : (((l ++ [x]).length : Nat) : Int) = l.length + 1 := by simp
            have hj' : j = x.len := by omega
            have hys : ys = [] := by have := hrow.1; simp at this; exact List.length_eq_zero_iff.1 (by omega)
            subst hys
            subst hj'
            have hlw := HL.out
            have hKx : KStep (fun k => x.l.ownBlock = some k) wo wr := (KStep.of_below HBW.out).trans (by rw [hlw]; exact hKi)
            have hap := hP
            rw [HR.out] at hap
            obtain ⟨_, hap1, hap2⟩ := List.pairwise_append.1 hap
            refine ⟨l ++ [x], r, by have := HR.out; simpa using this, by rw [e1], ?_, ?_, ?_⟩
            · intro y hy
              rcases List.mem_append.1 hy with hy | hy
              · have hy' := Hl.out y hy
                refine hy'.kept (fun k hk => hKx.block k (hy'.ha.blocks hk).2.1 (fun e => ?_))
                exact hap2 y hy x (by simp) k hk (.inl e)
              · simp at hy; subst hy
                exact ⟨HL2.out, by rw [hlw]; simpa using hrow⟩
            · intro y hy
              have hy' := Hr.out y (by simp [hy])
              refine hy'.kept (fun k hk => hKx.block k (hy'.blocks hk).2.1 (fun e => ?_))
              exact (List.pairwise_cons.1 hap1).1 y hy k (.inl e) hk
            · exact HWr.out.trans (hKx.mono (fun k e => ⟨x, by rw [HR.out]; simp, .inl e⟩))
          case measure => simp [intOf]; omega

end Go.Proofs.YtampilfebmfhaaaGreatDoor
