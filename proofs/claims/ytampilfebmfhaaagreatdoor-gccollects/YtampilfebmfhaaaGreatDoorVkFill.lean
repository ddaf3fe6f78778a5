/- The book's marks of values. -/
import Derived.Test.YtampilfebmfhaaaGreatDoorVkHold
namespace Go.Proofs.YtampilfebmfhaaaGreatDoor
set_option linter.unusedVariables false
set_option linter.unusedSimpArgs false
open Go.RowKit

variable {w : World}

/-- A mark's cells. -/
def mkI (n : Nat) : Int := -1000 - (n : Int)

def mkc (n : Nat) : List Value := [.int .u8 0, .int .i64 (mkI n)]

theorem infoValS : (Tryz.prog.info? 76).map (·.size) = some 2 := by kernel_rfl

set_option maxRecDepth 20000 in
set_option maxHeartbeats 1000000 in
theorem markVal_in (n : Nat) (hn : n ≤ 9) (w : World) : Calls Tryz.prog 135 #[.int .i64 n] w fun e w' => e = .returned (.agg #[.int .u8 0, .int .i64 (mkI n)]) ∧ Below w.heap.size w w' := by
  go_enter Tryz.func135, Tryz.ntmps135
  go_wp2
  (try simp only [Exit.inBlock, Exit.then])
  refine bodyPost_ret (results_cell_row (by rfl) _ _ w.heap.size 76 #[.int .u8 0, .int .i64 (mkI n)] (0, 0) _ (by rfl) (heap_alloc_new w _) Tryz.underlying76 (by rfl) infoValS) (by rfl) ?_
  exact ⟨rfl, below1 w _⟩

set_option maxRecDepth 20000 in
set_option maxHeartbeats 1000000 in
theorem isVal_in (n : Nat) (hn : n ≤ 9) (w : World) : Calls Tryz.prog 155 #[.agg #[.int .u8 0, .int .i64 (mkI n)], .int .i64 n] w fun e w' => e = .returned (.bool true) ∧ Below w.heap.size w w' := by
  have hA := below1 w (.cells #[.int .u8 0, .int .i64 (mkI n)] 76)
  have hz := heap_alloc_new w (.cells #[.int .u8 0, .int .i64 (mkI n)] 76)
  obtain ⟨⟨c0, c1⟩, f0, f1⟩ := cell_row2V hz
  go_enter Tryz.func155, Tryz.ntmps155
  go_wp2
  go_ret
  exact ⟨by simp [mkI], hA⟩

end Go.Proofs.YtampilfebmfhaaaGreatDoor

namespace Go.Proofs.YtampilfebmfhaaaGreatDoor
set_option linter.unusedVariables false
set_option linter.unusedSimpArgs false
open Go.RowKit

variable {n₀ bk : Nat} {vp : Value} {w : World} {H : List He}

/-- The cells of marks. -/
def mks (n : Nat) : Nat → List Value
  | 0 => []
  | j + 1 => mks n j ++ mkc n

theorem mks_len (n j : Nat) : (mks n j).length = j * 2 := by
  induction j with
  | zero => rfl
  | succ j ih => simp [mks, mkc, ih]; omega

theorem mks_get (n : Nat) : ∀ {j k : Nat}, k < j → (mks n j)[k * 2]? = some (.int .u8 0) ∧ (mks n j)[k * 2 + 1]? = some (.int .i64 (mkI n)) := by
  intro j
  induction j with
  | zero => intro k h; omega
  | succ j ih =>
    intro k h
    by_cases hk : k < j
    · obtain ⟨a0, a1⟩ := ih hk
      have hl := mks_len n j
      simp only [mks]
      exact ⟨by rw [List.getElem?_append_left (by omega)]; exact a0, by rw [List.getElem?_append_left (by omega)]; exact a1⟩
    · have e : k = j := by omega
      subst e
      have hl := mks_len n k
      simp only [mks]
      refine ⟨?_, ?_⟩
      all_goals
        rw [List.getElem?_append_right (by omega), hl]
        simp [mkc]

/-- A list that was kept; one that is filled. -/
def HA (n₀ : Nat) (w : World) (x : He) : Prop := x.long = .slice none 0 0 ∧ ∃ xs, w.ownsRow n₀ 76 2 x.l x.len xs

def HB (n₀ : Nat) (w : World) (x : He) : Prop := x.long = .slice none 0 0 ∧ w.ownsRow n₀ 76 2 x.l x.len (mks x.n x.len)

def Apt (H : List He) : Prop := H.Pairwise (fun x y => ∀ k, x.mine k → ¬ y.mine k)

def mineH (H : List He) (k : Nat) : Prop := ∃ x ∈ H, x.mine k

theorem HA.blocks {x : He} (h : HA n₀ w x) {k : Nat} (hk : x.mine k) : n₀ ≤ k ∧ k < w.heap.size ∧ x.l.ownBlock = some k ∧ ∃ cur, w.heap[k]? = some (.cells cur 76 (0, 0)) := by
  obtain ⟨h1, xs, h2⟩ := h
  rcases hk with e | e
  · exact ⟨(h2.lt k e).1, (h2.lt k e).2, e, row_obj h2 e⟩
  · rw [h1] at e; simp [Value.ownBlock] at e

theorem HB.ha {x : He} (h : HB n₀ w x) : HA n₀ w x := ⟨h.1, _, h.2⟩

theorem HA.kept {x : He} (h : HA n₀ w x) {w' : World} (hk : ∀ k, x.mine k → w'.heap[k]? = w.heap[k]?) : HA n₀ w' x := by
  obtain ⟨h1, xs, h2⟩ := h
  exact ⟨h1, xs, row_kept h2 (fun k e => hk k (.inl e))⟩

theorem HB.kept {x : He} (h : HB n₀ w x) {w' : World} (hk : ∀ k, x.mine k → w'.heap[k]? = w.heap[k]?) : HB n₀ w' x :=
  ⟨h.1, row_kept h.2 (fun k e => hk k (.inl e))⟩

/-- The book's own blocks are none of the lists'. -/
theorem IsBk.off (h : IsBk n₀ bk vp w H) {x : He} (hx : HA n₀ w x) {k : Nat} (hk : IsBk.own bk vp k) : ¬ x.mine k := by
  intro e
  obtain ⟨_, _, cur, t, h1, h2⟩ := h.blocks hk
  obtain ⟨_, _, _, cur', h3⟩ := hx.blocks e
  rw [h1] at h3
  rcases h2 with rfl | rfl <;> simp at h3

/-- Two cells written at a place. -/
def set2At (W : World) (g o : Nat) (x0 x1 : Value) : World := (W.setCell ⟨g, o, none⟩ x0).setCell ⟨g, o + 1, none⟩ x1

theorem set2_list (a : List Value) (y0 y1 x0 x1 : Value) (ys : List Value) (o : Nat) (ho : o = a.length) : ((a ++ y0 :: y1 :: ys).set o x0).set (o + 1) x1 = a ++ x0 :: x1 :: ys := by
  subst ho
  simp [List.set_append]

theorem stored2 {base n : Nat} {g c : Nat} {e : TypeId} {a ys : List Value} {y0 y1 x0 x1 : Value} {o : Nat} (ho : o = a.length) (h : w.ownsRow base e 2 (.slice (some ⟨g, 0, none⟩) n c) n (a ++ y0 :: y1 :: ys)) :
    (set2At w g o x0 x1).ownsRow base e 2 (.slice (some ⟨g, 0, none⟩) n c) n (a ++ x0 :: x1 :: ys) ∧ KStep (fun k => Value.ownBlock (.slice (some ⟨g, 0, none⟩) n c) = some k) w (set2At w g o x0 x1) := by
  have s0 := h.stored o x0
  have s1 := s0.1.stored (o + 1) x1
  refine ⟨?_, ?_⟩
  · have := s1.1
    rw [set2_list _ _ _ _ _ _ _ ho] at this
    exact this
  · exact (KStep.of_grown s0.2 (fun k e => by simpa [Value.ownBlock] using e)).trans (KStep.of_grown s1.2 (fun k e => by simpa [Value.ownBlock] using e))

set_option maxRecDepth 20000 in
set_option maxHeartbeats 1000000 in
theorem fill_val (h : IsBk n₀ bk vp w H) (hA : ∀ x ∈ H, HA n₀ w x) (hP : Apt H) : Calls Tryz.prog 39 #[.pointer (some ⟨bk, 0, none⟩)] w fun e w' => e = .returned (.tuple #[]) ∧
    IsBk n₀ bk vp w' H ∧ (∀ x ∈ H, HB n₀ w' x) ∧ KStep (mineH H) w w' := by
  have HH : Hid (IsBk n₀ bk vp w H) := h
  have hle := h.le
  obtain ⟨p, c, hvp, _, _, hp⟩ := row_formV h.row
  subst hvp
  have bkept : ∀ {wr}, KStep (mineH H) w wr → IsBk n₀ bk (.slice p H.length c) wr H := fun hK => h.kept (fun k hk => hK.block k (h.blocks hk).2.1 (by rintro ⟨x, hx, e⟩; exact h.off (hA x hx) hk e))
  clear h
  go_enter Tryz.func39, Tryz.ntmps39
  go_wp2
  go_loopw [2] (fun k wr => ∃ (l r : List He), H = l ++ r ∧ k = .int .i64 l.length ∧ (∀ x ∈ l, HB n₀ wr x) ∧ (∀ x ∈ r, HA n₀ wr x) ∧ KStep (mineH H) w wr) (fun k _ => H.length - (intOf k).toNat)
  case atStart => exact ⟨[], H, rfl, rfl, by simp, hA, KStep.refl _ _⟩
  case round =>
    obtain ⟨l, r, hH, rfl, hl, hr, hK⟩ := hrel
    rename World => wo
    have h' := bkept hK
    have hc := h'.c2
    cases r with
    | nil =>
      have hH' : H = l := by simpa using hH
      have hq : ¬ ((l.length : Int) < (H.length : Int)) := by rw [hH']; omega
      have E1 : Hid _ := hH'
      clear hH hH' hp
      go_wp2
      go_end0
      exact ⟨rfl, h', by rw [E1.out]; exact hl, hK⟩
    | cons x r =>
      have hlH : l.length < H.length := by rw [hH]; simp
      obtain ⟨g, rfl⟩ := hp (by omega)
      have hxm : x ∈ H := by rw [hH]; simp
      obtain ⟨e0, e1, e2⟩ := h'.elem (j := l.length) (x := x) (by rw [hH]; simp)
      obtain ⟨b1, b2⟩ := h'.num x hxm
      obtain ⟨hx1, xs, hx2⟩ := hr x (by simp)
      obtain ⟨px, cx, hxl, _, _, _⟩ := row_formV hx2
      have HL : Hid _ := hxl
      have HL2 : Hid _ := hx1
      rw [hxl] at e0
      rw [hx1] at e1
      have HR : Hid (H = l ++ x :: r) := hH
      clear hH hxl hx1
      go_wp2
      obtain ⟨W0, hW0⟩ : ∃ W0, wo.alloc (.cells #[.slice px x.len cx, .slice none 0 0, .int .i64 x.n] 158) = W0 := ⟨_, rfl⟩
      have hBW : Below wo.heap.size wo W0 := hW0 ▸ (Below.refl _ _).alloc (Nat.le_refl _) _
      have hn0 : W0.heap[wo.heap.size]? = some (.cells #[.slice px x.len cx, .slice none 0 0, .int .i64 x.n] 158 (0, 0)) := hW0 ▸ heap_alloc_new wo _
      have hn1 : wo.heap.size < W0.heap.size := (Array.getElem?_eq_some_iff.1 hn0).1
      rw [hW0]
      have hrow0 : W0.ownsRow n₀ 76 2 (.slice px x.len cx) x.len xs := by have := row_kept hx2 (fun k hk => hBW.block k (hx2.lt k hk).2); rwa [HL.out] at this
      have hblt : ∀ k, Value.ownBlock (.slice px x.len cx) = some k → k < wo.heap.size := fun k hk => (hx2.lt k (by rw [HL.out]; exact hk)).2
      have HWr : Hid (KStep (mineH H) w wo) := hK
      have HBW : Hid (Below wo.heap.size wo W0) := hBW
      have Hl : Hid (∀ x ∈ l, HB n₀ wo x) := hl
      have Hr : Hid (∀ y ∈ x :: r, HA n₀ wo y) := hr
      clear hW0 hx2 e0 e1 e2 hBW hc hK hl hr h' hA bkept
      go_loopw [4] (fun k wr => ∃ (j : Nat) (ys : List Value), k = .int .i64 j ∧ j ≤ x.len ∧ wr.ownsRow n₀ 76 2 (.slice px x.len cx) x.len (mks x.n j ++ ys) ∧ KStep (fun k => Value.ownBlock (.slice px x.len cx) = some k) W0 wr) (fun k _ => x.len - (intOf k).toNat)
      case atStart => exact ⟨0, xs, rfl, by omega, hrow0, KStep.refl _ _⟩
      case round =>
        obtain ⟨j, ys, rfl, hj, hrow, hKi⟩ := hrel
        have hbi : wr.heap[wo.heap.size]? = some (.cells #[.slice px x.len cx, .slice none 0 0, .int .i64 x.n] 158 (0, 0)) := (hKi.block _ hn1 (fun e => by have := hblt _ e; omega)).trans hn0
        have d0 : wr.cell? ⟨wo.heap.size, 0, none⟩ = some (.slice px x.len cx) := by rw [cell_of_row wr _ 0 _ _ _ hbi]; rfl
        have d2 : wr.cell? ⟨wo.heap.size, 2, none⟩ = some (.int .i64 x.n) := by rw [cell_of_row wr _ 2 _ _ _ hbi]; rfl
        by_cases hjn : j < x.len
        · have hlen : ys.length = x.len * 2 - j * 2 := by have := hrow.1; rw [List.length_append, mks_len] at this; omega
          obtain ⟨y0, y1, ys', rfl⟩ : ∃ y0 y1 ys', ys = y0 :: y1 :: ys' := by
            match ys, hlen with
            | y0 :: y1 :: ys', _ => exact ⟨y0, y1, ys', rfl⟩
            | [], h => simp at h; omega
            | [_], h => simp at h; omega
          obtain ⟨pq, cq, hpq, _, _, hps⟩ := row_formV hrow
          obtain ⟨gx, hgx⟩ := hps (by omega)
          simp at hpq
          obtain ⟨rfl, rfl⟩ := hpq
          subst hgx
          have hgl : gx < wo.heap.size := hblt gx rfl
          have a1 := markVal_in x.n b1
          have hne : wo.heap.size ≠ gx := by omega
          have hml := mks_len x.n j
          have k0 : wr.cell? ⟨gx, j * 2, none⟩ = some y0 := by rw [hrow.cellAt _ (by omega), List.getElem?_append_right (by omega), hml]; simp
          have k1 : wr.cell? ⟨gx, j * 2 + 1, none⟩ = some y1 := by rw [hrow.cellAt _ (by omega), List.getElem?_append_right (by omega), hml]; simp
          obtain ⟨cur, hcur⟩ := row_obj hrow (k := gx) rfl
          have f0 : wr.frozen? ⟨gx, j * 2, none⟩ = false := frozen_of_row wr gx _ _ _ hcur
          have f1 : wr.frozen? ⟨gx, j * 2 + 1, none⟩ = false := frozen_of_row wr gx _ _ _ hcur
          have HRow : Hid (wr.ownsRow n₀ 76 2 (.slice (some ⟨gx, 0, none⟩) x.len cx) x.len (mks x.n j ++ y0 :: y1 :: ys')) := hrow
          clear hlen hrow hcur hbi
          have hjq : (j : Int) < (x.len : Int) := by omega
          have hgw : gx < wr.heap.size := World.block_lt_of_cell? wr _ k0
          have how : wo.heap.size < wr.heap.size := World.block_lt_of_cell? wr _ d0
          have F : ∀ W, Below wr.heap.size wr W → (W.cell? ⟨wo.heap.size, 0, none⟩ = some (.slice (some ⟨gx, 0, none⟩) x.len cx) ∧ W.cell? ⟨wo.heap.size, 2, none⟩ = some (.int .i64 x.n)) ∧ (W.cell? ⟨gx, j * 2, none⟩ = some y0 ∧ W.cell? ⟨gx, j * 2 + 1, none⟩ = some y1) ∧ (W.frozen? ⟨gx, j * 2, none⟩ = false ∧ W.frozen? ⟨gx, j * 2 + 1, none⟩ = false) := fun W hB =>
            ⟨⟨(hB.cell (p := ⟨wo.heap.size, 0, none⟩) how).trans d0, (hB.cell (p := ⟨wo.heap.size, 2, none⟩) how).trans d2⟩,
              ⟨(hB.cell (p := ⟨gx, j * 2, none⟩) hgw).trans k0, (hB.cell (p := ⟨gx, j * 2 + 1, none⟩) hgw).trans k1⟩,
              ⟨(World.frozen?_of_block (a := ⟨gx, j * 2, none⟩) (hB.block gx hgw)).trans f0, (World.frozen?_of_block (a := ⟨gx, j * 2 + 1, none⟩) (hB.block gx hgw)).trans f1⟩⟩
          go_wp2_with (first | fail)
          go_region_law (first
            | (go_simp; go_at_call 135; (with_reducible refine (a1 _).mono ?_); rintro e w5 ⟨rfl, hB5⟩; have hB6 : Below wr.heap.size wr w5 := (below_drewV (Below.refl wr.heap.size wr)).trans hB5; obtain ⟨⟨p0, p1⟩, ⟨q0, q1⟩, ⟨r0, r1⟩⟩ := F w5 hB6))
          all_goals
            go_wp2
            go_roundw
            case rel =>
              have hrow5 := row_belowV HRow.out hB6
              have hst := stored2 (x0 := .int .u8 0) (x1 := .int .i64 (mkI x.n)) (o := j * 2) hml.symm hrow5
              refine ⟨j + 1, ys', by simp, by omega, ?_, (hKi.trans ((KStep.of_below hB6).trans hst.2))⟩
              have e9 : mks x.n (j + 1) ++ ys' = mks x.n j ++ .int .u8 0 :: .int .i64 (mkI x.n) :: ys' := by simp [mks, mkc]
              rw [e9]
              exact hst.1
            case measure => simp [intOf]; omega
        · have hq : ¬ ((j : Int) < (x.len : Int)) := by omega
          clear hrow0
          go_wp2
          go_roundw
          case rel =>
            have e1 : (((l ++ [x]).length : Nat) : Int) = l.length + 1 := by simp
            have hj' : j = x.len := by omega
            have hys : ys = [] := by have := hrow.1; rw [List.length_append, mks_len] at this; exact List.length_eq_zero_iff.1 (by omega)
            subst hys
            subst hj'
            have hlw := HL.out
            have hKx : KStep (fun k => x.l.ownBlock = some k) wo wr := (KStep.of_below HBW.out).trans (by rw [hlw]; exact hKi)
            have hap := hP
            rw [HR.out] at hap
            obtain ⟨_, hap1, hap2⟩ := List.pairwise_append.1 hap
            refine ⟨l ++ [x], r, by have := HR.out; simpa using this, by rw [e1], ?_, ?_, ?_⟩
            · intro y hy
              rcases List.mem_append.1 hy with hy | hy
              · have hy' := Hl.out y hy
                refine hy'.kept (fun k hk => hKx.block k (hy'.ha.blocks hk).2.1 (fun e => ?_))
                exact hap2 y hy x (by simp) k hk (.inl e)
              · simp at hy; subst hy
                exact ⟨HL2.out, by rw [hlw]; simpa using hrow⟩
            · intro y hy
              have hy' := Hr.out y (by simp [hy])
              refine hy'.kept (fun k hk => hKx.block k (hy'.blocks hk).2.1 (fun e => ?_))
              exact (List.pairwise_cons.1 hap1).1 y hy k (.inl e) hk
            · exact HWr.out.trans (hKx.mono (fun k e => ⟨x, by rw [HR.out]; simp, .inl e⟩))
          case measure => simp [intOf]; omega

end Go.Proofs.YtampilfebmfhaaaGreatDoor
