/- The book puts more behind each list that it holds. -/
import Derived.Test.YtampilfebmfhaaaGreatDoorVkFill
import Derived.ArgAppend
import Derived.Deep.DeepAppendRoom
namespace Go.Proofs.YtampilfebmfhaaaGreatDoor
set_option linter.unusedVariables false
set_option linter.unusedSimpArgs false
open Go.RowKit


variable {n₀ bk : Nat} {vp : Value} {w : World} {H : List He}

/-- A list that was grown. -/
structure HC (n₀ : Nat) (w : World) (x : He) : Prop where
  row : w.ownsRow n₀ 76 2 x.long (x.len + 40) (mks x.n (x.len + 40))
  form : ∃ p c, x.l = .slice p x.len c ∧ (0 < x.len → ∃ g, p = some ⟨g, 0, none⟩)
  cells : ∀ g, x.l.ownBlock = some g → ∀ k, k < x.len * 2 → w.cell? ⟨g, k, none⟩ = (mks x.n x.len)[k]?
  blk : ∀ k, x.l.ownBlock = some k → n₀ ≤ k ∧ k < w.heap.size ∧ ∃ cur, w.heap[k]? = some (.cells cur 76 (0, 0))

theorem HC.blocks {x : He} (h : HC n₀ w x) {k : Nat} (hk : x.mine k) : n₀ ≤ k ∧ k < w.heap.size ∧ ∃ cur, w.heap[k]? = some (.cells cur 76 (0, 0)) := by
  rcases hk with e | e
  · exact h.blk k e
  · exact ⟨(h.row.lt k e).1, (h.row.lt k e).2, row_obj h.row e⟩

theorem HC.kept {x : He} (h : HC n₀ w x) {w' : World} (hk : ∀ k, x.mine k → w'.heap[k]? = w.heap[k]?) : HC n₀ w' x := by
  refine ⟨row_kept h.row (fun k e => hk k (.inr e)), h.form, fun g e k hl => (World.cell?_of_block (a := ⟨g, k, none⟩) (hk g (.inl e))).trans (h.cells g e k hl), fun k e => ?_⟩
  obtain ⟨h1, h2, cur, h3⟩ := h.blk k e
  have h4 := (hk k (.inl e)).trans h3
  exact ⟨h1, (Array.getElem?_eq_some_iff.1 h4).1, cur, h4⟩

/-- While a list grows: what was it stays; what it is grown to lies there or in a new block. -/
structure Grn (v : Value) (n : Nat) (m : Nat) (W0 wr : World) (long : Value) : Prop where
  step : KStep (fun k => v.ownBlock = some k) W0 wr
  where_ : long.ownBlock = v.ownBlock ∨ ∀ q, long.ownBlock = some q → W0.heap.size ≤ q
  cells : ∀ g, v.ownBlock = some g → g < W0.heap.size ∧ (∀ k, k < n * 2 → wr.cell? ⟨g, k, none⟩ = (mks m n)[k]?) ∧ ∃ cur, wr.heap[g]? = some (.cells cur 76 (0, 0))

theorem addr_add (g k : Nat) : (⟨g, 0, none⟩ : Addr).add k = ⟨g, k, none⟩ := by cases k <;> simp [Addr.add]

theorem mks_some {m n k : Nat} (h : k < n * 2) : ∃ u, (mks m n)[k]? = some u := ⟨(mks m n)[k]'(by rw [mks_len]; exact h), List.getElem?_eq_getElem _⟩

theorem mks_less {m n k : Nat} (h : k < n * 2) : ∀ d, (mks m (n + d))[k]? = (mks m n)[k]? := by
  intro d
  induction d with
  | zero => rfl
  | succ d ih =>
    have hl := mks_len m (n + d)
    rw [← Nat.add_assoc]
    simp only [mks]
    rw [List.getElem?_append_left (by omega)]
    exact ih

theorem mks_less' {m n N k : Nat} (h : k < n * 2) (hN : n ≤ N) : (mks m N)[k]? = (mks m n)[k]? := by
  have := mks_less (m := m) h (N - n)
  rwa [show n + (N - n) = N by omega] at this

theorem mrow_cell {g n N m k : Nat} {base : Nat} {v : Value} (h : w.ownsRow base 76 2 v N (mks m N)) (e : v.ownBlock = some g) (hk : k < n * 2) (hN : n ≤ N) : w.cell? ⟨g, k, none⟩ = (mks m n)[k]? := by
  rw [← mks_less' hk hN]
  obtain ⟨u, hu⟩ := mks_some (m := m) (n := N) (k := k) (by omega)
  have := h.cells e k u hu
  rw [addr_add] at this
  rw [this, hu]

theorem Grn.first {v : Value} {n : Nat} {m : Nat} {W0 : World} (h : W0.ownsRow n₀ 76 2 v n (mks m n)) : Grn v n m W0 W0 v := by
  refine ⟨KStep.refl _ _, .inl rfl, fun g e => ⟨(h.lt g e).2, fun k hk => ?_, row_obj h e⟩⟩
  exact mrow_cell h e hk (Nat.le_refl _)

theorem Grn.below {v : Value} {n : Nat} {m : Nat} {W0 wr w5 : World} {long : Value} (h : Grn v n m W0 wr long) (hB : Below wr.heap.size wr w5) : Grn v n m W0 w5 long := by
  have hsz := h.step.size
  refine ⟨h.step.trans (KStep.of_below hB), h.where_, fun g e => ?_⟩
  obtain ⟨q1, q2, q3⟩ := h.cells g e
  have hb := hB.block g (by omega)
  exact ⟨q1, fun k hk => (World.cell?_of_block (a := ⟨g, k, none⟩) hb).trans (q2 k hk), by rw [hb]; exact q3⟩

theorem Grn.spare {p : Option Addr} {n c gl N cl : Nat} {m : Nat} {W0 wr w4 : World} {o : Obj} (h : Grn (.slice p n c) n m W0 wr (.slice (some ⟨gl, 0, none⟩) N cl)) (hown : w4.ownsRow n₀ 76 2 (.slice (some ⟨gl, 0, none⟩) (N + 1) cl) (N + 1) (mks m (N + 1))) (hN : n ≤ N) (hg : (wr.alloc o).grownBy w4 (some gl)) :
    Grn (.slice p n c) n m W0 w4 (.slice (some ⟨gl, 0, none⟩) (N + 1) cl) := by
  have hsz := h.step.size
  have hsp : ∀ k, some gl = some k → Value.ownBlock (.slice p n c) = some k ∨ W0.heap.size ≤ k := by
    intro k e
    rcases h.where_ with e2 | e2
    · left; rw [← e2]; exact e
    · right; exact e2 k e
  refine ⟨h.step.trans' (T := fun k => some gl = some k) ((KStep.of_below ((Below.refl _ _).alloc (Nat.le_refl _) _)).trans (KStep.of_grown hg (fun k e => e))) hsp, ?_, ?_⟩
  · rcases h.where_ with e | e
    · exact .inl e
    · exact .inr e
  · intro q e
    obtain ⟨q1, q2, q3⟩ := h.cells q e
    by_cases hq : q = gl
    · subst hq
      refine ⟨q1, fun k hk => ?_, row_obj hown rfl⟩
      exact mrow_cell hown rfl hk (by omega)
    · have hb : w4.heap[q]? = wr.heap[q]? := (hg.block q (by simp; omega) (by simpa using hq)).trans (Below.heap_alloc _ _ q (by omega))
      exact ⟨q1, fun k hk => (World.cell?_of_block (a := ⟨q, k, none⟩) hb).trans (q2 k hk), by rw [hb]; exact q3⟩

theorem Grn.grow {v long v4 : Value} {n N : Nat} {m : Nat} {W0 wr w4 : World} {o : Obj} (h : Grn v n m W0 wr long) (hown : w4.ownsRow (wr.alloc o).heap.size 76 2 v4 N (mks m N)) (hg : (wr.alloc o).grownBy w4 none) :
    Grn v n m W0 w4 v4 := by
  have hsz := h.step.size
  refine ⟨(h.step.alloc o).trans (KStep.of_grown hg (fun k e => by simp at e)), .inr ?_, ?_⟩
  · intro q e
    have := (hown.lt q e).1
    simp at this; omega
  · intro q e
    obtain ⟨q1, q2, q3⟩ := h.cells q e
    have hb : w4.heap[q]? = wr.heap[q]? := (hg.block q (by simp; omega) (by simp)).trans (Below.heap_alloc _ _ q (by omega))
    exact ⟨q1, fun k hk => (World.cell?_of_block (a := ⟨q, k, none⟩) hb).trans (q2 k hk), by rw [hb]; exact q3⟩

theorem hcells_set (l r : List He) (x : He) (long : Value) : (hcells (l ++ x :: r)).set (l.length * 3 + 1) long = hcells (l ++ { x with long := long } :: r) := by
  rw [hcells_append, hcells_append, List.set_append_right _ _ (by rw [hcells_len]; omega), hcells_len, show l.length * 3 + 1 - l.length * 3 = 1 by omega]
  simp [hcells]

section
variable {W0 wo wr : World} {g N c : Nat} {l r : List He} {x : He} {v long : Value}

/-- The book where the first list has grown. -/
theorem grown_book (Hb : IsBk n₀ bk (.slice (some ⟨g, 0, none⟩) N c) wo (l ++ x :: r)) (hx : HB n₀ wo x) (HBW : Below wo.heap.size wo W0) (HL : x.l = v) (HG : Grn v x.len x.n W0 wr long) : IsBk n₀ bk (.slice (some ⟨g, 0, none⟩) N c) wr (l ++ x :: r) ∧ KStep (fun k => x.l.ownBlock = some k) wo wr := by
  have kx : KStep (fun k => x.l.ownBlock = some k) wo wr := (KStep.of_below HBW).trans (by rw [HL]; exact HG.step)
  exact ⟨Hb.kept (fun k hk => kx.block k (Hb.blocks hk).2.1 (fun e => Hb.off hx.ha hk (.inl e))), kx⟩

theorem book_cell (h : IsBk n₀ bk (.slice (some ⟨g, 0, none⟩) N c) wr (l ++ x :: r)) : wr.frozen? ⟨g, l.length * 3 + 1, none⟩ = false ∧ wr.cell? ⟨g, l.length * 3 + 1, none⟩ = some x.long := by
  have hN : N = (l ++ x :: r).length := by
    obtain ⟨p', c', e, _⟩ := row_formV h.row
    simp at e; simp; omega
  subst hN
  obtain ⟨cur, hc⟩ := row_obj h.row (k := g) rfl
  exact ⟨frozen_of_row wr g _ _ _ hc, (h.elem (j := l.length) (x := x) (by simp)).2.1⟩

theorem grown_round (Hb : IsBk n₀ bk (.slice (some ⟨g, 0, none⟩) N c) wo (l ++ x :: r)) (Hl : ∀ x ∈ l, HC n₀ wo x) (Hr : ∀ y ∈ x :: r, HB n₀ wo y) (hap : Apt (l ++ x :: r))
    (HK : KStep (fun k => mineH H k ∨ Value.ownBlock (.slice (some ⟨g, 0, none⟩) N c) = some k) w wo) (Hm : ∀ k, mineH (l ++ x :: r) k → mineH H k ∨ w.heap.size ≤ k)
    (HBW : Below wo.heap.size wo W0) (HL : x.l = v) (HG : Grn v x.len x.n W0 wr long) (HRow : wr.ownsRow n₀ 76 2 long (x.len + 40) (mks x.n (x.len + 40))) :
    IsBk n₀ bk (.slice (some ⟨g, 0, none⟩) N c) (wr.setCell ⟨g, l.length * 3 + 1, none⟩ long) (l ++ { x with long := long } :: r) ∧
    (∀ y ∈ l ++ [{ x with long := long }], HC n₀ (wr.setCell ⟨g, l.length * 3 + 1, none⟩ long) y) ∧ (∀ y ∈ r, HB n₀ (wr.setCell ⟨g, l.length * 3 + 1, none⟩ long) y) ∧
    Apt (l ++ { x with long := long } :: r) ∧ KStep (fun k => mineH H k ∨ Value.ownBlock (.slice (some ⟨g, 0, none⟩) N c) = some k) w (wr.setCell ⟨g, l.length * 3 + 1, none⟩ long) ∧
    (∀ k, mineH (l ++ { x with long := long } :: r) k → mineH H k ∨ w.heap.size ≤ k) := by
  have hx := Hr x (by simp)
  obtain ⟨HbW, kx⟩ := grown_book Hb hx HBW HL HG
  have hso : ∀ q, q ≠ g → (wr.setCell ⟨g, l.length * 3 + 1, none⟩ long).heap[q]? = wr.heap[q]? := fun q hq => heap_setCell_other wr ⟨g, l.length * 3 + 1, none⟩ q long hq
  obtain ⟨cg, hcg⟩ := row_obj Hb.row (k := g) rfl
  obtain ⟨cgw, hcgw⟩ := row_obj HbW.row (k := g) rfl
  obtain ⟨hl1, hap1, hlx⟩ := List.pairwise_append.1 hap
  obtain ⟨hxr, hr1⟩ := List.pairwise_cons.1 hap1
  have hsz0 := HBW.size
  have hsz1 := kx.size
  have hszw := HK.size
  have keepY : ∀ k, k < wo.heap.size → (∃ cur, wo.heap[k]? = some (.cells cur 76 (0, 0))) → x.l.ownBlock ≠ some k → (wr.setCell ⟨g, l.length * 3 + 1, none⟩ long).heap[k]? = wo.heap[k]? := by
    rintro k hk ⟨cur, hcur⟩ hne
    refine (hso k ?_).trans (kx.block k hk hne)
    rintro rfl; rw [hcg] at hcur; simp at hcur
  have hmx : ∀ k, He.mine { x with long := long } k → x.mine k ∨ wo.heap.size ≤ k := by
    rintro k (e | e)
    · exact .inl (.inl e)
    · rcases HG.where_ with e2 | e2
      · left; left; rw [HL, ← e2]; exact e
      · right; have := e2 k e; omega
  have hlk : ∀ y ∈ l, ∀ k, y.mine k → k < wo.heap.size := fun y hy k hk => ((Hl y hy).blocks hk).2.1
  have hrk : ∀ y ∈ r, ∀ k, y.mine k → k < wo.heap.size := fun y hy k hk => ((Hr y (by simp [hy])).ha.blocks hk).2.1
  have hN : (l ++ x :: r).length = N := by
    obtain ⟨p', c', e, _⟩ := row_formV HbW.row
    simp at e; simp; omega
  have hN' : (l ++ { x with long := long } :: r).length = N := by rw [← hN]; simp
  have hrow := HbW.row
  rw [hN] at hrow
  have hst := hrow.stored (l.length * 3 + 1) long
  rw [hcells_set] at hst
  refine ⟨⟨HbW.base, ?_, ?_, ?_, ?_⟩, ?_, ?_, ?_, ?_, ?_⟩
  · have : bk ≠ g := fun e => HbW.nvp (by rw [e]; rfl)
    have h2 := (hso bk this).trans HbW.blk
    simpa using h2
  · rw [hN']; exact hst.1
  · have := HbW.le; simpa using this
  · intro y hy
    rcases List.mem_append.1 hy with hy | hy
    · exact HbW.num y (by simp [hy])
    · rcases List.mem_cons.1 hy with rfl | hy
      · exact HbW.num x (by simp)
      · exact HbW.num y (by simp [hy])
  · intro y hy
    rcases List.mem_append.1 hy with hy | hy
    · refine (Hl y hy).kept (fun k hk => keepY k (hlk y hy k hk) ((Hl y hy).blocks hk).2.2 (fun e => hlx y hy x (by simp) k hk (.inl e)))
    · simp at hy; subst hy
      refine ⟨?_, ?_, ?_, ?_⟩
      · refine row_kept HRow (fun k hk => hso k ?_)
        rintro rfl
        obtain ⟨cur, hcur⟩ := row_obj HRow hk
        rw [hcgw] at hcur; simp at hcur
      · rcases hx.2.2 with ⟨e, e2⟩ | ⟨g', c', _, e, _⟩
        · exact ⟨none, 0, by rw [e, e2], fun h => by dsimp only at h; omega⟩
        · exact ⟨_, _, e, fun _ => ⟨g', rfl⟩⟩
      · intro q e k hk
        obtain ⟨_, q2, cur, q3⟩ := HG.cells q (by rw [← HL]; exact e)
        refine (World.cell?_of_block (a := ⟨q, k, none⟩) (hso q ?_)).trans (q2 k hk)
        rintro rfl; rw [hcgw] at q3; simp at q3
      · intro k e
        obtain ⟨_, _, cur, q3⟩ := HG.cells k (by rw [← HL]; exact e)
        have hkg : k ≠ g := by rintro rfl; rw [hcgw] at q3; simp at q3
        have h4 := (hso k hkg).trans q3
        exact ⟨(hx.2.lt k e).1, (Array.getElem?_eq_some_iff.1 h4).1, cur, h4⟩
  · intro y hy
    have hy' := Hr y (by simp [hy])
    exact hy'.kept (fun k hk => keepY k (hrk y hy k hk) (hy'.ha.blocks hk).2.2.2 (fun e => hxr y hy k (.inl e) hk))
  · refine List.pairwise_append.2 ⟨hl1, List.pairwise_cons.2 ⟨?_, hr1⟩, ?_⟩
    · intro y hy k hk hk2
      rcases hmx k hk with e | e
      · exact hxr y hy k e hk2
      · have := hrk y hy k hk2; omega
    · intro y hy z hz k hk hk2
      rcases List.mem_cons.1 hz with rfl | hz
      · rcases hmx k hk2 with e | e
        · exact hlx y hy x (by simp) k hk e
        · have := hlk y hy k hk; omega
      · exact hlx y hy z (by simp [hz]) k hk hk2
  · refine (HK.trans' kx (fun k e => ?_)).trans (KStep.of_grown hst.2 (fun k e => by right; exact e))
    rcases Hm k ⟨x, by simp, .inl e⟩ with h | h
    · exact .inl (.inl h)
    · exact .inr h
  · rintro k ⟨y, hy, hk⟩
    rcases List.mem_append.1 hy with hy | hy
    · exact Hm k ⟨y, by simp [hy], hk⟩
    · rcases List.mem_cons.1 hy with rfl | hy
      · rcases hmx k hk with e | e
        · exact Hm k ⟨x, by simp, e⟩
        · right; omega
      · exact Hm k ⟨y, by simp [hy], hk⟩
end

set_option maxRecDepth 20000 in
set_option maxHeartbeats 1000000 in
theorem grow_val (h : IsBk n₀ bk vp w H) (hA : ∀ x ∈ H, HB n₀ w x) (hP : Apt H) : Calls Tryz.prog 59 #[.pointer (some ⟨bk, 0, none⟩)] w fun e w' => e = .returned (.tuple #[]) ∧
    ∃ H', IsBk n₀ bk vp w' H' ∧ (∀ x ∈ H', HC n₀ w' x) ∧ KStep (fun k => mineH H k ∨ vp.ownBlock = some k) w w' := by
  obtain ⟨N, hN⟩ : ∃ N, H.length = N := ⟨_, rfl⟩
  have hle := h.le
  obtain ⟨p, c, hvp, _, _, hp⟩ := row_formV h.row
  rw [hN] at hvp hp hle
  subst hvp
  have HH : Hid (IsBk n₀ bk (.slice p N c) w H ∧ H.length = N) := ⟨h, hN⟩
  clear h hN
  go_enter Tryz.func59, Tryz.ntmps59
  go_wp2
  go_loopw [2] (fun k wr => ∃ (l r : List He), k = .int .i64 l.length ∧ l.length + r.length = N ∧ IsBk n₀ bk (.slice p N c) wr (l ++ r) ∧ (∀ x ∈ l, HC n₀ wr x) ∧ (∀ x ∈ r, HB n₀ wr x) ∧ Apt (l ++ r) ∧ KStep (fun k => mineH H k ∨ Value.ownBlock (.slice p N c) = some k) w wr ∧ (∀ k, mineH (l ++ r) k → mineH H k ∨ w.heap.size ≤ k)) (fun k _ => N - (intOf k).toNat)
  case atStart => exact ⟨[], H, rfl, by simpa using HH.out.2, HH.out.1, by simp, hA, hP, KStep.refl _ _, fun k h => .inl h⟩
  case round =>
    obtain ⟨l, r, rfl, hlr, h', hl, hr, hap, hK, hm⟩ := hrel
    rename World => wo
    have hc := h'.c2
    cases r with
    | nil =>
      have hq : ¬ ((l.length : Int) < (N : Int)) := by simp at hlr; omega
      have E1 : Hid _ := hlr
      clear hlr hp
      go_wp2
      go_end0
      exact ⟨rfl, l, by simpa using h', hl, hK⟩
    | cons x r =>
      have hlH : l.length < N := by simp at hlr; omega
      obtain ⟨g, rfl⟩ := hp (by omega)
      have hlen : (l ++ x :: r).length = N := by simpa using hlr
      have h2 := h'
      rw [← hlen] at h2
      obtain ⟨e0, e1, e2⟩ := h2.elem (j := l.length) (x := x) (by simp)
      obtain ⟨b1, b2⟩ := h'.num x (by simp)
      obtain ⟨hx1, hx2⟩ := hr x (by simp)
      obtain ⟨px, cx, hxl, hxc, _, _⟩ := row_formV hx2
      have HL : Hid (x.l = .slice px x.len cx) := hxl
      have HL2 : Hid (x.long = .slice none 0 0) := hx1
      rw [hxl] at e0
      rw [hx1] at e1
      have HLR : Hid (l.length + (x :: r).length = N) := hlr
      clear hlr hxl hx1 hlen h2
      go_wp2
      obtain ⟨W0, hW0⟩ : ∃ W0, wo.alloc (.cells #[.slice px x.len cx, .slice none 0 0, .int .i64 x.n] 158) = W0 := ⟨_, rfl⟩
      have hBW : Below wo.heap.size wo W0 := hW0 ▸ (Below.refl _ _).alloc (Nat.le_refl _) _
      have hn0 : W0.heap[wo.heap.size]? = some (.cells #[.slice px x.len cx, .slice none 0 0, .int .i64 x.n] 158 (0, 0)) := hW0 ▸ heap_alloc_new wo _
      have hn1 : wo.heap.size < W0.heap.size := (Array.getElem?_eq_some_iff.1 hn0).1
      rw [hW0]
      have hrow0 : W0.ownsRow n₀ 76 2 (.slice px x.len cx) x.len (mks x.n x.len) := by have := row_kept hx2 (fun k hk => hBW.block k (hx2.lt k hk).2); rwa [HL.out] at this
      have hblt : ∀ k, Value.ownBlock (.slice px x.len cx) = some k → k < wo.heap.size := fun k hk => (hx2.lt k (by rw [HL.out]; exact hk)).2
      have hbs : n₀ ≤ W0.heap.size := Nat.le_trans h'.base (Nat.le_of_lt (Nat.lt_trans h'.lt hn1))
      have HK : Hid (KStep (fun k => mineH H k ∨ Value.ownBlock (.slice (some ⟨g, 0, none⟩) N c) = some k) w wo) := hK
      have HBW : Hid (Below wo.heap.size wo W0) := hBW
      have Hl : Hid (∀ x ∈ l, HC n₀ wo x) := hl
      have Hr : Hid (∀ y ∈ x :: r, HB n₀ wo y) := hr
      have Hb : Hid (IsBk n₀ bk (.slice (some ⟨g, 0, none⟩) N c) wo (l ++ x :: r)) := h'
      have Hm : Hid (∀ k, mineH (l ++ x :: r) k → mineH H k ∨ w.heap.size ≤ k) := hm
      obtain ⟨i0, hi, hz0, hz1, hz2⟩ := infoV_parts infoV2
      clear hW0 hx2 e0 e1 e2 hBW hc hK hl hr h' hA hm
      go_loopw [4, 5] (fun long k wr => ∃ (j : Nat), k = .int .i64 j ∧ j ≤ 40 ∧ wr.ownsRow n₀ 76 2 long (x.len + j) (mks x.n (x.len + j)) ∧ Grn (.slice px x.len cx) x.len x.n W0 wr long) (fun _ k _ => 40 - (intOf k).toNat)
      case atStart => exact ⟨0, rfl, by omega, hrow0, Grn.first hrow0⟩
      case round =>
        obtain ⟨j, rfl, hj, hrow, hG⟩ := hrel
        obtain ⟨pl, cl, rfl, hcl, hcm, _⟩ := row_formV hrow
        have hKi := hG.step
        have hbi : wr.heap[wo.heap.size]? = some (.cells #[.slice px x.len cx, .slice none 0 0, .int .i64 x.n] 158 (0, 0)) := (hKi.block _ hn1 (fun e => by have := hblt _ e; omega)).trans hn0
        have d2 : wr.cell? ⟨wo.heap.size, 2, none⟩ = some (.int .i64 x.n) := by rw [cell_of_row wr _ 2 _ _ _ hbi]; rfl
        have hsz := hKi.size
        by_cases hjn : j < 40
        · have a1 := markVal_in x.n b1
          have hmk1 : ∀ u ∈ mkc x.n, u.oneCell' = true := by simp [mkc, Value.oneCell']
          have HG : Hid (Grn (.slice px x.len cx) x.len x.n W0 wr (.slice pl (x.len + j) cl)) := hG
          have HRow : Hid (wr.ownsRow n₀ 76 2 (.slice pl (x.len + j) cl) (x.len + j) (mks x.n (x.len + j))) := hrow
          by_cases hroom : x.len + j + 1 ≤ cl
          · obtain ⟨gl, rfl⟩ : ∃ gl, pl = some ⟨gl, 0, none⟩ := by
              rcases hrow.2 with ⟨e, _⟩ | ⟨g', _, _, e, _⟩
              · simp at e; omega
              · simp at e; exact ⟨g', e.1⟩
            clear hG hrow hbi hKi
            go_wp2_with (first
              | (go_at_call 135; (with_reducible refine (a1 _).mono ?_); rintro e w5 ⟨rfl, hB5⟩; have HRow5 := row_belowV HRow.out hB5; have HG5 := HG.out.below hB5; have hsz5 := hB5.size)
              | (at_builtin; refine wpList_append_own_spare _ rfl (.tmp 28) (.tmp 32) 23 rfl n₀ 76 i0 2 Tryz.underlying23 hi hz1 gl (x.len + j) cl (mks x.n (x.len + j)) rfl (HRow5.alloc _) ⟨w5.heap.size, 0, none⟩ 1 1 (mkc x.n) rfl rfl (World.news_of_block (cs := #[.int .u8 0, .int .i64 (mkI x.n)]) (t := 76) (fr := (0, 0)) (heap_alloc_new w5 _)) hmk1 hroom ?_; intro w4 hown4 hgrow4))
            go_roundw
            case rel => 
              exact ⟨j + 1, by simp, by omega, hown4, HG5.spare hown4 (by omega) hgrow4⟩
            case measure => simp [intOf]; omega
          · clear hG hrow hbi hKi
            have hnone : pl = none → x.len + j = 0 ∧ cl = 0 := by
              intro e
              rcases HRow.out.2 with ⟨e2, _⟩ | ⟨g', _, _, e2, _⟩
              · simp at e2; omega
              · rw [e] at e2; simp at e2
            have holds : ∀ (W : World), W.ownsRow n₀ 76 2 (.slice pl (x.len + j) cl) (x.len + j) (mks x.n (x.len + j)) → ∀ b, pl = some b → ∀ q u, (mks x.n (x.len + j))[q]? = some u → W.cell? (b.add q) = some u := by
              intro W hW b hb q u hq
              rcases hW.2 with ⟨e2, _⟩ | ⟨g', c', cur, e2, _⟩
              · rw [hb] at e2; simp at e2
              · rw [hb] at e2; simp at e2
                have := hW.cells (g := g') (by rw [hb, e2.1]; rfl) q u hq
                rw [e2.1]; exact this
            go_wp2_with (first
              | (go_at_call 135; (with_reducible refine (a1 _).mono ?_); rintro e w5 ⟨rfl, hB5⟩; have HRow5 := row_belowV HRow.out hB5; have HG5 := HG.out.below hB5; have hsz5 := hB5.size)
              | (at_builtin; refine wpList_append_grows _ rfl (.tmp 28) (.tmp 32) 23 rfl 76 i0 (.agg #[.int .u8 0, .int .i64 0]) 2 16 Tryz.underlying23 hi hz0 hz1 hz2 rfl (by decide) pl (x.len + j) cl (mks x.n (x.len + j)) rfl hnone (mks_len _ _) (holds _ (HRow5.alloc _)) ⟨w5.heap.size, 0, none⟩ 1 1 (mkc x.n) rfl rfl (World.news_of_block (cs := #[.int .u8 0, .int .i64 (mkI x.n)]) (t := 76) (fr := (0, 0)) (heap_alloc_new w5 _)) hmk1 (by omega) (by unfold maxLen; omega) (by omega) ?_; intro v4 w4 hown4 hgrow4))
            go_roundw
            case rel => 
              exact ⟨j + 1, by simp, by omega, row_mono2 hown4 (by simp; omega), HG5.grow hown4 hgrow4⟩
            case measure => simp [intOf]; omega
        · have hq : ¬ ((j : Int) < 40) := by omega
          obtain rfl : j = 40 := by omega
          have HG : Hid (Grn (.slice px x.len cx) x.len x.n W0 wr (.slice pl (x.len + 40) cl)) := hG
          have HRow : Hid (wr.ownsRow n₀ 76 2 (.slice pl (x.len + 40) cl) (x.len + 40) (mks x.n (x.len + 40))) := hrow
          obtain ⟨HbW, _⟩ := grown_book Hb.out (Hr.out x (by simp)) HBW.out HL.out HG.out
          have c2 := HbW.c2
          obtain ⟨hf, hcc⟩ := book_cell HbW
          rw [HL2.out] at hcc
          clear hrow hrow0 hG hbi hKi HbW
          go_wp2
          go_roundw
          case rel =>
            obtain ⟨q1, q2, q3, q4, q5, q6⟩ := grown_round Hb.out Hl.out Hr.out hap HK.out Hm.out HBW.out HL.out HG.out HRow.out
            have e1 : (((l ++ [{ x with long := Value.slice pl (x.len + 40) cl }]).length : Nat) : Int) = l.length + 1 := by simp
            have e2 : l ++ { x with long := Value.slice pl (x.len + 40) cl } :: r = (l ++ [{ x with long := Value.slice pl (x.len + 40) cl }]) ++ r := by simp
            rw [e2] at q1 q4 q6
            exact ⟨_, r, by rw [e1], by have := HLR.out; simp at this ⊢; omega, q1, q2, q3, q4, q5, q6⟩
          case measure => simp [intOf]; omega

end Go.Proofs.YtampilfebmfhaaaGreatDoor
