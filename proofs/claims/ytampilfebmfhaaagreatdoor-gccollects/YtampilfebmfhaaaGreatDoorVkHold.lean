/- The book of lists that were answered: what it holds; a list more. -/
import Derived.Test.YtampilfebmfhaaaGreatDoorStay
import Derived.Test.YtampilfebmfhaaaGreatDoorRefMove
import Derived.Test.YtampilfebmfhaaaGreatDoorGcLeads
import Derived.Maps.AppendAt
import Derived.Deep.RegionHeld3
import Derived.Deep.AppendLies
import Derived.Deep.RegionLaw
import Derived.Deep.DrawnRows
namespace Go.Proofs.YtampilfebmfhaaaGreatDoor
open Go.RowKit

attribute [local go_sem ↓] Go.wp_at_zero Go.wp_at_succ

theorem infoV_parts {P : Program} {t : TypeId} {z : Value} {s b : Nat} (h : (P.info? t).map (fun i => (i.zero, i.size, i.bytes)) = some (some z, s, b)) : ∃ i, P.info? t = some i ∧ i.zero = some z ∧ i.size = s ∧ i.bytes = b := by
  cases hq : P.info? t with
  | none => simp [hq] at h
  | some i => simp [hq] at h; exact ⟨i, rfl, h⟩

theorem infoV2 : (Tryz.prog.info? 76).map (fun i => (i.zero, i.size, i.bytes)) = some (some (.agg #[.int .u8 0, .int .i64 0]), 2, 16) := by kernel_rfl

theorem row_formV {w : World} {base e s n : Nat} {v : Value} {xs : List Value} (h : w.ownsRow base e s v n xs) : ∃ p c, v = .slice p n c ∧ n ≤ c ∧ c ≤ maxLen ∧ (0 < n → ∃ g, p = some ⟨g, 0, none⟩) := by
  rcases h.2 with ⟨h1, h0⟩ | ⟨g, cap, cur, h1, _, _, h2, h3, _⟩
  · exact ⟨none, 0, by rw [h1, h0], by omega, by unfold maxLen; omega, by omega⟩
  · exact ⟨_, _, h1, h2, h3, fun _ => ⟨g, rfl⟩⟩

theorem row_belowV {w : World} {base e s n : Nat} {v : Value} {xs : List Value} (h : w.ownsRow base e s v n xs) {w' : World} (hB : Below w.heap.size w w') : w'.ownsRow base e s v n xs := row_kept h (fun k e => hB.block k (h.lt k e).2)

theorem below_drewV {n : Nat} {w w1 : World} (h : Below n w w1) : Below n w w1.drew := ⟨h.os, h.tape, h.output, h.size, h.block⟩

theorem cell_row2V {W : World} {g : Nat} {a b : Value} {t : TypeId} (h : W.heap[g]? = some (.cells #[a, b] t (0, 0))) :
    (W.cell? ⟨g, 0, none⟩ = some a ∧ W.cell? ⟨g, 1, none⟩ = some b) ∧ W.frozen? ⟨g, 0, none⟩ = false ∧ W.frozen? ⟨g, 1, none⟩ = false :=
  ⟨⟨by rw [cell_of_row W g 0 _ _ _ h]; rfl, by rw [cell_of_row W g 1 _ _ _ h]; rfl⟩, frozen_of_row W g _ _ _ h, frozen_of_row W g _ _ _ h⟩

theorem set2_rowW {W : World} {g : Nat} {a b x y : Value} {t : TypeId} (h : W.heap[g]? = some (.cells #[a, b] t (0, 0))) : ((W.setCell ⟨g, 0, none⟩ x).setCell ⟨g, 1, none⟩ y).heap[g]? = some (.cells #[x, y] t (0, 0)) := by
  have h1 := heap_setCell_same W g 0 _ t x h
  have h2 := heap_setCell_same _ g 1 _ t y h1
  simpa using h2

theorem below_set2V {n : Nat} {w W : World} (h : Below n w W) {g : Nat} (hg : n ≤ g) (x y : Value) : Below n w ((W.setCell ⟨g, 0, none⟩ x).setCell ⟨g, 1, none⟩ y) := (h.setCell hg _).setCell hg _

/-- A list that is held: the list, the one that it is grown to, its number, its length. -/
structure He where
  l : Value
  long : Value
  n : Nat
  len : Nat

def hcells : List He → List Value
  | [] => []
  | x :: r => x.l :: x.long :: .int .i64 x.n :: hcells r

theorem hcells_len : ∀ (H : List He), (hcells H).length = H.length * 3
  | [] => rfl
  | x :: r => by simp [hcells, hcells_len r]; omega

theorem hcells_append : ∀ (H S : List He), hcells (H ++ S) = hcells H ++ hcells S
  | [], _ => rfl
  | x :: r, S => by simp [hcells, hcells_append r S]

theorem hcells_get : ∀ (H : List He) (j : Nat) (x : He), H[j]? = some x → (hcells H)[j * 3]? = some x.l ∧ (hcells H)[j * 3 + 1]? = some x.long ∧ (hcells H)[j * 3 + 2]? = some (.int .i64 x.n)
  | [], j, x, h => by simp at h
  | y :: r, 0, x, h => by simp at h; subst h; simp [hcells]
  | y :: r, j + 1, x, h => by
    have := hcells_get r j x (by simpa using h)
    rw [show (j + 1) * 3 = j * 3 + 3 by omega]
    simpa [hcells] using this

/-- The blocks of a list that is held. -/
def He.mine (x : He) (k : Nat) : Prop := x.l.ownBlock = some k ∨ x.long.ownBlock = some k

def bookObj (n : Nat) (vp : Value) : Obj := .cells #[.int .i64 n, .slice none 0 0, .slice none 0 0, .slice none 0 0, vp, .slice none 0 0, .slice none 0 0, .slice none 0 0, .slice none 0 0, .slice none 0 0, .slice none 0 0, .slice none 0 0, .slice none 0 0, .slice none 0 0, .slice none 0 0, .slice none 0 0, .slice none 0 0, .slice none 0 0, .slice none 0 0, .slice none 0 0, .slice none 0 0] 58 (0, 0)

/-- The book at block bk. -/
structure IsBk (n₀ bk : Nat) (vp : Value) (w : World) (H : List He) : Prop where
  base : n₀ ≤ bk
  blk : w.heap[bk]? = some (bookObj H.length vp)
  row : w.ownsRow n₀ 158 3 vp H.length (hcells H)
  le : H.length ≤ 9
  num : ∀ x ∈ H, x.n ≤ 9 ∧ x.len ≤ 1048576

/-- What a call leaves of all blocks but those of S. -/
structure KStep (S : Nat → Prop) (w w' : World) : Prop where
  os : w'.os = w.os
  tape : w'.tape = w.tape
  output : w'.output = w.output
  size : w.heap.size ≤ w'.heap.size
  block : ∀ k, k < w.heap.size → ¬ S k → w'.heap[k]? = w.heap[k]?

theorem KStep.trans {S : Nat → Prop} {a b c : World} (h : KStep S a b) (g : KStep S b c) : KStep S a c :=
  ⟨g.os.trans h.os, g.tape.trans h.tape, g.output.trans h.output, Nat.le_trans h.size g.size, fun k hk hs => (g.block k (Nat.lt_of_lt_of_le hk h.size) hs).trans (h.block k hk hs)⟩

/-- The second step may turn what the first one made. -/
theorem KStep.trans' {S T : Nat → Prop} {a b c : World} (h : KStep S a b) (g : KStep T b c) (hT : ∀ k, T k → S k ∨ a.heap.size ≤ k) : KStep S a c :=
  ⟨g.os.trans h.os, g.tape.trans h.tape, g.output.trans h.output, Nat.le_trans h.size g.size, fun k hk hs => (g.block k (Nat.lt_of_lt_of_le hk h.size) (fun ht => by rcases hT k ht with e | e; exact hs e; omega)).trans (h.block k hk hs)⟩

theorem KStep.mono {S T : Nat → Prop} {a b : World} (h : KStep S a b) (hS : ∀ k, S k → T k) : KStep T a b := ⟨h.os, h.tape, h.output, h.size, fun k hk hs => h.block k hk (fun e => hs (hS k e))⟩

theorem KStep.of_below {S : Nat → Prop} {a b : World} (h : Below a.heap.size a b) : KStep S a b := ⟨h.os, h.tape, h.output, h.size, fun k hk _ => h.block k hk⟩

theorem KStep.of_grown {S : Nat → Prop} {a b : World} {row : Option Nat} (h : a.grownBy b row) (hS : ∀ k, row = some k → S k) : KStep S a b := ⟨h.os, h.tape, h.output, h.size, fun k hk hs => h.block k hk (fun e => hs (hS k e.symm))⟩

theorem KStep.refl (S : Nat → Prop) (w : World) : KStep S w w := ⟨rfl, rfl, rfl, Nat.le_refl _, fun _ _ _ => rfl⟩

theorem KStep.alloc {S : Nat → Prop} {a b : World} (h : KStep S a b) (o : Obj) : KStep S a (b.alloc o) := h.trans (KStep.of_below ((Below.refl _ _).alloc (Nat.le_refl _) _))

theorem KStep.drew {S : Nat → Prop} {a b : World} (h : KStep S a b) : KStep S a b.drew := ⟨h.os, h.tape, h.output, h.size, h.block⟩

theorem KStep.below {S : Nat → Prop} {a b : World} {B : Nat} (h : KStep S a b) (hS : ∀ k, S k → B ≤ k) (hB : B ≤ a.heap.size) : Below B a b := ⟨h.os, h.tape, h.output, h.size, fun k hk => h.block k (by omega) (fun e => by have := hS k e; omega)⟩

namespace IsBk

variable {n₀ bk : Nat} {vp : Value} {w : World} {H : List He}

theorem lt (h : IsBk n₀ bk vp w H) : bk < w.heap.size := (Array.getElem?_eq_some_iff.1 h.blk).1

theorem c0 (h : IsBk n₀ bk vp w H) : w.cell? ⟨bk, 0, none⟩ = some (.int .i64 H.length) := by rw [cell_of_row w bk 0 _ _ _ h.blk]; rfl

theorem c2 (h : IsBk n₀ bk vp w H) : w.cell? ⟨bk, 4, none⟩ = some vp := by rw [cell_of_row w bk 4 _ _ _ h.blk]; rfl

theorem f (h : IsBk n₀ bk vp w H) (j : Nat) : w.frozen? ⟨bk, j, none⟩ = false := frozen_of_row w bk j _ _ h.blk

theorem nvp (h : IsBk n₀ bk vp w H) : vp.ownBlock ≠ some bk := by
  intro e; obtain ⟨cur, hc⟩ := row_obj h.row e; rw [h.blk] at hc; simp [bookObj] at hc

/-- The book's own blocks. -/
def own (bk : Nat) (vp : Value) (k : Nat) : Prop := k = bk ∨ vp.ownBlock = some k

theorem blocks (h : IsBk n₀ bk vp w H) {k : Nat} (hk : own bk vp k) : n₀ ≤ k ∧ k < w.heap.size ∧ ∃ cur t, w.heap[k]? = some (.cells cur t (0, 0)) ∧ (t = 58 ∨ t = 158) := by
  rcases hk with rfl | e
  · exact ⟨h.base, h.lt, _, _, h.blk, .inl rfl⟩
  · obtain ⟨cur, hc⟩ := row_obj h.row e
    exact ⟨(h.row.lt k e).1, (h.row.lt k e).2, cur, 158, hc, .inr rfl⟩

theorem kept (h : IsBk n₀ bk vp w H) {w' : World} (hk : ∀ k, own bk vp k → w'.heap[k]? = w.heap[k]?) : IsBk n₀ bk vp w' H :=
  ⟨h.base, (hk bk (.inl rfl)).trans h.blk, row_kept h.row (fun k e => hk k (.inr e)), h.le, h.num⟩

theorem elem {g c : Nat} (h : IsBk n₀ bk (.slice (some ⟨g, 0, none⟩) H.length c) w H) {j : Nat} {x : He} (hj : H[j]? = some x) :
    w.cell? ⟨g, j * 3, none⟩ = some x.l ∧ w.cell? ⟨g, j * 3 + 1, none⟩ = some x.long ∧ w.cell? ⟨g, j * 3 + 2, none⟩ = some (.int .i64 x.n) := by
  have hlt : j < H.length := (List.getElem?_eq_some_iff.1 hj).1
  obtain ⟨h1, h2, h3⟩ := hcells_get H j x hj
  exact ⟨by rw [h.row.cellAt _ (by omega)]; exact h1, by rw [h.row.cellAt _ (by omega)]; exact h2, by rw [h.row.cellAt _ (by omega)]; exact h3⟩

end IsBk

variable {n₀ bk : Nat} {vp : Value} {w : World} {H : List He}

theorem info110 : (Tryz.prog.info? 158).map (fun i => (i.zero, i.size, i.bytes)) = some (some (.agg #[.slice none 0 0, .slice none 0 0, .int .i64 0]), 3, 56) := by kernel_rfl

set_option maxRecDepth 20000 in
set_option maxHeartbeats 1000000 in
theorem keep_val (h : IsBk n₀ bk vp w H) (hH : H.length < 9) (p : Option Addr) (n c : Nat) (hn : n ≤ 1048576) : Calls Tryz.prog 105 #[.pointer (some ⟨bk, 0, none⟩), .slice p n c] w fun e w' => e = .returned (.tuple #[]) ∧
    ∃ vp', IsBk n₀ bk vp' w' (H ++ [⟨.slice p n c, .slice none 0 0, H.length + 1, n⟩]) ∧ KStep (IsBk.own bk vp) w w' ∧ (∀ k, vp'.ownBlock = some k → vp.ownBlock = some k ∨ w.heap.size ≤ k) := by
  have c0 := h.c0
  have c2 := h.c2
  have f0 := h.f 0
  have f2 := h.f 4
  have hle := h.le
  have HH : Hid (IsBk n₀ bk vp w H) := h
  clear h
  go_enter Tryz.func105, Tryz.ntmps105
  go_wp2
  obtain ⟨W, hW⟩ : ∃ W, w.setCell ⟨bk, 0, none⟩ (.int .i64 (H.length + 1)) = W := ⟨_, rfl⟩
  have hbk : W.heap[bk]? = some (bookObj (H.length + 1) vp) := by
    have t1 := heap_setCell_same w bk 0 _ 58 (.int .i64 (H.length + 1)) HH.out.blk
    rw [← hW]
    simpa [bookObj] using t1
  have hso : ∀ q, q ≠ bk → W.heap[q]? = w.heap[q]? := fun q hq => by rw [← hW]; exact heap_setCell_other _ ⟨bk, 0, none⟩ q _ hq
  have hWs : Hid (W.heap.size = w.heap.size) := by rw [← hW]; exact (show _ = _ by simp [World.setCell])
  have hWo : W.os = w.os ∧ W.tape = w.tape ∧ W.output = w.output := by rw [← hW]; exact ⟨rfl, rfl, rfl⟩
  rw [hW]
  clear hW c0 c2 f0 f2
  have hrow : W.ownsRow n₀ 158 3 vp H.length (hcells H) := row_kept HH.out.row (fun k hk => hso k (fun e => HH.out.nvp (by rw [← e]; exact hk)))
  have hbrW : bk < W.heap.size := by rw [hWs.out]; exact HH.out.lt
  have hbase : n₀ ≤ W.heap.size := Nat.le_trans HH.out.base (Nat.le_of_lt hbrW)
  have hnv := HH.out.nvp
  have C0 : W.cell? ⟨bk, 0, none⟩ = some (.int .i64 (H.length + 1)) := by rw [cell_of_row W bk 0 _ _ _ hbk]; rfl
  have C2 : W.cell? ⟨bk, 4, none⟩ = some vp := by rw [cell_of_row W bk 4 _ _ _ hbk]; rfl
  have F2 : W.frozen? ⟨bk, 4, none⟩ = false := frozen_of_row W bk 4 _ _ hbk
  obtain ⟨i0, hi, hz0, hz1, hz2⟩ := infoV_parts info110
  have HF2 : ((W.alloc (.cells #[.slice p n c, .slice none 0 0, .int .i64 (H.length + 1)] 158)).drew).frozen? ⟨bk, 4, none⟩ = false := by
    rw [← F2]; exact World.frozen?_of_block (a := ⟨bk, 4, none⟩) (Below.heap_alloc _ _ bk hbrW)
  have HC2 : ((W.alloc (.cells #[.slice p n c, .slice none 0 0, .int .i64 (H.length + 1)] 158)).drew).cell? ⟨bk, 4, none⟩ = some vp := by
    rw [← C2]; exact World.cell?_of_block (a := ⟨bk, 4, none⟩) (Below.heap_alloc _ _ bk hbrW)
  have HC0 : ((W.alloc (.cells #[.slice p n c, .slice none 0 0, .int .i64 (H.length + 1)] 158)).drew).cell? ⟨bk, 0, none⟩ = some (.int .i64 (H.length + 1)) := by
    rw [← C0]; exact World.cell?_of_block (a := ⟨bk, 0, none⟩) (Below.heap_alloc _ _ bk hbrW)
  have HN : ((W.alloc (.cells #[.slice p n c, .slice none 0 0, .int .i64 (H.length + 1)] 158)).drew).heap[W.heap.size]? = some (.cells #[.slice p n c, .slice none 0 0, .int .i64 (H.length + 1)] 158 (0, 0)) := heap_alloc_new W _
  go_region_law
    ((refine step_append_lies _ (by rfl) _ _ _ (by rfl) n₀ 158 i0 _ 3 56 Tryz.underlying40 hi hz0 hz1 hz2 rfl (by omega) vp H.length (hcells H) (by rfl) (hrow.alloc _).drew
        ⟨W.heap.size, 0, none⟩ 1 1 [.slice p n c, .slice none 0 0, .int .i64 (H.length + 1)] (by rfl) (by rfl) (World.news_of_block (cs := #[.slice p n c, .slice none 0 0, .int .i64 (H.length + 1)]) (t := 158) (fr := (0, 0)) HN) (by simp [Value.oneCell'])
        (by omega) (by unfold maxLen; omega) (by omega) (by simp; omega) (W.heap.size + 1) (by simp) ?_; intro gg cap w1 hown1 hgrow hat hlt; have G2 : w1.frozen? ⟨bk, 4, none⟩ = false := (hgrow.frozen_far _ (by simp; omega) (Ne.symm hnv)).trans HF2; have G4 : w1.cell? ⟨bk, 4, none⟩ = some vp := (hgrow.cell_far _ (by simp; omega) (Ne.symm hnv)).trans HC2))
  all_goals
    go_end0
    have hgb : gg ≠ bk := by
      rcases hat with e | e
      · intro e2; exact hnv (by rw [e, e2])
      · omega
    have hsz1 := hgrow.size
    simp at hsz1
    have hws := hWs.out
    have hb1 : w1.heap[bk]? = some (bookObj (H.length + 1) vp) := ((hgrow.block bk (by simp; omega) (Ne.symm hnv)).trans (Below.heap_alloc _ _ bk hbrW)).trans hbk
    refine ⟨rfl, .slice (some ⟨gg, 0, none⟩) (H.length + 1) cap, ⟨HH.out.base, ?_, ?_, by simp; omega, ?_⟩, ⟨?_, ?_, ?_, ?_, ?_⟩, ?_⟩
    · have t1 := heap_setCell_same w1 bk 4 _ 58 (.slice (some ⟨gg, 0, none⟩) (H.length + 1) cap) hb1
      simpa [bookObj] using t1
    · have := row_kept hown1 (w' := w1.setCell ⟨bk, 4, none⟩ (.slice (some ⟨gg, 0, none⟩) (H.length + 1) cap)) (fun k hk => heap_setCell_other _ ⟨bk, 4, none⟩ k _ (by simp [Value.ownBlock] at hk; subst hk; exact hgb))
      simpa [hcells_append, hcells] using this
    · intro x hx
      rcases List.mem_append.1 hx with hx | hx
      · exact HH.out.num x hx
      · simp at hx; subst hx; exact ⟨by simp; omega, hn⟩
    · exact hgrow.os.trans hWo.1
    · exact hgrow.tape.trans hWo.2.1
    · exact hgrow.output.trans hWo.2.2
    · simp [World.setCell]; omega
    · intro k hk hs
      have q1 : k ≠ bk := fun e => hs (.inl e)
      have q2 : some k ≠ vp.ownBlock := fun e => hs (.inr e.symm)
      exact (heap_setCell_other _ ⟨bk, 4, none⟩ k _ q1).trans (((hgrow.block k (by simp; omega) q2).trans (Below.heap_alloc _ _ k (by omega))).trans (hso k q1))
    · intro k hk
      simp [Value.ownBlock] at hk
      subst hk
      rcases hat with e | e
      · exact .inl e
      · right; omega

theorem vals_keep (h : IsBk n₀ bk vp w H) (hH : H.length < 9) (p : Option Addr) (n c : Nat) (hn : n ≤ 1048576) : Calls Tryz.prog 17 #[.pointer (some ⟨bk, 0, none⟩), .slice p n c] w fun e w' => e = .returned (.tuple #[]) ∧
    ∃ vp', IsBk n₀ bk vp' w' (H ++ [⟨.slice p n c, .slice none 0 0, H.length + 1, n⟩]) ∧ KStep (IsBk.own bk vp) w w' ∧ (∀ k, vp'.ownBlock = some k → vp.ownBlock = some k ∨ w.heap.size ≤ k) := by
  have a := keep_val h hH p n c hn
  clear h
  go_enter Tryz.func17, Tryz.ntmps17
  go_wp2_with (go_at_call 105; refine a.mono ?_; clear a; rintro e w' ⟨rfl, hh⟩)
  go_end0
  exact ⟨rfl, hh⟩

end Go.Proofs.YtampilfebmfhaaaGreatDoor
