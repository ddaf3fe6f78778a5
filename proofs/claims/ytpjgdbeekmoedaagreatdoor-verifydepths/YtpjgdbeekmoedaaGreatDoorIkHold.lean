/- The book of lists that were answered: what it holds; a list more. -/
import Derived.Test.YtpjgdbeekmoedaaGreatDoorVfRow
import Derived.Maps.AppendAt
import Derived.Deep.RegionHeld3
import Derived.Deep.AppendLies
import Derived.Deep.RegionLaw
import Derived.Deep.DrawnRows
namespace Go.Proofs.YtpjgdbeekmoedaaGreatDoor
set_option linter.unusedVariables false
set_option linter.unusedSimpArgs false
open Go.RowKit

namespace Ik

theorem row_form {w : World} {base : Nat} {e : TypeId} {v : Value} {n : Nat} {xs : List Value} (h : w.ownsRow base e 1 v n xs) : ∃ p c, v = .slice p n c ∧ n ≤ c ∧ c ≤ maxLen := by
  rcases h.2 with ⟨rfl, rfl⟩ | ⟨g, cap, cur, rfl, _, _, h1, h2, _⟩
  · exact ⟨none, 0, rfl, Nat.le_refl _, by unfold maxLen; omega⟩
  · exact ⟨_, _, rfl, h1, h2⟩

theorem row_some {w : World} {base : Nat} {e : TypeId} {v : Value} {n : Nat} {xs : List Value} (h : w.ownsRow base e 1 v n xs) (hn : 0 < n) : ∃ g c, v = .slice (some ⟨g, 0, none⟩) n c ∧ n ≤ c ∧ c ≤ maxLen := by
  rcases h.2 with ⟨rfl, rfl⟩ | ⟨g, cap, cur, rfl, _, _, h1, h2, _⟩
  · omega
  · exact ⟨_, _, rfl, h1, h2⟩

theorem row_type {w : World} {base : Nat} {e : TypeId} {v : Value} {n : Nat} {xs : List Value} (h : w.ownsRow base e 1 v n xs) {k : Nat} (hk : v.ownBlock = some k) : ∃ cur, w.heap[k]? = some (.cells cur e (0, 0)) := by
  rcases h.2 with ⟨rfl, rfl⟩ | ⟨g, cap, cur, rfl, _, hg, _⟩
  · simp [Value.ownBlock] at hk
  · simp [Value.ownBlock] at hk; subst hk; exact ⟨cur, hg⟩

theorem row_some3 {w : World} {base e : Nat} {v : Value} {n : Nat} {xs : List Value} (h : w.ownsRow base e 3 v n xs) : ∃ p c, v = .slice p n c ∧ n ≤ c ∧ c ≤ maxLen ∧ (0 < n → ∃ g, p = some ⟨g, 0, none⟩) := by
  rcases h.2 with ⟨rfl, rfl⟩ | ⟨g, cap, cur, rfl, _, _, h1, h2, _⟩
  · exact ⟨none, 0, rfl, Nat.le_refl _, by unfold maxLen; omega, fun h => by omega⟩
  · exact ⟨_, _, rfl, h1, h2, fun _ => ⟨g, rfl⟩⟩

theorem row_type3 {w : World} {base e : Nat} {v : Value} {n : Nat} {xs : List Value} (h : w.ownsRow base e 3 v n xs) {k : Nat} (hk : v.ownBlock = some k) : ∃ cur, w.heap[k]? = some (.cells cur e (0, 0)) := by
  rcases h.2 with ⟨rfl, rfl⟩ | ⟨g, cap, cur, rfl, _, hg, _⟩
  · simp [Value.ownBlock] at hk
  · simp [Value.ownBlock] at hk; subst hk; exact ⟨cur, hg⟩

theorem row_kept {w w' : World} {base e size : Nat} {v : Value} {n : Nat} {xs : List Value} (h : w.ownsRow base e size v n xs) (hk : ∀ k, v.ownBlock = some k → w'.heap[k]? = w.heap[k]?) : w'.ownsRow base e size v n xs := by
  refine ⟨h.1, ?_⟩
  rcases h.2 with hn | ⟨g, cap, cur, rfl, hb, hgg, rest⟩
  · exact .inl hn
  · exact .inr ⟨g, cap, cur, rfl, hb, by rw [hk g rfl]; exact hgg, rest⟩

end Ik

attribute [local go_sem ↓] Go.wp_at_zero Go.wp_at_succ

/-- A list that is held: the list, the one that it is grown to, its number, its length. -/
structure He where
  l : Value
  long : Value
  n : Nat
  len : Nat

def hcells : List He → List Value
  | [] => []
  | x :: r => x.l :: x.long :: .int .i64 x.n :: hcells r

theorem hcells_len : ∀ (H : List He), (hcells H).length = H.length * 3
  | [] => rfl
  | x :: r => by simp [hcells, hcells_len r]; omega

theorem hcells_append : ∀ (H S : List He), hcells (H ++ S) = hcells H ++ hcells S
  | [], _ => rfl
  | x :: r, S => by simp [hcells, hcells_append r S]

theorem hcells_get : ∀ (H : List He) (j : Nat) (x : He), H[j]? = some x → (hcells H)[j * 3]? = some x.l ∧ (hcells H)[j * 3 + 1]? = some x.long ∧ (hcells H)[j * 3 + 2]? = some (.int .i64 x.n)
  | [], j, x, h => by simp at h
  | y :: r, 0, x, h => by simp at h; subst h; simp [hcells]
  | y :: r, j + 1, x, h => by
    have := hcells_get r j x (by simpa using h)
    rw [show (j + 1) * 3 = j * 3 + 3 by omega]
    simpa [hcells] using this

/-- The blocks of a list that is held. -/
def He.mine (x : He) (k : Nat) : Prop := x.l.ownBlock = some k ∨ x.long.ownBlock = some k

def bookObj (n : Nat) (vp : Value) : Obj := .cells #[.int .i64 n, vp, .slice none 0 0, .slice none 0 0, .slice none 0 0, .slice none 0 0, .slice none 0 0, .slice none 0 0, .slice none 0 0, .slice none 0 0, .slice none 0 0, .slice none 0 0, .slice none 0 0, .slice none 0 0, .slice none 0 0, .slice none 0 0, .slice none 0 0, .slice none 0 0, .slice none 0 0, .slice none 0 0, .slice none 0 0] 53 (0, 0)

/-- The book at block bk. -/
structure IsBk (n₀ bk : Nat) (vp : Value) (w : World) (H : List He) : Prop where
  base : n₀ ≤ bk
  blk : w.heap[bk]? = some (bookObj H.length vp)
  row : w.ownsRow n₀ 137 3 vp H.length (hcells H)
  le : H.length ≤ 20
  num : ∀ x ∈ H, x.n ≤ 20 ∧ x.len ≤ 1048576

/-- What a call leaves of all blocks but those of S. -/
structure KStep (S : Nat → Prop) (w w' : World) : Prop where
  os : w'.os = w.os
  tape : w'.tape = w.tape
  output : w'.output = w.output
  size : w.heap.size ≤ w'.heap.size
  block : ∀ k, k < w.heap.size → ¬ S k → w'.heap[k]? = w.heap[k]?

theorem KStep.trans {S : Nat → Prop} {a b c : World} (h : KStep S a b) (g : KStep S b c) : KStep S a c :=
  ⟨g.os.trans h.os, g.tape.trans h.tape, g.output.trans h.output, Nat.le_trans h.size g.size, fun k hk hs => (g.block k (Nat.lt_of_lt_of_le hk h.size) hs).trans (h.block k hk hs)⟩

/-- The second step may turn what the first one made. -/
theorem KStep.trans' {S T : Nat → Prop} {a b c : World} (h : KStep S a b) (g : KStep T b c) (hT : ∀ k, T k → S k ∨ a.heap.size ≤ k) : KStep S a c :=
  ⟨g.os.trans h.os, g.tape.trans h.tape, g.output.trans h.output, Nat.le_trans h.size g.size, fun k hk hs => (g.block k (Nat.lt_of_lt_of_le hk h.size) (fun ht => by rcases hT k ht with e | e; exact hs e; omega)).trans (h.block k hk hs)⟩

theorem KStep.mono {S T : Nat → Prop} {a b : World} (h : KStep S a b) (hS : ∀ k, S k → T k) : KStep T a b := ⟨h.os, h.tape, h.output, h.size, fun k hk hs => h.block k hk (fun e => hs (hS k e))⟩

theorem KStep.of_below {S : Nat → Prop} {a b : World} (h : Below a.heap.size a b) : KStep S a b := ⟨h.os, h.tape, h.output, h.size, fun k hk _ => h.block k hk⟩

theorem KStep.of_grown {S : Nat → Prop} {a b : World} {row : Option Nat} (h : a.grownBy b row) (hS : ∀ k, row = some k → S k) : KStep S a b := ⟨h.os, h.tape, h.output, h.size, fun k hk hs => h.block k hk (fun e => hs (hS k e.symm))⟩

theorem KStep.refl (S : Nat → Prop) (w : World) : KStep S w w := ⟨rfl, rfl, rfl, Nat.le_refl _, fun _ _ _ => rfl⟩

theorem KStep.alloc {S : Nat → Prop} {a b : World} (h : KStep S a b) (o : Obj) : KStep S a (b.alloc o) := h.trans (KStep.of_below ((Below.refl _ _).alloc (Nat.le_refl _) _))

theorem KStep.drew {S : Nat → Prop} {a b : World} (h : KStep S a b) : KStep S a b.drew := ⟨h.os, h.tape, h.output, h.size, h.block⟩

theorem KStep.below {S : Nat → Prop} {a b : World} {B : Nat} (h : KStep S a b) (hS : ∀ k, S k → B ≤ k) (hB : B ≤ a.heap.size) : Below B a b := ⟨h.os, h.tape, h.output, h.size, fun k hk => h.block k (by omega) (fun e => by have := hS k e; omega)⟩

namespace IsBk

variable {n₀ bk : Nat} {vp : Value} {w : World} {H : List He}

theorem lt (h : IsBk n₀ bk vp w H) : bk < w.heap.size := (Array.getElem?_eq_some_iff.1 h.blk).1

theorem c0 (h : IsBk n₀ bk vp w H) : w.cell? ⟨bk, 0, none⟩ = some (.int .i64 H.length) := by rw [cell_of_row w bk 0 _ _ _ h.blk]; rfl

theorem c2 (h : IsBk n₀ bk vp w H) : w.cell? ⟨bk, 1, none⟩ = some vp := by rw [cell_of_row w bk 1 _ _ _ h.blk]; rfl

theorem f (h : IsBk n₀ bk vp w H) (j : Nat) : w.frozen? ⟨bk, j, none⟩ = false := frozen_of_row w bk j _ _ h.blk

theorem nvp (h : IsBk n₀ bk vp w H) : vp.ownBlock ≠ some bk := by
  intro e; obtain ⟨cur, hc⟩ := Ik.row_type3 h.row e; rw [h.blk] at hc; simp [bookObj] at hc

/-- The book's own blocks. -/
def own (bk : Nat) (vp : Value) (k : Nat) : Prop := k = bk ∨ vp.ownBlock = some k

theorem blocks (h : IsBk n₀ bk vp w H) {k : Nat} (hk : own bk vp k) : n₀ ≤ k ∧ k < w.heap.size ∧ ∃ cur t, w.heap[k]? = some (.cells cur t (0, 0)) ∧ (t = 53 ∨ t = 137) := by
  rcases hk with rfl | e
  · exact ⟨h.base, h.lt, _, _, h.blk, .inl rfl⟩
  · obtain ⟨cur, hc⟩ := Ik.row_type3 h.row e
    exact ⟨(h.row.lt k e).1, (h.row.lt k e).2, cur, 137, hc, .inr rfl⟩

theorem kept (h : IsBk n₀ bk vp w H) {w' : World} (hk : ∀ k, own bk vp k → w'.heap[k]? = w.heap[k]?) : IsBk n₀ bk vp w' H :=
  ⟨h.base, (hk bk (.inl rfl)).trans h.blk, Ik.row_kept h.row (fun k e => hk k (.inr e)), h.le, h.num⟩

theorem elem {g c : Nat} (h : IsBk n₀ bk (.slice (some ⟨g, 0, none⟩) H.length c) w H) {j : Nat} {x : He} (hj : H[j]? = some x) :
    w.cell? ⟨g, j * 3, none⟩ = some x.l ∧ w.cell? ⟨g, j * 3 + 1, none⟩ = some x.long ∧ w.cell? ⟨g, j * 3 + 2, none⟩ = some (.int .i64 x.n) := by
  have hlt : j < H.length := (List.getElem?_eq_some_iff.1 hj).1
  obtain ⟨h1, h2, h3⟩ := hcells_get H j x hj
  exact ⟨by rw [h.row.cellAt _ (by omega)]; exact h1, by rw [h.row.cellAt _ (by omega)]; exact h2, by rw [h.row.cellAt _ (by omega)]; exact h3⟩

end IsBk

variable {n₀ bk : Nat} {vp : Value} {w : World} {H : List He}

theorem infoI3 : (Tryz.prog.info? 3).map (fun i => (i.zero, i.size, i.bytes)) = some (some (.int .i64 0), 1, 8) := by kernel_rfl

theorem infoIk : (Tryz.prog.info? 137).map (fun i => (i.zero, i.size, i.bytes)) = some (some (.agg #[.slice none 0 0, .slice none 0 0, .int .i64 0]), 3, 56) := by kernel_rfl

set_option maxRecDepth 20000 in
set_option maxHeartbeats 1000000 in
theorem keep_place (h : IsBk n₀ bk vp w H) (hH : H.length < 20) (p : Option Addr) (n c : Nat) (hn : n ≤ 1048576) : Calls Tryz.prog 29 #[.pointer (some ⟨bk, 0, none⟩), .slice p n c] w fun e w' => e = .returned (.tuple #[]) ∧
    ∃ vp', IsBk n₀ bk vp' w' (H ++ [⟨.slice p n c, .slice none 0 0, H.length + 1, n⟩]) ∧ KStep (IsBk.own bk vp) w w' ∧ (∀ k, vp'.ownBlock = some k → vp.ownBlock = some k ∨ w.heap.size ≤ k) := by
  have c0 := h.c0
  have c2 := h.c2
  have f0 := h.f 0
  have f2 := h.f 1
  have hle := h.le
  have HH : Hid (IsBk n₀ bk vp w H) := h
  clear h
  go_enter Tryz.func29, Tryz.ntmps29
  go_wp2
  obtain ⟨W, hW⟩ : ∃ W, w.setCell ⟨bk, 0, none⟩ (.int .i64 (H.length + 1)) = W := ⟨_, rfl⟩
  have hbk : W.heap[bk]? = some (bookObj (H.length + 1) vp) := by
    have t1 := heap_setCell_same w bk 0 _ 53 (.int .i64 (H.length + 1)) HH.out.blk
    rw [← hW]
    simpa [bookObj] using t1
  have hso : ∀ q, q ≠ bk → W.heap[q]? = w.heap[q]? := fun q hq => by rw [← hW]; exact heap_setCell_other _ ⟨bk, 0, none⟩ q _ hq
  have hWs : Hid (W.heap.size = w.heap.size) := by rw [← hW]; exact (show _ = _ by simp [World.setCell])
  have hWo : W.os = w.os ∧ W.tape = w.tape ∧ W.output = w.output := by rw [← hW]; exact ⟨rfl, rfl, rfl⟩
  rw [hW]
  clear hW c0 c2 f0 f2
  have hrow : W.ownsRow n₀ 137 3 vp H.length (hcells H) := Ik.row_kept HH.out.row (fun k hk => hso k (fun e => HH.out.nvp (by rw [← e]; exact hk)))
  have hbrW : bk < W.heap.size := by rw [hWs.out]; exact HH.out.lt
  have hbase : n₀ ≤ W.heap.size := Nat.le_trans HH.out.base (Nat.le_of_lt hbrW)
  have hnv := HH.out.nvp
  have C0 : W.cell? ⟨bk, 0, none⟩ = some (.int .i64 (H.length + 1)) := by rw [cell_of_row W bk 0 _ _ _ hbk]; rfl
  have C2 : W.cell? ⟨bk, 1, none⟩ = some vp := by rw [cell_of_row W bk 1 _ _ _ hbk]; rfl
  have F2 : W.frozen? ⟨bk, 1, none⟩ = false := frozen_of_row W bk 1 _ _ hbk
  obtain ⟨i0, hi, hz0, hz1, hz2⟩ := info_parts infoIk
  have HF2 : ((W.alloc (.cells #[.slice p n c, .slice none 0 0, .int .i64 (H.length + 1)] 137)).drew).frozen? ⟨bk, 1, none⟩ = false := by
    rw [← F2]; exact World.frozen?_of_block (a := ⟨bk, 1, none⟩) (Below.heap_alloc _ _ bk hbrW)
  have HC2 : ((W.alloc (.cells #[.slice p n c, .slice none 0 0, .int .i64 (H.length + 1)] 137)).drew).cell? ⟨bk, 1, none⟩ = some vp := by
    rw [← C2]; exact World.cell?_of_block (a := ⟨bk, 1, none⟩) (Below.heap_alloc _ _ bk hbrW)
  have HC0 : ((W.alloc (.cells #[.slice p n c, .slice none 0 0, .int .i64 (H.length + 1)] 137)).drew).cell? ⟨bk, 0, none⟩ = some (.int .i64 (H.length + 1)) := by
    rw [← C0]; exact World.cell?_of_block (a := ⟨bk, 0, none⟩) (Below.heap_alloc _ _ bk hbrW)
  have HN : ((W.alloc (.cells #[.slice p n c, .slice none 0 0, .int .i64 (H.length + 1)] 137)).drew).heap[W.heap.size]? = some (.cells #[.slice p n c, .slice none 0 0, .int .i64 (H.length + 1)] 137 (0, 0)) := heap_alloc_new W _
  go_region_law
    ((refine step_append_lies _ (by rfl) _ _ _ (by rfl) n₀ 137 i0 _ 3 56 Tryz.underlying32 hi hz0 hz1 hz2 rfl (by omega) vp H.length (hcells H) (by rfl) (hrow.alloc _).drew
        ⟨W.heap.size, 0, none⟩ 1 1 [.slice p n c, .slice none 0 0, .int .i64 (H.length + 1)] (by rfl) (by rfl) (World.news_of_block (cs := #[.slice p n c, .slice none 0 0, .int .i64 (H.length + 1)]) (t := 137) (fr := (0, 0)) HN) (by simp [Value.oneCell'])
        (by omega) (by unfold maxLen; omega) (by omega) (by simp; omega) (W.heap.size + 1) (by simp) ?_; intro gg cap w1 hown1 hgrow hat hlt; have G2 : w1.frozen? ⟨bk, 1, none⟩ = false := (hgrow.frozen_far _ (by simp; omega) (Ne.symm hnv)).trans HF2; have G4 : w1.cell? ⟨bk, 1, none⟩ = some vp := (hgrow.cell_far _ (by simp; omega) (Ne.symm hnv)).trans HC2))
  all_goals
    go_end0
    have hgb : gg ≠ bk := by
      rcases hat with e | e
      · intro e2; exact hnv (by rw [e, e2])
      · omega
    have hsz1 := hgrow.size
    simp at hsz1
    have hws := hWs.out
    have hb1 : w1.heap[bk]? = some (bookObj (H.length + 1) vp) := ((hgrow.block bk (by simp; omega) (Ne.symm hnv)).trans (Below.heap_alloc _ _ bk hbrW)).trans hbk
    refine ⟨rfl, .slice (some ⟨gg, 0, none⟩) (H.length + 1) cap, ⟨HH.out.base, ?_, ?_, by simp; omega, ?_⟩, ⟨?_, ?_, ?_, ?_, ?_⟩, ?_⟩
    · have t1 := heap_setCell_same w1 bk 1 _ 53 (.slice (some ⟨gg, 0, none⟩) (H.length + 1) cap) hb1
      simpa [bookObj] using t1
    · have := Ik.row_kept hown1 (w' := w1.setCell ⟨bk, 1, none⟩ (.slice (some ⟨gg, 0, none⟩) (H.length + 1) cap)) (fun k hk => heap_setCell_other _ ⟨bk, 1, none⟩ k _ (by simp [Value.ownBlock] at hk; subst hk; exact hgb))
      simpa [hcells_append, hcells] using this
    · intro x hx
      rcases List.mem_append.1 hx with hx | hx
      · exact HH.out.num x hx
      · simp at hx; subst hx; exact ⟨by simp; omega, hn⟩
    · exact hgrow.os.trans hWo.1
    · exact hgrow.tape.trans hWo.2.1
    · exact hgrow.output.trans hWo.2.2
    · simp [World.setCell]; omega
    · intro k hk hs
      have q1 : k ≠ bk := fun e => hs (.inl e)
      have q2 : some k ≠ vp.ownBlock := fun e => hs (.inr e.symm)
      exact (heap_setCell_other _ ⟨bk, 1, none⟩ k _ q1).trans (((hgrow.block k (by simp; omega) q2).trans (Below.heap_alloc _ _ k (by omega))).trans (hso k q1))
    · intro k hk
      simp [Value.ownBlock] at hk
      subst hk
      rcases hat with e | e
      · exact .inl e
      · right; omega

theorem ints_keep (h : IsBk n₀ bk vp w H) (hH : H.length < 20) (p : Option Addr) (n c : Nat) (hn : n ≤ 1048576) : Calls Tryz.prog 12 #[.pointer (some ⟨bk, 0, none⟩), .slice p n c] w fun e w' => e = .returned (.tuple #[]) ∧
    ∃ vp', IsBk n₀ bk vp' w' (H ++ [⟨.slice p n c, .slice none 0 0, H.length + 1, n⟩]) ∧ KStep (IsBk.own bk vp) w w' ∧ (∀ k, vp'.ownBlock = some k → vp.ownBlock = some k ∨ w.heap.size ≤ k) := by
  have a := keep_place h hH p n c hn
  clear h
  go_enter Tryz.func12, Tryz.ntmps12
  go_wp2_with (go_at_call 29; refine a.mono ?_; clear a; rintro e w' ⟨rfl, hh⟩)
  go_end0
  exact ⟨rfl, hh⟩

end Go.Proofs.YtpjgdbeekmoedaaGreatDoor
