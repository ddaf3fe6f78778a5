/- The book of stores: a list of objects more. -/
import Derived.Test.YtgokofomoachaaaGreatDoorBkMem
import Derived.Test.YtgokofomoachaaaGreatDoorShValue
import Derived.ArgAppend
import Derived.Deep.DeepAppendRoom
namespace Go.Proofs.YtgokofomoachaaaGreatDoor
set_option linter.unusedVariables false
set_option linter.unusedSimpArgs false
open Go.RowKit
open Bk

attribute [local go_sem ↓] Go.wp_at_zero Go.wp_at_succ

namespace Bo

theorem infoO5 : (Tryz.prog.info? 96).map (fun i => (i.zero, i.size, i.bytes)) = some (some (.agg #[.int .u8 0, .string ⟨#[]⟩, .slice none 0 0, .int .i64 0, .int .i64 0]), 5, 64) := by kernel_rfl

/-- The book at block bk. -/
structure IsBk (M₀ : Nat) (ot : Value) (n₀ bk : Nat) (vp : Value) (w : World) (H : List He) : Prop where
  base : n₀ ≤ bk
  blk : w.heap[bk]? = some (bookObj M₀ ot vp)
  row : w.ownsRow n₀ 187 3 vp H.length (hcells H)
  le : H.length ≤ 400000
  num : ∀ x ∈ H, x.n ≤ 400000 ∧ x.len ≤ 1048576

namespace IsBk

variable {M₀ n₀ bk : Nat} {ot vp : Value} {w : World} {H : List He}

theorem lt (h : IsBk M₀ ot n₀ bk vp w H) : bk < w.heap.size := (Array.getElem?_eq_some_iff.1 h.blk).1

theorem c0 (h : IsBk M₀ ot n₀ bk vp w H) : w.cell? ⟨bk, 0, none⟩ = some (.int .i64 M₀) := by rw [cell_of_row w bk 0 _ _ _ h.blk]; rfl

theorem c2 (h : IsBk M₀ ot n₀ bk vp w H) : w.cell? ⟨bk, 5, none⟩ = some vp := by rw [cell_of_row w bk 5 _ _ _ h.blk]; rfl

theorem f (h : IsBk M₀ ot n₀ bk vp w H) (j : Nat) : w.frozen? ⟨bk, j, none⟩ = false := frozen_of_row w bk j _ _ h.blk

theorem nvp (h : IsBk M₀ ot n₀ bk vp w H) : vp.ownBlock ≠ some bk := by
  intro e; obtain ⟨cur, hc⟩ := row_obj h.row e; rw [h.blk] at hc; simp [bookObj] at hc

/-- The book's own blocks. -/
def own (bk : Nat) (vp : Value) (k : Nat) : Prop := k = bk ∨ vp.ownBlock = some k

theorem blocks (h : IsBk M₀ ot n₀ bk vp w H) {k : Nat} (hk : own bk vp k) : n₀ ≤ k ∧ k < w.heap.size ∧ ∃ cur t, w.heap[k]? = some (.cells cur t (0, 0)) ∧ (t = 77 ∨ t = 187) := by
  rcases hk with rfl | e
  · exact ⟨h.base, h.lt, _, _, h.blk, .inl rfl⟩
  · obtain ⟨cur, hc⟩ := row_obj h.row e
    exact ⟨(h.row.lt k e).1, (h.row.lt k e).2, cur, 187, hc, .inr rfl⟩

theorem kept (h : IsBk M₀ ot n₀ bk vp w H) {w' : World} (hk : ∀ k, own bk vp k → w'.heap[k]? = w.heap[k]?) : IsBk M₀ ot n₀ bk vp w' H :=
  ⟨h.base, (hk bk (.inl rfl)).trans h.blk, row_kept h.row (fun k e => hk k (.inr e)), h.le, h.num⟩

theorem elem {g c : Nat} (h : IsBk M₀ ot n₀ bk (.slice (some ⟨g, 0, none⟩) H.length c) w H) {j : Nat} {x : He} (hj : H[j]? = some x) :
    w.cell? ⟨g, j * 3, none⟩ = some x.l ∧ w.cell? ⟨g, j * 3 + 1, none⟩ = some x.long ∧ w.cell? ⟨g, j * 3 + 2, none⟩ = some (.int .i64 x.n) := by
  have hlt : j < H.length := (List.getElem?_eq_some_iff.1 hj).1
  obtain ⟨h1, h2, h3⟩ := hcells_get H j x hj
  exact ⟨by rw [h.row.cellAt _ (by omega)]; exact h1, by rw [h.row.cellAt _ (by omega)]; exact h2, by rw [h.row.cellAt _ (by omega)]; exact h3⟩

end IsBk

variable {M₀ n₀ bk : Nat} {ot vp : Value} {w : World} {H : List He}

theorem info110 : (Tryz.prog.info? 187).map (fun i => (i.zero, i.size, i.bytes)) = some (some (.agg #[.slice none 0 0, .slice none 0 0, .int .i64 0]), 3, 56) := by kernel_rfl

set_option maxRecDepth 20000 in
set_option maxHeartbeats 1000000 in
theorem keep_obj (h : IsBk M₀ ot n₀ bk vp w H) (hH : H.length < 400000) (hM : M₀ < 400000) (p : Option Addr) (n c : Nat) (hn : n ≤ 1048576) : Calls Tryz.prog 189 #[.pointer (some ⟨bk, 0, none⟩), .slice p n c] w fun e w' => e = .returned (.tuple #[]) ∧
    ∃ vp', IsBk (M₀ + 1) ot n₀ bk vp' w' (H ++ [⟨.slice p n c, .slice none 0 0, M₀ + 1, n⟩]) ∧ KStep (IsBk.own bk vp) w w' ∧ (∀ k, vp'.ownBlock = some k → vp.ownBlock = some k ∨ w.heap.size ≤ k) := by
  have c0 := h.c0
  have c2 := h.c2
  have f0 := h.f 0
  have f2 := h.f 5
  have hle := h.le
  have HH : Hid (IsBk M₀ ot n₀ bk vp w H) := h
  clear h
  go_enter Tryz.func189, Tryz.ntmps189
  go_wp2
  obtain ⟨W, hW⟩ : ∃ W, w.setCell ⟨bk, 0, none⟩ (.int .i64 (M₀ + 1)) = W := ⟨_, rfl⟩
  have hbk : W.heap[bk]? = some (bookObj (M₀ + 1) ot vp) := by
    have t1 := heap_setCell_same w bk 0 _ 77 (.int .i64 (M₀ + 1)) HH.out.blk
    rw [← hW]
    simpa [bookObj] using t1
  have hso : ∀ q, q ≠ bk → W.heap[q]? = w.heap[q]? := fun q hq => by rw [← hW]; exact heap_setCell_other _ ⟨bk, 0, none⟩ q _ hq
  have hWs : Hid (W.heap.size = w.heap.size) := by rw [← hW]; exact (show _ = _ by simp [World.setCell])
  have hWo : W.os = w.os ∧ W.tape = w.tape ∧ W.output = w.output := by rw [← hW]; exact ⟨rfl, rfl, rfl⟩
  rw [hW]
  clear hW c0 c2 f0 f2
  have hrow : W.ownsRow n₀ 187 3 vp H.length (hcells H) := row_kept HH.out.row (fun k hk => hso k (fun e => HH.out.nvp (by rw [← e]; exact hk)))
  have hbrW : bk < W.heap.size := by rw [hWs.out]; exact HH.out.lt
  have hbase : n₀ ≤ W.heap.size := Nat.le_trans HH.out.base (Nat.le_of_lt hbrW)
  have hnv := HH.out.nvp
  have C0 : W.cell? ⟨bk, 0, none⟩ = some (.int .i64 (M₀ + 1)) := by rw [cell_of_row W bk 0 _ _ _ hbk]; rfl
  have C2 : W.cell? ⟨bk, 5, none⟩ = some vp := by rw [cell_of_row W bk 5 _ _ _ hbk]; rfl
  have F2 : W.frozen? ⟨bk, 5, none⟩ = false := frozen_of_row W bk 5 _ _ hbk
  obtain ⟨i0, hi, hz0, hz1, hz2⟩ := infoV_parts info110
  have HF2 : ((W.alloc (.cells #[.slice p n c, .slice none 0 0, .int .i64 (M₀ + 1)] 187)).drew).frozen? ⟨bk, 5, none⟩ = false := by
    rw [← F2]; exact World.frozen?_of_block (a := ⟨bk, 5, none⟩) (Below.heap_alloc _ _ bk hbrW)
  have HC2 : ((W.alloc (.cells #[.slice p n c, .slice none 0 0, .int .i64 (M₀ + 1)] 187)).drew).cell? ⟨bk, 5, none⟩ = some vp := by
    rw [← C2]; exact World.cell?_of_block (a := ⟨bk, 5, none⟩) (Below.heap_alloc _ _ bk hbrW)
  have HC0 : ((W.alloc (.cells #[.slice p n c, .slice none 0 0, .int .i64 (M₀ + 1)] 187)).drew).cell? ⟨bk, 0, none⟩ = some (.int .i64 (M₀ + 1)) := by
    rw [← C0]; exact World.cell?_of_block (a := ⟨bk, 0, none⟩) (Below.heap_alloc _ _ bk hbrW)
  have HN : ((W.alloc (.cells #[.slice p n c, .slice none 0 0, .int .i64 (M₀ + 1)] 187)).drew).heap[W.heap.size]? = some (.cells #[.slice p n c, .slice none 0 0, .int .i64 (M₀ + 1)] 187 (0, 0)) := heap_alloc_new W _
  go_region_law
    ((refine step_append_lies _ (by rfl) _ _ _ (by rfl) n₀ 187 i0 _ 3 56 Tryz.underlying60 hi hz0 hz1 hz2 rfl (by omega) vp H.length (hcells H) (by rfl) (hrow.alloc _).drew
        ⟨W.heap.size, 0, none⟩ 1 1 [.slice p n c, .slice none 0 0, .int .i64 (M₀ + 1)] (by rfl) (by rfl) (World.news_of_block (cs := #[.slice p n c, .slice none 0 0, .int .i64 (M₀ + 1)]) (t := 187) (fr := (0, 0)) HN) (by simp [Value.oneCell'])
        (by omega) (by unfold maxLen; omega) (by omega) (by simp; omega) (W.heap.size + 1) (by simp) ?_; intro gg cap w1 hown1 hgrow hat hlt; have G2 : w1.frozen? ⟨bk, 5, none⟩ = false := (hgrow.frozen_far _ (by simp; omega) (Ne.symm hnv)).trans HF2; have G4 : w1.cell? ⟨bk, 5, none⟩ = some vp := (hgrow.cell_far _ (by simp; omega) (Ne.symm hnv)).trans HC2))
  all_goals
    go_end0
    have hgb : gg ≠ bk := by
      rcases hat with e | e
      · intro e2; exact hnv (by rw [e, e2])
      · omega
    have hsz1 := hgrow.size
    simp at hsz1
    have hws := hWs.out
    have hb1 : w1.heap[bk]? = some (bookObj (M₀ + 1) ot vp) := ((hgrow.block bk (by simp; omega) (Ne.symm hnv)).trans (Below.heap_alloc _ _ bk hbrW)).trans hbk
    refine ⟨rfl, .slice (some ⟨gg, 0, none⟩) (H.length + 1) cap, ⟨HH.out.base, ?_, ?_, by simp; omega, ?_⟩, ⟨?_, ?_, ?_, ?_, ?_⟩, ?_⟩
    · have t1 := heap_setCell_same w1 bk 5 _ 77 (.slice (some ⟨gg, 0, none⟩) (H.length + 1) cap) hb1
      simpa [bookObj] using t1
    · have := row_kept hown1 (w' := w1.setCell ⟨bk, 5, none⟩ (.slice (some ⟨gg, 0, none⟩) (H.length + 1) cap)) (fun k hk => heap_setCell_other _ ⟨bk, 5, none⟩ k _ (by simp [Value.ownBlock] at hk; subst hk; exact hgb))
      simpa [hcells_append, hcells] using this
    · intro x hx
      rcases List.mem_append.1 hx with hx | hx
      · exact HH.out.num x hx
      · simp at hx; subst hx; exact ⟨by simp; omega, hn⟩
    · exact hgrow.os.trans hWo.1
    · exact hgrow.tape.trans hWo.2.1
    · exact hgrow.output.trans hWo.2.2
    · simp [World.setCell]; omega
    · intro k hk hs
      have q1 : k ≠ bk := fun e => hs (.inl e)
      have q2 : some k ≠ vp.ownBlock := fun e => hs (.inr e.symm)
      exact (heap_setCell_other _ ⟨bk, 5, none⟩ k _ q1).trans (((hgrow.block k (by simp; omega) q2).trans (Below.heap_alloc _ _ k (by omega))).trans (hso k q1))
    · intro k hk
      simp [Value.ownBlock] at hk
      subst hk
      rcases hat with e | e
      · exact .inl e
      · right; omega

end Bo

end Go.Proofs.YtgokofomoachaaaGreatDoor

namespace Go.Proofs.YtgokofomoachaaaGreatDoor
set_option linter.unusedVariables false
set_option linter.unusedSimpArgs false
open Go.RowKit
open Bk

namespace Bo

variable {w : World}

/-- The text of a mark. -/
def mkS (n : Nat) : ByteArray := ⟨(35 :: Lib.itoa (n : Int)).toArray⟩

/-- A mark's cells. -/
def mkc (n : Nat) : List Value := [.int .u8 0, .string (mkS n), .slice none 0 0, .int .i64 0, .int .i64 0]

theorem infoObS : (Tryz.prog.info? 96).map (·.size) = some 5 := by kernel_rfl

/-- The table of digits is there, whatever is done from a block on. -/
def TabN (n₀ : Nat) (w : World) : Prop := ∀ W, Below n₀ w W → Tab W

theorem TabN.step {n₀ : Nat} {w' : World} (h : TabN n₀ w) (hB : Below n₀ w w') : TabN n₀ w' := fun W h2 => h W (hB.trans h2)

theorem TabN.out {n₀ : Nat} (h : TabN n₀ w) : Tab w := h w (Below.refl _ _)

set_option maxRecDepth 20000 in
set_option maxHeartbeats 1000000 in
theorem bword_in (n : Nat) (hn : n ≤ 400000) (w : World) (hT : Tab w) : Calls Tryz.prog 256 #[.int .i64 n] w fun e w' => e = .returned (.string (mkS n)) ∧ Below w.heap.size w w' := by
  have H0 := (Tryz.strconv_Itoa (n : Int) (by omega) (by omega) w hT).mono (R' := fun e w' => e = .returned (.string ⟨(Lib.itoa (n : Int)).toArray⟩) ∧ Below w.heap.size w w') (fun e w' hh => ⟨hh.1, by obtain ⟨k, os, e⟩ := hh.2; rw [e]; exact grow_below' w k os⟩)
  have hlen := Lib.itoa_length_le (n : Int) (by omega) (by omega)
  have hcat : (⟨#[35]⟩ : ByteArray) ++ (⟨(Lib.itoa (n : Int)).toArray⟩ : ByteArray) = mkS n := by
    unfold mkS
    apply ByteArray.ext
    simp
  have hs1 : (⟨#[35]⟩ : ByteArray).size = 1 := rfl
  have hs2 : (⟨(Lib.itoa (n : Int)).toArray⟩ : ByteArray).size ≤ 21 := by show (Lib.itoa (n : Int)).toArray.size ≤ 21; simpa using hlen
  generalize (⟨(Lib.itoa (n : Int)).toArray⟩ : ByteArray) = r at *
  generalize mkS n = M at *
  clear hlen
  go_enter Tryz.func256, Tryz.ntmps256
  go_wp2_with (first
    | (go_at_call 267; refine H0.mono ?_; clear H0; rintro e w2 ⟨rfl, hB⟩))
  go_ret
  refine ⟨?_, hB⟩
  first | rfl | (rw [← hcat]; rfl)

set_option maxRecDepth 20000 in
set_option maxHeartbeats 1000000 in
theorem markObj_in (n : Nat) (hn : n ≤ 400000) (w : World) (hT : Tab w) : Calls Tryz.prog 194 #[.int .i64 n] w fun e w' => e = .returned (.agg #[.int .u8 0, .string (mkS n), .slice none 0 0, .int .i64 0, .int .i64 0]) ∧ Below w.heap.size w w' := by
  have hA := below1 w (.cells #[.int .u8 0, .string ⟨#[]⟩, .slice none 0 0, .int .i64 0, .int .i64 0] 96)
  have hz := heap_alloc_new w (.cells #[.int .u8 0, .string ⟨#[]⟩, .slice none 0 0, .int .i64 0, .int .i64 0] 96)
  have H1 := bword_in n hn (w.alloc (.cells #[.int .u8 0, .string ⟨#[]⟩, .slice none 0 0, .int .i64 0, .int .i64 0] 96)) (hT.below hA)
  have hlt : w.heap.size < (w.alloc (.cells #[.int .u8 0, .string ⟨#[]⟩, .slice none 0 0, .int .i64 0, .int .i64 0] 96)).heap.size := by simp
  go_enter Tryz.func194, Tryz.ntmps194
  go_wp2_with (first
    | (go_at_call 256; refine H1.mono ?_; clear H1; rintro e w2 ⟨rfl, hB⟩; generalize w.alloc (.cells #[.int .u8 0, .string ⟨#[]⟩, .slice none 0 0, .int .i64 0, .int .i64 0] 96) = W1 at *; have hz2 := (hB.block _ hlt).trans hz; obtain ⟨⟨c0, c1, c2, c3, c4⟩, f0, f1, f2, f3, f4⟩ := cell_row5 hz2))
  (try simp only [Exit.inBlock, Exit.then])
  refine bodyPost_ret (results_cell_row (by rfl) _ _ w.heap.size 96 #[.int .u8 0, .string (mkS n), .slice none 0 0, .int .i64 0, .int .i64 0] (0, 0) _ (by rfl) (set5_row hz2) Tryz.underlying96 (by rfl) infoObS) (by rfl) ?_
  exact ⟨rfl, below_set5 (hA.trans (hB.mono (Nat.le_of_lt hlt))) (Nat.le_refl _) _ _ _ _ _⟩

set_option maxRecDepth 20000 in
set_option maxHeartbeats 1000000 in
theorem isObj_in (n : Nat) (hn : n ≤ 400000) (w : World) (hT : Tab w) : Calls Tryz.prog 214 #[.agg #[.int .u8 0, .string (mkS n), .slice none 0 0, .int .i64 0, .int .i64 0], .int .i64 n] w fun e w' => e = .returned (.bool true) ∧ Below w.heap.size w w' := by
  have hA := below1 w (.cells #[.int .u8 0, .string (mkS n), .slice none 0 0, .int .i64 0, .int .i64 0] 96)
  have hz := heap_alloc_new w (.cells #[.int .u8 0, .string (mkS n), .slice none 0 0, .int .i64 0, .int .i64 0] 96)
  have H1 := fun W h => bword_in n hn W (hT.below (w := W) h)
  generalize mkS n = M at *
  go_enter Tryz.func214, Tryz.ntmps214
  go_wp2
  generalize w.alloc (.cells #[.int .u8 0, .string M, .slice none 0 0, .int .i64 0, .int .i64 0] 96) = W1 at *
  have hlt : w.heap.size < W1.heap.size := (Array.getElem?_eq_some_iff.1 hz).1
  have F : ∀ W, Below W1.heap.size W1 W → W.cell? ⟨w.heap.size, 1, none⟩ = some (.string M) := fun W hB => (hB.cell (p := ⟨w.heap.size, 1, none⟩) hlt).trans (cell_row5 hz).1.2.1
  have c1 := F _ (Below.refl _ _)
  go_region_held3 (fun W => W.cell? ⟨w.heap.size, 1, none⟩ = some (.string M)) (first | exact F _ hC | exact F _ (below_drew hC) | exact F _ (Below.refl _ _) | exact F _ (below_drew (Below.refl _ _)) | go_keep)
    (first
    | (go_at_call 256; refine (H1 _ (below_drew hA)).mono ?_; rintro e w2 ⟨rfl, hB⟩; have hC : Below W1.heap.size W1 w2 := (below_drew (Below.refl _ _)).trans hB))
  all_goals
    go_wp2
    go_ret
    first
    | exact ⟨by simp, hA.trans (hC.mono hA.size)⟩
    | exact ⟨by simp, hA.trans ((below_drew hC).mono hA.size)⟩

end Bo

end Go.Proofs.YtgokofomoachaaaGreatDoor

namespace Go.Proofs.YtgokofomoachaaaGreatDoor
set_option linter.unusedVariables false
set_option linter.unusedSimpArgs false
open Go.RowKit
open Bk

namespace Bo


variable {M₀ n₀ bk : Nat} {ot vp : Value} {w : World} {H : List He}

/-- The cells of marks. -/
def mks (n : Nat) : Nat → List Value
  | 0 => []
  | j + 1 => mks n j ++ mkc n

theorem mks_len (n j : Nat) : (mks n j).length = j * 5 := by
  induction j with
  | zero => rfl
  | succ j ih => simp [mks, mkc, ih]; omega

theorem mks_get (n : Nat) : ∀ {j k : Nat}, k < j → (mks n j)[k * 5]? = some (.int .u8 0) ∧ (mks n j)[k * 5 + 1]? = some (.string (mkS n)) ∧ (mks n j)[k * 5 + 2]? = some (.slice none 0 0) ∧ (mks n j)[k * 5 + 3]? = some (.int .i64 0) ∧ (mks n j)[k * 5 + 4]? = some (.int .i64 0) := by
  intro j
  induction j with
  | zero => intro k h; omega
  | succ j ih =>
    intro k h
    by_cases hk : k < j
    · obtain ⟨a0, a1, a2, a3, a4⟩ := ih hk
      have hl := mks_len n j
      simp only [mks]
      exact ⟨by rw [List.getElem?_append_left (by omega)]; exact a0, by rw [List.getElem?_append_left (by omega)]; exact a1, by rw [List.getElem?_append_left (by omega)]; exact a2, by rw [List.getElem?_append_left (by omega)]; exact a3, by rw [List.getElem?_append_left (by omega)]; exact a4⟩
    · have e : k = j := by omega
      subst e
      have hl := mks_len n k
      simp only [mks]
      refine ⟨?_, ?_, ?_, ?_, ?_⟩
      all_goals
        rw [List.getElem?_append_right (by omega), hl]
        simp [mkc]

/-- A list that was kept; one that is filled. -/
def HA (n₀ : Nat) (w : World) (x : He) : Prop := x.long = .slice none 0 0 ∧ ∃ xs, w.ownsRow n₀ 96 5 x.l x.len xs

def HB (n₀ : Nat) (w : World) (x : He) : Prop := x.long = .slice none 0 0 ∧ w.ownsRow n₀ 96 5 x.l x.len (mks x.n x.len)

theorem HA.blocks {x : He} (h : HA n₀ w x) {k : Nat} (hk : x.mine k) : n₀ ≤ k ∧ k < w.heap.size ∧ x.l.ownBlock = some k ∧ ∃ cur, w.heap[k]? = some (.cells cur 96 (0, 0)) := by
  obtain ⟨h1, xs, h2⟩ := h
  rcases hk with e | e
  · exact ⟨(h2.lt k e).1, (h2.lt k e).2, e, row_obj h2 e⟩
  · rw [h1] at e; simp [Value.ownBlock] at e

theorem HB.ha {x : He} (h : HB n₀ w x) : HA n₀ w x := ⟨h.1, _, h.2⟩

theorem HA.kept {x : He} (h : HA n₀ w x) {w' : World} (hk : ∀ k, x.mine k → w'.heap[k]? = w.heap[k]?) : HA n₀ w' x := by
  obtain ⟨h1, xs, h2⟩ := h
  exact ⟨h1, xs, row_kept h2 (fun k e => hk k (.inl e))⟩

theorem HB.kept {x : He} (h : HB n₀ w x) {w' : World} (hk : ∀ k, x.mine k → w'.heap[k]? = w.heap[k]?) : HB n₀ w' x :=
  ⟨h.1, row_kept h.2 (fun k e => hk k (.inl e))⟩

/-- The book's own blocks are none of the lists'. -/
theorem IsBk.off (h : IsBk M₀ ot n₀ bk vp w H) {x : He} (hx : HA n₀ w x) {k : Nat} (hk : IsBk.own bk vp k) : ¬ x.mine k := by
  intro e
  obtain ⟨_, _, cur, t, h1, h2⟩ := h.blocks hk
  obtain ⟨_, _, _, cur', h3⟩ := hx.blocks e
  rw [h1] at h3
  rcases h2 with rfl | rfl <;> simp at h3

/-- Five cells written at a place. -/
def set5At (W : World) (g o : Nat) (x0 x1 x2 x3 x4 : Value) : World := ((((W.setCell ⟨g, o, none⟩ x0).setCell ⟨g, o + 1, none⟩ x1).setCell ⟨g, o + 2, none⟩ x2).setCell ⟨g, o + 3, none⟩ x3).setCell ⟨g, o + 4, none⟩ x4

theorem set5_list (a : List Value) (y0 y1 y2 y3 y4 x0 x1 x2 x3 x4 : Value) (ys : List Value) (o : Nat) (ho : o = a.length) : (((((a ++ y0 :: y1 :: y2 :: y3 :: y4 :: ys).set o x0).set (o + 1) x1).set (o + 2) x2).set (o + 3) x3).set (o + 4) x4 = a ++ x0 :: x1 :: x2 :: x3 :: x4 :: ys := by
  subst ho
  simp [List.set_append]

theorem stored5 {base n : Nat} {g c : Nat} {e : TypeId} {a ys : List Value} {y0 y1 y2 y3 y4 x0 x1 x2 x3 x4 : Value} {o : Nat} (ho : o = a.length) (h : w.ownsRow base e 5 (.slice (some ⟨g, 0, none⟩) n c) n (a ++ y0 :: y1 :: y2 :: y3 :: y4 :: ys)) :
    (set5At w g o x0 x1 x2 x3 x4).ownsRow base e 5 (.slice (some ⟨g, 0, none⟩) n c) n (a ++ x0 :: x1 :: x2 :: x3 :: x4 :: ys) ∧ KStep (fun k => Value.ownBlock (.slice (some ⟨g, 0, none⟩) n c) = some k) w (set5At w g o x0 x1 x2 x3 x4) := by
  have s0 := h.stored o x0
  have s1 := s0.1.stored (o + 1) x1
  have s2 := s1.1.stored (o + 2) x2
  have s3 := s2.1.stored (o + 3) x3
  have s4 := s3.1.stored (o + 4) x4
  refine ⟨?_, ?_⟩
  · have := s4.1
    rw [set5_list _ _ _ _ _ _ _ _ _ _ _ _ _ ho] at this
    exact this
  · exact ((((KStep.of_grown s0.2 (fun k e => by simpa [Value.ownBlock] using e)).trans (KStep.of_grown s1.2 (fun k e => by simpa [Value.ownBlock] using e))).trans (KStep.of_grown s2.2 (fun k e => by simpa [Value.ownBlock] using e))).trans (KStep.of_grown s3.2 (fun k e => by simpa [Value.ownBlock] using e))).trans (KStep.of_grown s4.2 (fun k e => by simpa [Value.ownBlock] using e))

set_option maxRecDepth 20000 in
set_option maxHeartbeats 1000000 in
theorem fill_obj (h : IsBk M₀ ot n₀ bk vp w H) (hA : ∀ x ∈ H, HA n₀ w x) (hP : Apt H) (hT : TabN n₀ w) : Calls Tryz.prog 84 #[.pointer (some ⟨bk, 0, none⟩)] w fun e w' => e = .returned (.tuple #[]) ∧
    IsBk M₀ ot n₀ bk vp w' H ∧ (∀ x ∈ H, HB n₀ w' x) ∧ KStep (mineH H) w w' := by
  have HH : Hid (IsBk M₀ ot n₀ bk vp w H) := h
  have hle := h.le
  obtain ⟨p, c, hvp, _, _, hp⟩ := row_formV h.row
  subst hvp
  have bkept : ∀ {wr}, KStep (mineH H) w wr → IsBk M₀ ot n₀ bk (.slice p H.length c) wr H := fun hK => h.kept (fun k hk => hK.block k (h.blocks hk).2.1 (by rintro ⟨x, hx, e⟩; exact h.off (hA x hx) hk e))
  clear h
  go_enter Tryz.func84, Tryz.ntmps84
  go_wp2
  go_loopw [2] (fun k wr => ∃ (l r : List He), H = l ++ r ∧ k = .int .i64 l.length ∧ (∀ x ∈ l, HB n₀ wr x) ∧ (∀ x ∈ r, HA n₀ wr x) ∧ KStep (mineH H) w wr) (fun k _ => H.length - (intOf k).toNat)
  case atStart => exact ⟨[], H, rfl, rfl, by simp, hA, KStep.refl _ _⟩
  case round =>
    obtain ⟨l, r, hH, rfl, hl, hr, hK⟩ := hrel
    rename World => wo
    have h' := bkept hK
    have hc := h'.c2
    cases r with
    | nil =>
      have hH' : H = l := by simpa using hH
      have hq : ¬ ((l.length : Int) < (H.length : Int)) := by rw [hH']; omega
      have E1 : Hid _ := hH'
      clear hH hH' hp
      go_wp2
      go_end0
      exact ⟨rfl, h', by rw [E1.out]; exact hl, hK⟩
    | cons x r =>
      have hlH : l.length < H.length := by rw [hH]; simp
      obtain ⟨g, rfl⟩ := hp (by omega)
      have hxm : x ∈ H := by rw [hH]; simp
      obtain ⟨e0, e1, e2⟩ := h'.elem (j := l.length) (x := x) (by rw [hH]; simp)
      obtain ⟨b1, b2⟩ := h'.num x hxm
      obtain ⟨hx1, xs, hx2⟩ := hr x (by simp)
      obtain ⟨px, cx, hxl, _, _, _⟩ := row_formV hx2
      have HL : Hid _ := hxl
      have HL2 : Hid _ := hx1
      rw [hxl] at e0
      rw [hx1] at e1
      have HR : Hid (H = l ++ x :: r) := hH
      clear hH hxl hx1
      go_wp2
      obtain ⟨W0, hW0⟩ : ∃ W0, wo.alloc (.cells #[.slice px x.len cx, .slice none 0 0, .int .i64 x.n] 187) = W0 := ⟨_, rfl⟩
      have hBW : Below wo.heap.size wo W0 := hW0 ▸ (Below.refl _ _).alloc (Nat.le_refl _) _
      have hn0 : W0.heap[wo.heap.size]? = some (.cells #[.slice px x.len cx, .slice none 0 0, .int .i64 x.n] 187 (0, 0)) := hW0 ▸ heap_alloc_new wo _
      have hn1 : wo.heap.size < W0.heap.size := (Array.getElem?_eq_some_iff.1 hn0).1
      rw [hW0]
      have hrow0 : W0.ownsRow n₀ 96 5 (.slice px x.len cx) x.len xs := by have := row_kept hx2 (fun k hk => hBW.block k (hx2.lt k hk).2); rwa [HL.out] at this
      have hblt : ∀ k, Value.ownBlock (.slice px x.len cx) = some k → k < wo.heap.size := fun k hk => (hx2.lt k (by rw [HL.out]; exact hk)).2
      have HWr : Hid (KStep (mineH H) w wo) := hK
      have HBW : Hid (Below wo.heap.size wo W0) := hBW
      have Hl : Hid (∀ x ∈ l, HB n₀ wo x) := hl
      have Hr : Hid (∀ y ∈ x :: r, HA n₀ wo y) := hr
      have TR : ∀ wr, KStep (fun k => Value.ownBlock (.slice px x.len cx) = some k) W0 wr → Tab wr.drew := fun wr hKi => by
        have hb0 : n₀ ≤ w.heap.size := Nat.le_trans HH.out.base (Nat.le_of_lt HH.out.lt)
        have s1 : Below n₀ w wo := hK.below (fun k ⟨y, hy, e⟩ => ((hA y hy).blocks e).1) hb0
        have s2 : Below n₀ wo W0 := hBW.mono (by have := s1.size; omega)
        have s3 : Below n₀ W0 wr := hKi.below (fun k e => (hx2.lt k (by rw [HL.out]; exact e)).1) (by have := s1.size; have := s2.size; omega)
        exact hT _ (below_drewV ((s1.trans s2).trans s3))
      clear hW0 hx2 e0 e1 e2 hBW hc hK hl hr h' hA bkept
      go_loopw [4] (fun k wr => ∃ (j : Nat) (ys : List Value), k = .int .i64 j ∧ j ≤ x.len ∧ wr.ownsRow n₀ 96 5 (.slice px x.len cx) x.len (mks x.n j ++ ys) ∧ KStep (fun k => Value.ownBlock (.slice px x.len cx) = some k) W0 wr) (fun k _ => x.len - (intOf k).toNat)
      case atStart => exact ⟨0, xs, rfl, by omega, hrow0, KStep.refl _ _⟩
      case round =>
        obtain ⟨j, ys, rfl, hj, hrow, hKi⟩ := hrel
        have hbi : wr.heap[wo.heap.size]? = some (.cells #[.slice px x.len cx, .slice none 0 0, .int .i64 x.n] 187 (0, 0)) := (hKi.block _ hn1 (fun e => by have := hblt _ e; omega)).trans hn0
        have d0 : wr.cell? ⟨wo.heap.size, 0, none⟩ = some (.slice px x.len cx) := by rw [cell_of_row wr _ 0 _ _ _ hbi]; rfl
        have d2 : wr.cell? ⟨wo.heap.size, 2, none⟩ = some (.int .i64 x.n) := by rw [cell_of_row wr _ 2 _ _ _ hbi]; rfl
        by_cases hjn : j < x.len
        · have hlen : ys.length = x.len * 5 - j * 5 := by have := hrow.1; rw [List.length_append, mks_len] at this; omega
          obtain ⟨y0, y1, y2, y3, y4, ys', rfl⟩ : ∃ y0 y1 y2 y3 y4 ys', ys = y0 :: y1 :: y2 :: y3 :: y4 :: ys' := by
            match ys, hlen with
            | y0 :: y1 :: y2 :: y3 :: y4 :: ys', _ => exact ⟨y0, y1, y2, y3, y4, ys', rfl⟩
            | [], h => simp at h; omega
            | [_], h => simp at h; omega
            | [_, _], h => simp at h; omega
            | [_, _, _], h => simp at h; omega
            | [_, _, _, _], h => simp at h; omega
          obtain ⟨pq, cq, hpq, _, _, hps⟩ := row_formV hrow
          obtain ⟨gx, hgx⟩ := hps (by omega)
          simp at hpq
          obtain ⟨rfl, rfl⟩ := hpq
          subst hgx
          have hgl : gx < wo.heap.size := hblt gx rfl
          have a1 := markObj_in x.n b1
          have hne : wo.heap.size ≠ gx := by omega
          have hml := mks_len x.n j
          have k0 : wr.cell? ⟨gx, j * 5, none⟩ = some y0 := by rw [hrow.cellAt _ (by omega), List.getElem?_append_right (by omega), hml]; simp
          have k1 : wr.cell? ⟨gx, j * 5 + 1, none⟩ = some y1 := by rw [hrow.cellAt _ (by omega), List.getElem?_append_right (by omega), hml]; simp
          have k2 : wr.cell? ⟨gx, j * 5 + 2, none⟩ = some y2 := by rw [hrow.cellAt _ (by omega), List.getElem?_append_right (by omega), hml]; simp
          have k3 : wr.cell? ⟨gx, j * 5 + 3, none⟩ = some y3 := by rw [hrow.cellAt _ (by omega), List.getElem?_append_right (by omega), hml]; simp
          have k4 : wr.cell? ⟨gx, j * 5 + 4, none⟩ = some y4 := by rw [hrow.cellAt _ (by omega), List.getElem?_append_right (by omega), hml]; simp
          obtain ⟨cur, hcur⟩ := row_obj hrow (k := gx) rfl
          have f0 : wr.frozen? ⟨gx, j * 5, none⟩ = false := frozen_of_row wr gx _ _ _ hcur
          have f1 : wr.frozen? ⟨gx, j * 5 + 1, none⟩ = false := frozen_of_row wr gx _ _ _ hcur
          have f2 : wr.frozen? ⟨gx, j * 5 + 2, none⟩ = false := frozen_of_row wr gx _ _ _ hcur
          have f3 : wr.frozen? ⟨gx, j * 5 + 3, none⟩ = false := frozen_of_row wr gx _ _ _ hcur
          have f4 : wr.frozen? ⟨gx, j * 5 + 4, none⟩ = false := frozen_of_row wr gx _ _ _ hcur
          have HRow : Hid (wr.ownsRow n₀ 96 5 (.slice (some ⟨gx, 0, none⟩) x.len cx) x.len (mks x.n j ++ y0 :: y1 :: y2 :: y3 :: y4 :: ys')) := hrow
          clear hlen hrow hcur hbi
          have hjq : (j : Int) < (x.len : Int) := by omega
          have hgw : gx < wr.heap.size := World.block_lt_of_cell? wr _ k0
          have how : wo.heap.size < wr.heap.size := World.block_lt_of_cell? wr _ d0
          have F : ∀ W, Below wr.heap.size wr W → (W.cell? ⟨wo.heap.size, 0, none⟩ = some (.slice (some ⟨gx, 0, none⟩) x.len cx) ∧ W.cell? ⟨wo.heap.size, 2, none⟩ = some (.int .i64 x.n)) ∧ (W.cell? ⟨gx, j * 5, none⟩ = some y0 ∧ W.cell? ⟨gx, j * 5 + 1, none⟩ = some y1 ∧ W.cell? ⟨gx, j * 5 + 2, none⟩ = some y2 ∧ W.cell? ⟨gx, j * 5 + 3, none⟩ = some y3 ∧ W.cell? ⟨gx, j * 5 + 4, none⟩ = some y4) ∧ (W.frozen? ⟨gx, j * 5, none⟩ = false ∧ W.frozen? ⟨gx, j * 5 + 1, none⟩ = false ∧ W.frozen? ⟨gx, j * 5 + 2, none⟩ = false ∧ W.frozen? ⟨gx, j * 5 + 3, none⟩ = false ∧ W.frozen? ⟨gx, j * 5 + 4, none⟩ = false) := fun W hB =>
            ⟨⟨(hB.cell (p := ⟨wo.heap.size, 0, none⟩) how).trans d0, (hB.cell (p := ⟨wo.heap.size, 2, none⟩) how).trans d2⟩,
              ⟨(hB.cell (p := ⟨gx, j * 5, none⟩) hgw).trans k0, (hB.cell (p := ⟨gx, j * 5 + 1, none⟩) hgw).trans k1, (hB.cell (p := ⟨gx, j * 5 + 2, none⟩) hgw).trans k2, (hB.cell (p := ⟨gx, j * 5 + 3, none⟩) hgw).trans k3, (hB.cell (p := ⟨gx, j * 5 + 4, none⟩) hgw).trans k4⟩,
              ⟨(World.frozen?_of_block (a := ⟨gx, j * 5, none⟩) (hB.block gx hgw)).trans f0, (World.frozen?_of_block (a := ⟨gx, j * 5 + 1, none⟩) (hB.block gx hgw)).trans f1, (World.frozen?_of_block (a := ⟨gx, j * 5 + 2, none⟩) (hB.block gx hgw)).trans f2, (World.frozen?_of_block (a := ⟨gx, j * 5 + 3, none⟩) (hB.block gx hgw)).trans f3, (World.frozen?_of_block (a := ⟨gx, j * 5 + 4, none⟩) (hB.block gx hgw)).trans f4⟩⟩
          have hTr : Tab wr.drew := TR wr hKi
          go_wp2_with (first | fail)
          go_region_law (first
            | (go_simp; go_at_call 194; (with_reducible refine (a1 _ hTr).mono ?_); rintro e w5 ⟨rfl, hB5⟩; have hB6 : Below wr.heap.size wr w5 := (below_drewV (Below.refl wr.heap.size wr)).trans hB5; obtain ⟨⟨p0, p1⟩, ⟨q0, q1, q2, q3, q4⟩, ⟨r0, r1, r2, r3, r4⟩⟩ := F w5 hB6))
          all_goals
            go_wp2
            go_roundw
            case rel =>
              have hrow5 := row_belowV HRow.out hB6
              have hst := stored5 (x0 := .int .u8 0) (x1 := .string (mkS x.n)) (x2 := .slice none 0 0) (x3 := .int .i64 0) (x4 := .int .i64 0) (o := j * 5) hml.symm hrow5
              refine ⟨j + 1, ys', by simp, by omega, ?_, (hKi.trans ((KStep.of_below hB6).trans hst.2))⟩
              have e9 : mks x.n (j + 1) ++ ys' = mks x.n j ++ .int .u8 0 :: .string (mkS x.n) :: .slice none 0 0 :: .int .i64 0 :: .int .i64 0 :: ys' := by simp [mks, mkc]
              rw [e9]
              exact hst.1
            case measure => simp [intOf]; omega
        · have hq : ¬ ((j : Int) < (x.len : Int)) := by omega
          clear hrow0
          go_wp2
          go_roundw
          case rel =>
            have e1 : (((l ++ [x]).length : Nat) : Int) = l.length + 1 := by simp
            have hj' : j = x.len := by omega
            have hys : ys = [] := by have := hrow.1; rw [List.length_append, mks_len] at this; exact List.length_eq_zero_iff.1 (by omega)
            subst hys
            subst hj'
            have hlw := HL.out
            have hKx : KStep (fun k => x.l.ownBlock = some k) wo wr := (KStep.of_below HBW.out).trans (by rw [hlw]; exact hKi)
            have hap := hP
            rw [HR.out] at hap
            obtain ⟨_, hap1, hap2⟩ := List.pairwise_append.1 hap
            refine ⟨l ++ [x], r, by have := HR.out; simpa using this, by rw [e1], ?_, ?_, ?_⟩
            · intro y hy
              rcases List.mem_append.1 hy with hy | hy
              · have hy' := Hl.out y hy
                refine hy'.kept (fun k hk => hKx.block k (hy'.ha.blocks hk).2.1 (fun e => ?_))
                exact hap2 y hy x (by simp) k hk (.inl e)
              · simp at hy; subst hy
                exact ⟨HL2.out, by rw [hlw]; simpa using hrow⟩
            · intro y hy
              have hy' := Hr.out y (by simp [hy])
              refine hy'.kept (fun k hk => hKx.block k (hy'.blocks hk).2.1 (fun e => ?_))
              exact (List.pairwise_cons.1 hap1).1 y hy k (.inl e) hk
            · exact HWr.out.trans (hKx.mono (fun k e => ⟨x, by rw [HR.out]; simp, .inl e⟩))
          case measure => simp [intOf]; omega

end Bo

end Go.Proofs.YtgokofomoachaaaGreatDoor

namespace Go.Proofs.YtgokofomoachaaaGreatDoor
set_option linter.unusedVariables false
set_option linter.unusedSimpArgs false
open Go.RowKit
open Bk

namespace Bo



variable {M₀ n₀ bk : Nat} {ot vp : Value} {w : World} {H : List He}

/-- A list that was grown. -/
structure HC (n₀ : Nat) (w : World) (x : He) : Prop where
  row : w.ownsRow n₀ 96 5 x.long (x.len + 40) (mks x.n (x.len + 40))
  form : ∃ p c, x.l = .slice p x.len c ∧ (0 < x.len → ∃ g, p = some ⟨g, 0, none⟩)
  cells : ∀ g, x.l.ownBlock = some g → ∀ k, k < x.len * 5 → w.cell? ⟨g, k, none⟩ = (mks x.n x.len)[k]?
  blk : ∀ k, x.l.ownBlock = some k → n₀ ≤ k ∧ k < w.heap.size ∧ ∃ cur, w.heap[k]? = some (.cells cur 96 (0, 0))

theorem HC.blocks {x : He} (h : HC n₀ w x) {k : Nat} (hk : x.mine k) : n₀ ≤ k ∧ k < w.heap.size ∧ ∃ cur, w.heap[k]? = some (.cells cur 96 (0, 0)) := by
  rcases hk with e | e
  · exact h.blk k e
  · exact ⟨(h.row.lt k e).1, (h.row.lt k e).2, row_obj h.row e⟩

theorem HC.kept {x : He} (h : HC n₀ w x) {w' : World} (hk : ∀ k, x.mine k → w'.heap[k]? = w.heap[k]?) : HC n₀ w' x := by
  refine ⟨row_kept h.row (fun k e => hk k (.inr e)), h.form, fun g e k hl => (World.cell?_of_block (a := ⟨g, k, none⟩) (hk g (.inl e))).trans (h.cells g e k hl), fun k e => ?_⟩
  obtain ⟨h1, h2, cur, h3⟩ := h.blk k e
  have h4 := (hk k (.inl e)).trans h3
  exact ⟨h1, (Array.getElem?_eq_some_iff.1 h4).1, cur, h4⟩

/-- While a list grows: what was it stays; what it is grown to lies there or in a new block. -/
structure Grn (v : Value) (n : Nat) (m : Nat) (W0 wr : World) (long : Value) : Prop where
  step : KStep (fun k => v.ownBlock = some k) W0 wr
  where_ : long.ownBlock = v.ownBlock ∨ ∀ q, long.ownBlock = some q → W0.heap.size ≤ q
  cells : ∀ g, v.ownBlock = some g → g < W0.heap.size ∧ (∀ k, k < n * 5 → wr.cell? ⟨g, k, none⟩ = (mks m n)[k]?) ∧ ∃ cur, wr.heap[g]? = some (.cells cur 96 (0, 0))

theorem mks_some {m n k : Nat} (h : k < n * 5) : ∃ u, (mks m n)[k]? = some u := ⟨(mks m n)[k]'(by rw [mks_len]; exact h), List.getElem?_eq_getElem _⟩

theorem mks_less {m n k : Nat} (h : k < n * 5) : ∀ d, (mks m (n + d))[k]? = (mks m n)[k]? := by
  intro d
  induction d with
  | zero => rfl
  | succ d ih =>
    have hl := mks_len m (n + d)
    rw [← Nat.add_assoc]
    simp only [mks]
    rw [List.getElem?_append_left (by omega)]
    exact ih

theorem mks_less' {m n N k : Nat} (h : k < n * 5) (hN : n ≤ N) : (mks m N)[k]? = (mks m n)[k]? := by
  have := mks_less (m := m) h (N - n)
  rwa [show n + (N - n) = N by omega] at this

theorem mrow_cell {g n N m k : Nat} {base : Nat} {v : Value} (h : w.ownsRow base 96 5 v N (mks m N)) (e : v.ownBlock = some g) (hk : k < n * 5) (hN : n ≤ N) : w.cell? ⟨g, k, none⟩ = (mks m n)[k]? := by
  rw [← mks_less' hk hN]
  obtain ⟨u, hu⟩ := mks_some (m := m) (n := N) (k := k) (by omega)
  have := h.cells e k u hu
  rw [addr_add] at this
  rw [this, hu]

theorem Grn.first {v : Value} {n : Nat} {m : Nat} {W0 : World} (h : W0.ownsRow n₀ 96 5 v n (mks m n)) : Grn v n m W0 W0 v := by
  refine ⟨KStep.refl _ _, .inl rfl, fun g e => ⟨(h.lt g e).2, fun k hk => ?_, row_obj h e⟩⟩
  exact mrow_cell h e hk (Nat.le_refl _)

theorem Grn.below {v : Value} {n : Nat} {m : Nat} {W0 wr w5 : World} {long : Value} (h : Grn v n m W0 wr long) (hB : Below wr.heap.size wr w5) : Grn v n m W0 w5 long := by
  have hsz := h.step.size
  refine ⟨h.step.trans (KStep.of_below hB), h.where_, fun g e => ?_⟩
  obtain ⟨q1, q2, q3⟩ := h.cells g e
  have hb := hB.block g (by omega)
  exact ⟨q1, fun k hk => (World.cell?_of_block (a := ⟨g, k, none⟩) hb).trans (q2 k hk), by rw [hb]; exact q3⟩

theorem Grn.spare {p : Option Addr} {n c gl N cl : Nat} {m : Nat} {W0 wr w4 : World} {o : Obj} (h : Grn (.slice p n c) n m W0 wr (.slice (some ⟨gl, 0, none⟩) N cl)) (hown : w4.ownsRow n₀ 96 5 (.slice (some ⟨gl, 0, none⟩) (N + 1) cl) (N + 1) (mks m (N + 1))) (hN : n ≤ N) (hg : (wr.alloc o).grownBy w4 (some gl)) :
    Grn (.slice p n c) n m W0 w4 (.slice (some ⟨gl, 0, none⟩) (N + 1) cl) := by
  have hsz := h.step.size
  have hsp : ∀ k, some gl = some k → Value.ownBlock (.slice p n c) = some k ∨ W0.heap.size ≤ k := by
    intro k e
    rcases h.where_ with e2 | e2
    · left; rw [← e2]; exact e
    · right; exact e2 k e
  refine ⟨h.step.trans' (T := fun k => some gl = some k) ((KStep.of_below ((Below.refl _ _).alloc (Nat.le_refl _) _)).trans (KStep.of_grown hg (fun k e => e))) hsp, ?_, ?_⟩
  · rcases h.where_ with e | e
    · exact .inl e
    · exact .inr e
  · intro q e
    obtain ⟨q1, q2, q3⟩ := h.cells q e
    by_cases hq : q = gl
    · subst hq
      refine ⟨q1, fun k hk => ?_, row_obj hown rfl⟩
      exact mrow_cell hown rfl hk (by omega)
    · have hb : w4.heap[q]? = wr.heap[q]? := (hg.block q (by simp; omega) (by simpa using hq)).trans (Below.heap_alloc _ _ q (by omega))
      exact ⟨q1, fun k hk => (World.cell?_of_block (a := ⟨q, k, none⟩) hb).trans (q2 k hk), by rw [hb]; exact q3⟩

theorem Grn.grow {v long v4 : Value} {n N : Nat} {m : Nat} {W0 wr w4 : World} {o : Obj} (h : Grn v n m W0 wr long) (hown : w4.ownsRow (wr.alloc o).heap.size 96 5 v4 N (mks m N)) (hg : (wr.alloc o).grownBy w4 none) :
    Grn v n m W0 w4 v4 := by
  have hsz := h.step.size
  refine ⟨(h.step.alloc o).trans (KStep.of_grown hg (fun k e => by simp at e)), .inr ?_, ?_⟩
  · intro q e
    have := (hown.lt q e).1
    simp at this; omega
  · intro q e
    obtain ⟨q1, q2, q3⟩ := h.cells q e
    have hb : w4.heap[q]? = wr.heap[q]? := (hg.block q (by simp; omega) (by simp)).trans (Below.heap_alloc _ _ q (by omega))
    exact ⟨q1, fun k hk => (World.cell?_of_block (a := ⟨q, k, none⟩) hb).trans (q2 k hk), by rw [hb]; exact q3⟩

section
variable {W0 wo wr : World} {g N c : Nat} {l r : List He} {x : He} {v long : Value}

/-- The book where the first list has grown. -/
theorem grown_book (Hb : IsBk M₀ ot n₀ bk (.slice (some ⟨g, 0, none⟩) N c) wo (l ++ x :: r)) (hx : HB n₀ wo x) (HBW : Below wo.heap.size wo W0) (HL : x.l = v) (HG : Grn v x.len x.n W0 wr long) : IsBk M₀ ot n₀ bk (.slice (some ⟨g, 0, none⟩) N c) wr (l ++ x :: r) ∧ KStep (fun k => x.l.ownBlock = some k) wo wr := by
  have kx : KStep (fun k => x.l.ownBlock = some k) wo wr := (KStep.of_below HBW).trans (by rw [HL]; exact HG.step)
  exact ⟨Hb.kept (fun k hk => kx.block k (Hb.blocks hk).2.1 (fun e => Hb.off hx.ha hk (.inl e))), kx⟩

theorem book_cell (h : IsBk M₀ ot n₀ bk (.slice (some ⟨g, 0, none⟩) N c) wr (l ++ x :: r)) : wr.frozen? ⟨g, l.length * 3 + 1, none⟩ = false ∧ wr.cell? ⟨g, l.length * 3 + 1, none⟩ = some x.long := by
  have hN : N = (l ++ x :: r).length := by
    obtain ⟨p', c', e, _⟩ := row_formV h.row
    simp at e; simp; omega
  subst hN
  obtain ⟨cur, hc⟩ := row_obj h.row (k := g) rfl
  exact ⟨frozen_of_row wr g _ _ _ hc, (h.elem (j := l.length) (x := x) (by simp)).2.1⟩

theorem grown_round (Hb : IsBk M₀ ot n₀ bk (.slice (some ⟨g, 0, none⟩) N c) wo (l ++ x :: r)) (Hl : ∀ x ∈ l, HC n₀ wo x) (Hr : ∀ y ∈ x :: r, HB n₀ wo y) (hap : Apt (l ++ x :: r))
    (HK : KStep (fun k => mineH H k ∨ Value.ownBlock (.slice (some ⟨g, 0, none⟩) N c) = some k) w wo) (Hm : ∀ k, mineH (l ++ x :: r) k → mineH H k ∨ w.heap.size ≤ k)
    (HBW : Below wo.heap.size wo W0) (HL : x.l = v) (HG : Grn v x.len x.n W0 wr long) (HRow : wr.ownsRow n₀ 96 5 long (x.len + 40) (mks x.n (x.len + 40))) :
    IsBk M₀ ot n₀ bk (.slice (some ⟨g, 0, none⟩) N c) (wr.setCell ⟨g, l.length * 3 + 1, none⟩ long) (l ++ { x with long := long } :: r) ∧
    (∀ y ∈ l ++ [{ x with long := long }], HC n₀ (wr.setCell ⟨g, l.length * 3 + 1, none⟩ long) y) ∧ (∀ y ∈ r, HB n₀ (wr.setCell ⟨g, l.length * 3 + 1, none⟩ long) y) ∧
    Apt (l ++ { x with long := long } :: r) ∧ KStep (fun k => mineH H k ∨ Value.ownBlock (.slice (some ⟨g, 0, none⟩) N c) = some k) w (wr.setCell ⟨g, l.length * 3 + 1, none⟩ long) ∧
    (∀ k, mineH (l ++ { x with long := long } :: r) k → mineH H k ∨ w.heap.size ≤ k) := by
  have hx := Hr x (by simp)
  obtain ⟨HbW, kx⟩ := grown_book Hb hx HBW HL HG
  have hso : ∀ q, q ≠ g → (wr.setCell ⟨g, l.length * 3 + 1, none⟩ long).heap[q]? = wr.heap[q]? := fun q hq => heap_setCell_other wr ⟨g, l.length * 3 + 1, none⟩ q long hq
  obtain ⟨cg, hcg⟩ := row_obj Hb.row (k := g) rfl
  obtain ⟨cgw, hcgw⟩ := row_obj HbW.row (k := g) rfl
  obtain ⟨hl1, hap1, hlx⟩ := List.pairwise_append.1 hap
  obtain ⟨hxr, hr1⟩ := List.pairwise_cons.1 hap1
  have hsz0 := HBW.size
  have hsz1 := kx.size
  have hszw := HK.size
  have keepY : ∀ k, k < wo.heap.size → (∃ cur, wo.heap[k]? = some (.cells cur 96 (0, 0))) → x.l.ownBlock ≠ some k → (wr.setCell ⟨g, l.length * 3 + 1, none⟩ long).heap[k]? = wo.heap[k]? := by
    rintro k hk ⟨cur, hcur⟩ hne
    refine (hso k ?_).trans (kx.block k hk hne)
    rintro rfl; rw [hcg] at hcur; simp at hcur
  have hmx : ∀ k, He.mine { x with long := long } k → x.mine k ∨ wo.heap.size ≤ k := by
    rintro k (e | e)
    · exact .inl (.inl e)
    · rcases HG.where_ with e2 | e2
      · left; left; rw [HL, ← e2]; exact e
      · right; have := e2 k e; omega
  have hlk : ∀ y ∈ l, ∀ k, y.mine k → k < wo.heap.size := fun y hy k hk => ((Hl y hy).blocks hk).2.1
  have hrk : ∀ y ∈ r, ∀ k, y.mine k → k < wo.heap.size := fun y hy k hk => ((Hr y (by simp [hy])).ha.blocks hk).2.1
  have hN : (l ++ x :: r).length = N := by
    obtain ⟨p', c', e, _⟩ := row_formV HbW.row
    simp at e; simp; omega
  have hN' : (l ++ { x with long := long } :: r).length = N := by rw [← hN]; simp
  have hrow := HbW.row
  rw [hN] at hrow
  have hst := hrow.stored (l.length * 3 + 1) long
  rw [hcells_set] at hst
  refine ⟨⟨HbW.base, ?_, ?_, ?_, ?_⟩, ?_, ?_, ?_, ?_, ?_⟩
  · have : bk ≠ g := fun e => HbW.nvp (by rw [e]; rfl)
    have h2 := (hso bk this).trans HbW.blk
    simpa using h2
  · rw [hN']; exact hst.1
  · have := HbW.le; simpa using this
  · intro y hy
    rcases List.mem_append.1 hy with hy | hy
    · exact HbW.num y (by simp [hy])
    · rcases List.mem_cons.1 hy with rfl | hy
      · exact HbW.num x (by simp)
      · exact HbW.num y (by simp [hy])
  · intro y hy
    rcases List.mem_append.1 hy with hy | hy
    · refine (Hl y hy).kept (fun k hk => keepY k (hlk y hy k hk) ((Hl y hy).blocks hk).2.2 (fun e => hlx y hy x (by simp) k hk (.inl e)))
    · simp at hy; subst hy
      refine ⟨?_, ?_, ?_, ?_⟩
      · refine row_kept HRow (fun k hk => hso k ?_)
        rintro rfl
        obtain ⟨cur, hcur⟩ := row_obj HRow hk
        rw [hcgw] at hcur; simp at hcur
      · rcases hx.2.2 with ⟨e, e2⟩ | ⟨g', c', _, e, _⟩
        · exact ⟨none, 0, by rw [e, e2], fun h => by dsimp only at h; omega⟩
        · exact ⟨_, _, e, fun _ => ⟨g', rfl⟩⟩
      · intro q e k hk
        obtain ⟨_, q2, cur, q3⟩ := HG.cells q (by rw [← HL]; exact e)
        refine (World.cell?_of_block (a := ⟨q, k, none⟩) (hso q ?_)).trans (q2 k hk)
        rintro rfl; rw [hcgw] at q3; simp at q3
      · intro k e
        obtain ⟨_, _, cur, q3⟩ := HG.cells k (by rw [← HL]; exact e)
        have hkg : k ≠ g := by rintro rfl; rw [hcgw] at q3; simp at q3
        have h4 := (hso k hkg).trans q3
        exact ⟨(hx.2.lt k e).1, (Array.getElem?_eq_some_iff.1 h4).1, cur, h4⟩
  · intro y hy
    have hy' := Hr y (by simp [hy])
    exact hy'.kept (fun k hk => keepY k (hrk y hy k hk) (hy'.ha.blocks hk).2.2.2 (fun e => hxr y hy k (.inl e) hk))
  · refine List.pairwise_append.2 ⟨hl1, List.pairwise_cons.2 ⟨?_, hr1⟩, ?_⟩
    · intro y hy k hk hk2
      rcases hmx k hk with e | e
      · exact hxr y hy k e hk2
      · have := hrk y hy k hk2; omega
    · intro y hy z hz k hk hk2
      rcases List.mem_cons.1 hz with rfl | hz
      · rcases hmx k hk2 with e | e
        · exact hlx y hy x (by simp) k hk e
        · have := hlk y hy k hk; omega
      · exact hlx y hy z (by simp [hz]) k hk hk2
  · refine (HK.trans' kx (fun k e => ?_)).trans (KStep.of_grown hst.2 (fun k e => by right; exact e))
    rcases Hm k ⟨x, by simp, .inl e⟩ with h | h
    · exact .inl (.inl h)
    · exact .inr h
  · rintro k ⟨y, hy, hk⟩
    rcases List.mem_append.1 hy with hy | hy
    · exact Hm k ⟨y, by simp [hy], hk⟩
    · rcases List.mem_cons.1 hy with rfl | hy
      · rcases hmx k hk with e | e
        · exact Hm k ⟨x, by simp, e⟩
        · right; omega
      · exact Hm k ⟨y, by simp [hy], hk⟩
end

set_option maxRecDepth 20000 in
set_option maxHeartbeats 1000000 in
theorem grow_obj (h : IsBk M₀ ot n₀ bk vp w H) (hA : ∀ x ∈ H, HB n₀ w x) (hP : Apt H) (hT : TabN n₀ w) : Calls Tryz.prog 104 #[.pointer (some ⟨bk, 0, none⟩)] w fun e w' => e = .returned (.tuple #[]) ∧
    ∃ H', IsBk M₀ ot n₀ bk vp w' H' ∧ (∀ x ∈ H', HC n₀ w' x) ∧ KStep (fun k => mineH H k ∨ vp.ownBlock = some k) w w' := by
  obtain ⟨N, hN⟩ : ∃ N, H.length = N := ⟨_, rfl⟩
  have hle := h.le
  obtain ⟨p, c, hvp, _, _, hp⟩ := row_formV h.row
  rw [hN] at hvp hp hle
  subst hvp
  have HH : Hid (IsBk M₀ ot n₀ bk (.slice p N c) w H ∧ H.length = N) := ⟨h, hN⟩
  clear h hN
  go_enter Tryz.func104, Tryz.ntmps104
  go_wp2
  go_loopw [2] (fun k wr => ∃ (l r : List He), k = .int .i64 l.length ∧ l.length + r.length = N ∧ IsBk M₀ ot n₀ bk (.slice p N c) wr (l ++ r) ∧ (∀ x ∈ l, HC n₀ wr x) ∧ (∀ x ∈ r, HB n₀ wr x) ∧ Apt (l ++ r) ∧ KStep (fun k => mineH H k ∨ Value.ownBlock (.slice p N c) = some k) w wr ∧ (∀ k, mineH (l ++ r) k → mineH H k ∨ w.heap.size ≤ k)) (fun k _ => N - (intOf k).toNat)
  case atStart => exact ⟨[], H, rfl, by simpa using HH.out.2, HH.out.1, by simp, hA, hP, KStep.refl _ _, fun k h => .inl h⟩
  case round =>
    obtain ⟨l, r, rfl, hlr, h', hl, hr, hap, hK, hm⟩ := hrel
    rename World => wo
    have hc := h'.c2
    cases r with
    | nil =>
      have hq : ¬ ((l.length : Int) < (N : Int)) := by simp at hlr; omega
      have E1 : Hid _ := hlr
      clear hlr hp
      go_wp2
      go_end0
      exact ⟨rfl, l, by simpa using h', hl, hK⟩
    | cons x r =>
      have hlH : l.length < N := by simp at hlr; omega
      obtain ⟨g, rfl⟩ := hp (by omega)
      have hlen : (l ++ x :: r).length = N := by simpa using hlr
      have h2 := h'
      rw [← hlen] at h2
      obtain ⟨e0, e1, e2⟩ := h2.elem (j := l.length) (x := x) (by simp)
      obtain ⟨b1, b2⟩ := h'.num x (by simp)
      obtain ⟨hx1, hx2⟩ := hr x (by simp)
      obtain ⟨px, cx, hxl, hxc, _, _⟩ := row_formV hx2
      have HL : Hid (x.l = .slice px x.len cx) := hxl
      have HL2 : Hid (x.long = .slice none 0 0) := hx1
      rw [hxl] at e0
      rw [hx1] at e1
      have HLR : Hid (l.length + (x :: r).length = N) := hlr
      clear hlr hxl hx1 hlen h2
      go_wp2
      obtain ⟨W0, hW0⟩ : ∃ W0, wo.alloc (.cells #[.slice px x.len cx, .slice none 0 0, .int .i64 x.n] 187) = W0 := ⟨_, rfl⟩
      have hBW : Below wo.heap.size wo W0 := hW0 ▸ (Below.refl _ _).alloc (Nat.le_refl _) _
      have hn0 : W0.heap[wo.heap.size]? = some (.cells #[.slice px x.len cx, .slice none 0 0, .int .i64 x.n] 187 (0, 0)) := hW0 ▸ heap_alloc_new wo _
      have hn1 : wo.heap.size < W0.heap.size := (Array.getElem?_eq_some_iff.1 hn0).1
      rw [hW0]
      have hrow0 : W0.ownsRow n₀ 96 5 (.slice px x.len cx) x.len (mks x.n x.len) := by have := row_kept hx2 (fun k hk => hBW.block k (hx2.lt k hk).2); rwa [HL.out] at this
      have hblt : ∀ k, Value.ownBlock (.slice px x.len cx) = some k → k < wo.heap.size := fun k hk => (hx2.lt k (by rw [HL.out]; exact hk)).2
      have hbs : n₀ ≤ W0.heap.size := Nat.le_trans h'.base (Nat.le_of_lt (Nat.lt_trans h'.lt hn1))
      have HK : Hid (KStep (fun k => mineH H k ∨ Value.ownBlock (.slice (some ⟨g, 0, none⟩) N c) = some k) w wo) := hK
      have HBW : Hid (Below wo.heap.size wo W0) := hBW
      have Hl : Hid (∀ x ∈ l, HC n₀ wo x) := hl
      have Hr : Hid (∀ y ∈ x :: r, HB n₀ wo y) := hr
      have Hb : Hid (IsBk M₀ ot n₀ bk (.slice (some ⟨g, 0, none⟩) N c) wo (l ++ x :: r)) := h'
      have Hm : Hid (∀ k, mineH (l ++ x :: r) k → mineH H k ∨ w.heap.size ≤ k) := hm
      obtain ⟨i0, hi, hz0, hz1, hz2⟩ := infoV_parts infoO5
      have TR : ∀ wr, KStep (fun k => Value.ownBlock (.slice px x.len cx) = some k) W0 wr → Tab wr := fun wr hKi => by
        have hb0 : n₀ ≤ w.heap.size := Nat.le_trans HH.out.1.base (Nat.le_of_lt HH.out.1.lt)
        have s1 : Below n₀ w wo := hK.below (fun k e => by
          rcases e with ⟨y, hy, e⟩ | e
          · exact ((hA y hy).ha.blocks e).1
          · exact (HH.out.1.row.lt k e).1) hb0
        have s2 : Below n₀ wo W0 := hBW.mono (by have := s1.size; omega)
        have s3 : Below n₀ W0 wr := hKi.below (fun k e => (hx2.lt k (by rw [HL.out]; exact e)).1) (by have := s1.size; have := s2.size; omega)
        exact hT _ ((s1.trans s2).trans s3)
      clear hW0 hx2 e0 e1 e2 hBW hc hK hl hr h' hA hm
      go_loopw [4, 5] (fun long k wr => ∃ (j : Nat), k = .int .i64 j ∧ j ≤ 40 ∧ wr.ownsRow n₀ 96 5 long (x.len + j) (mks x.n (x.len + j)) ∧ Grn (.slice px x.len cx) x.len x.n W0 wr long) (fun _ k _ => 40 - (intOf k).toNat)
      case atStart => exact ⟨0, rfl, by omega, hrow0, Grn.first hrow0⟩
      case round =>
        obtain ⟨j, rfl, hj, hrow, hG⟩ := hrel
        obtain ⟨pl, cl, rfl, hcl, hcm, _⟩ := row_formV hrow
        have hKi := hG.step
        have hbi : wr.heap[wo.heap.size]? = some (.cells #[.slice px x.len cx, .slice none 0 0, .int .i64 x.n] 187 (0, 0)) := (hKi.block _ hn1 (fun e => by have := hblt _ e; omega)).trans hn0
        have d2 : wr.cell? ⟨wo.heap.size, 2, none⟩ = some (.int .i64 x.n) := by rw [cell_of_row wr _ 2 _ _ _ hbi]; rfl
        have hsz := hKi.size
        by_cases hjn : j < 40
        · have a1 := markObj_in x.n b1
          have hTr : Tab wr := TR wr hKi
          have hmk1 : ∀ u ∈ mkc x.n, u.oneCell' = true := by simp [mkc, Value.oneCell']
          have HG : Hid (Grn (.slice px x.len cx) x.len x.n W0 wr (.slice pl (x.len + j) cl)) := hG
          have HRow : Hid (wr.ownsRow n₀ 96 5 (.slice pl (x.len + j) cl) (x.len + j) (mks x.n (x.len + j))) := hrow
          by_cases hroom : x.len + j + 1 ≤ cl
          · obtain ⟨gl, rfl⟩ : ∃ gl, pl = some ⟨gl, 0, none⟩ := by
              rcases hrow.2 with ⟨e, _⟩ | ⟨g', _, _, e, _⟩
              · simp at e; omega
              · simp at e; exact ⟨g', e.1⟩
            clear hG hrow hbi hKi
            go_wp2_with (first
              | (go_at_call 194; (with_reducible refine (a1 _ hTr).mono ?_); rintro e w5 ⟨rfl, hB5⟩; have HRow5 := row_belowV HRow.out hB5; have HG5 := HG.out.below hB5; have hsz5 := hB5.size)
              | (at_builtin; refine wpList_append_own_spare _ rfl (.tmp 28) (.tmp 32) 22 rfl n₀ 96 i0 5 Tryz.underlying22 hi hz1 gl (x.len + j) cl (mks x.n (x.len + j)) rfl (HRow5.alloc _) ⟨w5.heap.size, 0, none⟩ 1 1 (mkc x.n) rfl rfl (World.news_of_block (cs := #[.int .u8 0, .string (mkS x.n), .slice none 0 0, .int .i64 0, .int .i64 0]) (t := 96) (fr := (0, 0)) (heap_alloc_new w5 _)) hmk1 hroom ?_; intro w4 hown4 hgrow4))
            go_roundw
            case rel => 
              exact ⟨j + 1, by simp, by omega, hown4, HG5.spare hown4 (by omega) hgrow4⟩
            case measure => simp [intOf]; omega
          · clear hG hrow hbi hKi
            have hnone : pl = none → x.len + j = 0 ∧ cl = 0 := by
              intro e
              rcases HRow.out.2 with ⟨e2, _⟩ | ⟨g', _, _, e2, _⟩
              · simp at e2; omega
              · rw [e] at e2; simp at e2
            have holds : ∀ (W : World), W.ownsRow n₀ 96 5 (.slice pl (x.len + j) cl) (x.len + j) (mks x.n (x.len + j)) → ∀ b, pl = some b → ∀ q u, (mks x.n (x.len + j))[q]? = some u → W.cell? (b.add q) = some u := by
              intro W hW b hb q u hq
              rcases hW.2 with ⟨e2, _⟩ | ⟨g', c', cur, e2, _⟩
              · rw [hb] at e2; simp at e2
              · rw [hb] at e2; simp at e2
                have := hW.cells (g := g') (by rw [hb, e2.1]; rfl) q u hq
                rw [e2.1]; exact this
            go_wp2_with (first
              | (go_at_call 194; (with_reducible refine (a1 _ hTr).mono ?_); rintro e w5 ⟨rfl, hB5⟩; have HRow5 := row_belowV HRow.out hB5; have HG5 := HG.out.below hB5; have hsz5 := hB5.size)
              | (at_builtin; refine wpList_append_grows _ rfl (.tmp 28) (.tmp 32) 22 rfl 96 i0 (.agg #[.int .u8 0, .string ⟨#[]⟩, .slice none 0 0, .int .i64 0, .int .i64 0]) 5 64 Tryz.underlying22 hi hz0 hz1 hz2 rfl (by decide) pl (x.len + j) cl (mks x.n (x.len + j)) rfl hnone (mks_len _ _) (holds _ (HRow5.alloc _)) ⟨w5.heap.size, 0, none⟩ 1 1 (mkc x.n) rfl rfl (World.news_of_block (cs := #[.int .u8 0, .string (mkS x.n), .slice none 0 0, .int .i64 0, .int .i64 0]) (t := 96) (fr := (0, 0)) (heap_alloc_new w5 _)) hmk1 (by omega) (by unfold maxLen; omega) (by omega) ?_; intro v4 w4 hown4 hgrow4))
            go_roundw
            case rel => 
              exact ⟨j + 1, by simp, by omega, row_mono2 hown4 (by simp; omega), HG5.grow hown4 hgrow4⟩
            case measure => simp [intOf]; omega
        · have hq : ¬ ((j : Int) < 40) := by omega
          obtain rfl : j = 40 := by omega
          have HG : Hid (Grn (.slice px x.len cx) x.len x.n W0 wr (.slice pl (x.len + 40) cl)) := hG
          have HRow : Hid (wr.ownsRow n₀ 96 5 (.slice pl (x.len + 40) cl) (x.len + 40) (mks x.n (x.len + 40))) := hrow
          obtain ⟨HbW, _⟩ := grown_book Hb.out (Hr.out x (by simp)) HBW.out HL.out HG.out
          have c2 := HbW.c2
          obtain ⟨hf, hcc⟩ := book_cell HbW
          rw [HL2.out] at hcc
          clear hrow hrow0 hG hbi hKi HbW
          go_wp2
          go_roundw
          case rel =>
            obtain ⟨q1, q2, q3, q4, q5, q6⟩ := grown_round Hb.out Hl.out Hr.out hap HK.out Hm.out HBW.out HL.out HG.out HRow.out
            have e1 : (((l ++ [{ x with long := Value.slice pl (x.len + 40) cl }]).length : Nat) : Int) = l.length + 1 := by simp
            have e2 : l ++ { x with long := Value.slice pl (x.len + 40) cl } :: r = (l ++ [{ x with long := Value.slice pl (x.len + 40) cl }]) ++ r := by simp
            rw [e2] at q1 q4 q6
            exact ⟨_, r, by rw [e1], by have := HLR.out; simp at this ⊢; omega, q1, q2, q3, q4, q5, q6⟩
          case measure => simp [intOf]; omega

end Bo

end Go.Proofs.YtgokofomoachaaaGreatDoor
