/- listing: lists with one more behind them. -/
import Derived.Test.YtnekcomkochmjaaGreatDoorLpIns
import Derived.Deep.AppendLies
import Derived.Maps.AppendAt
namespace Go.Proofs.YtnekcomkochmjaaGreatDoor
set_option linter.unusedVariables false
set_option linter.unusedSimpArgs false
open Go.RowKit

namespace Lp
open Lk

variable {w : World}

/-- A list with one more behind it: a row of one's own; nothing else has turned. -/
def Kept (base : Nat) (e : TypeId) (k : Nat) (v : Value) (n : Nat) (xs : List Value) (w : World) (E : Ending) (w' : World) : Prop :=
  ∃ g c, E = .returned (.slice (some ⟨g, 0, none⟩) n c) ∧ w'.ownsRow base e k (.slice (some ⟨g, 0, none⟩) n c) n xs ∧ (v.ownBlock = some g ∨ w.heap.size ≤ g) ∧ w'.os = w.os ∧ w'.tape = w.tape ∧ w'.output = w.output ∧ w.heap.size ≤ w'.heap.size ∧ ∀ q, q < w.heap.size → some q ≠ v.ownBlock → w'.heap[q]? = w.heap[q]?

theorem row_slice {base e k n : Nat} {v : Value} {xs : List Value} (h : w.ownsRow base e k v n xs) : ∃ p c, v = .slice p n c := by
  obtain ⟨p, c, e1, _⟩ := row_form h
  exact ⟨p, c, e1⟩

theorem infoKCap : (Tryz.prog.info? 72).map (fun i => (i.zero, i.size, i.bytes)) = some (some (.agg #[.bool false, .int .i64 0]), 2, 16) := by kernel_rfl

set_option maxRecDepth 20000 in
set_option maxHeartbeats 4000000 in
theorem keepCap_more {base n limit : Nat} {v : Value} {xs : List Value} (h : w.ownsRow base 72 2 v n xs) (hb : base ≤ w.heap.size) (up : Bool) (x : Int) (hl : n ≤ limit) (hl2 : limit ≤ 1048576) :
    Calls Tryz.prog 63 #[v, .agg #[.bool up, .int .i64 x], .int .i64 limit] w fun E w' => Kept base 72 2 v (n + 1) (xs ++ [.bool up, .int .i64 x]) w E w' := by
  obtain ⟨i0, hi, hz0, hz1, hz2⟩ := info_parts infoKCap
  obtain ⟨p, c, hv⟩ := row_slice h
  subst hv
  have hq : ¬ ((limit : Int) < (n : Int)) := by omega
  have hbw : Below w.heap.size w ((w.alloc (.cells #[.bool up, .int .i64 x] 72)).alloc (.cells #[.bool up, .int .i64 x] 72)) := (below1 w (.cells #[.bool up, .int .i64 x] 72)).trans ((below1 (w.alloc (.cells #[.bool up, .int .i64 x] 72)) (.cells #[.bool up, .int .i64 x] 72)).mono (by simp))
  go_enter Tryz.func63, Tryz.ntmps63
  go_wp2_with (first
    | (at_builtin; refine wpList_append_lies _ rfl _ _ 41 rfl base 72 i0 _ 2 16 Tryz.underlying41 hi hz0 hz1 hz2 rfl (by decide) _ n xs rfl ((h.alloc _).alloc _) ⟨w.heap.size + 1, 0, none⟩ 1 1 [.bool up, .int .i64 x] rfl rfl (World.news_of_block (cs := #[.bool up, .int .i64 x]) (t := 72) (fr := (0, 0)) (by have := heap_alloc_new (w.alloc (.cells #[.bool up, .int .i64 x] 72)) (.cells #[.bool up, .int .i64 x] 72); simpa using this)) (by simp [Value.oneCell']) (by omega) (by unfold maxLen; omega) (by omega) (by simp; omega) (w.heap.size + 1 + 1) (by simp) ?_; intro g2 c2 w2 hown2 hgrow2 hat2 hlt2))
  go_ret
  refine ⟨g2, c2, rfl, hown2, ?_, hgrow2.os.trans hbw.os, hgrow2.tape.trans hbw.tape, hgrow2.output.trans hbw.output, Nat.le_trans hbw.size hgrow2.size, fun q hq1 hq2 => (hgrow2.block q (Nat.lt_of_lt_of_le hq1 hbw.size) hq2).trans (hbw.block q hq1)⟩
  rcases hat2 with e2 | e2
  · exact .inl e2
  · right; omega

set_option maxHeartbeats 1000000 in
theorem keepCap_full {n limit : Nat} (p : Option Addr) (c : Nat) (up : Bool) (x : Int) (hl : limit < n) (hn : n ≤ 1048576) (w : World) :
    Calls Tryz.prog 63 #[.slice p n c, .agg #[.bool up, .int .i64 x], .int .i64 limit] w fun E w' => E = .returned (.slice p n c) ∧ Below w.heap.size w w' := by
  have hq : ((limit : Int) < (n : Int)) := by omega
  have hbw := below1 w (.cells #[.bool up, .int .i64 x] 72)
  go_enter Tryz.func63, Tryz.ntmps63
  go_wp2
  go_ret
  exact ⟨rfl, hbw⟩

theorem infoKConst : (Tryz.prog.info? 75).map (fun i => (i.zero, i.size, i.bytes)) = some (some (.agg #[.int .u8 0, .int .i64 0, .string ⟨#[]⟩]), 3, 32) := by kernel_rfl

set_option maxRecDepth 20000 in
set_option maxHeartbeats 4000000 in
theorem keepConst_more {base n limit : Nat} {v : Value} {xs : List Value} (h : w.ownsRow base 75 3 v n xs) (hb : base ≤ w.heap.size) (kd : Nat) (x : Int) (s : ByteArray) (hl : n ≤ limit) (hl2 : limit ≤ 1048576) :
    Calls Tryz.prog 64 #[v, .agg #[.int .u8 kd, .int .i64 x, .string s], .int .i64 limit] w fun E w' => Kept base 75 3 v (n + 1) (xs ++ [.int .u8 kd, .int .i64 x, .string s]) w E w' := by
  obtain ⟨i0, hi, hz0, hz1, hz2⟩ := info_parts infoKConst
  obtain ⟨p, c, hv⟩ := row_slice h
  subst hv
  have hq : ¬ ((limit : Int) < (n : Int)) := by omega
  have hbw : Below w.heap.size w ((w.alloc (.cells #[.int .u8 kd, .int .i64 x, .string s] 75)).alloc (.cells #[.int .u8 kd, .int .i64 x, .string s] 75)) := (below1 w (.cells #[.int .u8 kd, .int .i64 x, .string s] 75)).trans ((below1 (w.alloc (.cells #[.int .u8 kd, .int .i64 x, .string s] 75)) (.cells #[.int .u8 kd, .int .i64 x, .string s] 75)).mono (by simp))
  go_enter Tryz.func64, Tryz.ntmps64
  go_wp2_with (first
    | (at_builtin; refine wpList_append_lies _ rfl _ _ 42 rfl base 75 i0 _ 3 32 Tryz.underlying42 hi hz0 hz1 hz2 rfl (by decide) _ n xs rfl ((h.alloc _).alloc _) ⟨w.heap.size + 1, 0, none⟩ 1 1 [.int .u8 kd, .int .i64 x, .string s] rfl rfl (World.news_of_block (cs := #[.int .u8 kd, .int .i64 x, .string s]) (t := 75) (fr := (0, 0)) (by have := heap_alloc_new (w.alloc (.cells #[.int .u8 kd, .int .i64 x, .string s] 75)) (.cells #[.int .u8 kd, .int .i64 x, .string s] 75); simpa using this)) (by simp [Value.oneCell']) (by omega) (by unfold maxLen; omega) (by omega) (by simp; omega) (w.heap.size + 1 + 1) (by simp) ?_; intro g2 c2 w2 hown2 hgrow2 hat2 hlt2))
  go_ret
  refine ⟨g2, c2, rfl, hown2, ?_, hgrow2.os.trans hbw.os, hgrow2.tape.trans hbw.tape, hgrow2.output.trans hbw.output, Nat.le_trans hbw.size hgrow2.size, fun q hq1 hq2 => (hgrow2.block q (Nat.lt_of_lt_of_le hq1 hbw.size) hq2).trans (hbw.block q hq1)⟩
  rcases hat2 with e2 | e2
  · exact .inl e2
  · right; omega

set_option maxHeartbeats 1000000 in
theorem keepConst_full {n limit : Nat} (p : Option Addr) (c : Nat) (kd : Nat) (x : Int) (s : ByteArray) (hl : limit < n) (hn : n ≤ 1048576) (w : World) :
    Calls Tryz.prog 64 #[.slice p n c, .agg #[.int .u8 kd, .int .i64 x, .string s], .int .i64 limit] w fun E w' => E = .returned (.slice p n c) ∧ Below w.heap.size w w' := by
  have hq : ((limit : Int) < (n : Int)) := by omega
  have hbw := below1 w (.cells #[.int .u8 kd, .int .i64 x, .string s] 75)
  go_enter Tryz.func64, Tryz.ntmps64
  go_wp2
  go_ret
  exact ⟨rfl, hbw⟩

theorem infoKInt : (Tryz.prog.info? 3).map (fun i => (i.zero, i.size, i.bytes)) = some (some (.int .i64 0), 1, 8) := by kernel_rfl

set_option maxRecDepth 20000 in
set_option maxHeartbeats 4000000 in
theorem keepInt_more {base n limit : Nat} {v : Value} {xs : List Value} (h : w.ownsRow base 3 1 v n xs) (hb : base ≤ w.heap.size) (x : Int) (hl : n ≤ limit) (hl2 : limit ≤ 1048576) :
    Calls Tryz.prog 66 #[v, .int .i64 x, .int .i64 limit] w fun E w' => Kept base 3 1 v (n + 1) (xs ++ [.int .i64 x]) w E w' := by
  obtain ⟨i0, hi, hz0, hz1, hz2⟩ := info_parts infoKInt
  obtain ⟨p, c, hv⟩ := row_slice h
  subst hv
  have hq : ¬ ((limit : Int) < (n : Int)) := by omega
  have hbw : Below w.heap.size w (w.alloc (.cells #[.int .i64 x] 3)) := below1 w (.cells #[.int .i64 x] 3)
  go_enter Tryz.func66, Tryz.ntmps66
  go_wp2_with (first
    | (at_builtin; refine wpList_append_lies _ rfl _ _ 40 rfl base 3 i0 _ 1 8 Tryz.underlying40 hi hz0 hz1 hz2 rfl (by decide) _ n xs rfl (h.alloc _) ⟨w.heap.size, 0, none⟩ 1 1 [.int .i64 x] rfl rfl (World.news_of_block (cs := #[.int .i64 x]) (t := 3) (fr := (0, 0)) (by have := heap_alloc_new w (.cells #[.int .i64 x] 3); simpa using this)) (by simp [Value.oneCell']) (by omega) (by unfold maxLen; omega) (by omega) (by simp; omega) (w.heap.size + 1) (by simp) ?_; intro g2 c2 w2 hown2 hgrow2 hat2 hlt2))
  go_ret
  refine ⟨g2, c2, rfl, hown2, ?_, hgrow2.os.trans hbw.os, hgrow2.tape.trans hbw.tape, hgrow2.output.trans hbw.output, Nat.le_trans hbw.size hgrow2.size, fun q hq1 hq2 => (hgrow2.block q (Nat.lt_of_lt_of_le hq1 hbw.size) hq2).trans (hbw.block q hq1)⟩
  rcases hat2 with e2 | e2
  · exact .inl e2
  · right; omega

set_option maxHeartbeats 1000000 in
theorem keepInt_full {n limit : Nat} (p : Option Addr) (c : Nat) (x : Int) (hl : limit < n) (hn : n ≤ 1048576) (w : World) :
    Calls Tryz.prog 66 #[.slice p n c, .int .i64 x, .int .i64 limit] w fun E w' => E = .returned (.slice p n c) ∧ Below w.heap.size w w' := by
  have hq : ((limit : Int) < (n : Int)) := by omega
  have hbw := Below.refl w.heap.size w
  go_enter Tryz.func66, Tryz.ntmps66
  go_wp2
  go_ret
  exact ⟨rfl, hbw⟩

theorem infoKIns : (Tryz.prog.info? 38).map (fun i => (i.zero, i.size, i.bytes)) = some (some (.agg #[.int .u8 0, .int .i64 0]), 2, 16) := by kernel_rfl

set_option maxRecDepth 20000 in
set_option maxHeartbeats 4000000 in
theorem keepIns_more {base n limit : Nat} {v : Value} {xs : List Value} (h : w.ownsRow base 38 2 v n xs) (hb : base ≤ w.heap.size) (op : Nat) (x : Int) (hl : n ≤ limit) (hl2 : limit ≤ 1048576) :
    Calls Tryz.prog 68 #[v, .agg #[.int .u8 op, .int .i64 x], .int .i64 limit] w fun E w' => Kept base 38 2 v (n + 1) (xs ++ [.int .u8 op, .int .i64 x]) w E w' := by
  obtain ⟨i0, hi, hz0, hz1, hz2⟩ := info_parts infoKIns
  obtain ⟨p, c, hv⟩ := row_slice h
  subst hv
  have hq : ¬ ((limit : Int) < (n : Int)) := by omega
  have hbw : Below w.heap.size w ((w.alloc (.cells #[.int .u8 op, .int .i64 x] 38)).alloc (.cells #[.int .u8 op, .int .i64 x] 38)) := (below1 w (.cells #[.int .u8 op, .int .i64 x] 38)).trans ((below1 (w.alloc (.cells #[.int .u8 op, .int .i64 x] 38)) (.cells #[.int .u8 op, .int .i64 x] 38)).mono (by simp))
  go_enter Tryz.func68, Tryz.ntmps68
  go_wp2_with (first
    | (at_builtin; refine wpList_append_lies _ rfl _ _ 39 rfl base 38 i0 _ 2 16 Tryz.underlying39 hi hz0 hz1 hz2 rfl (by decide) _ n xs rfl ((h.alloc _).alloc _) ⟨w.heap.size + 1, 0, none⟩ 1 1 [.int .u8 op, .int .i64 x] rfl rfl (World.news_of_block (cs := #[.int .u8 op, .int .i64 x]) (t := 38) (fr := (0, 0)) (by have := heap_alloc_new (w.alloc (.cells #[.int .u8 op, .int .i64 x] 38)) (.cells #[.int .u8 op, .int .i64 x] 38); simpa using this)) (by simp [Value.oneCell']) (by omega) (by unfold maxLen; omega) (by omega) (by simp; omega) (w.heap.size + 1 + 1) (by simp) ?_; intro g2 c2 w2 hown2 hgrow2 hat2 hlt2))
  go_ret
  refine ⟨g2, c2, rfl, hown2, ?_, hgrow2.os.trans hbw.os, hgrow2.tape.trans hbw.tape, hgrow2.output.trans hbw.output, Nat.le_trans hbw.size hgrow2.size, fun q hq1 hq2 => (hgrow2.block q (Nat.lt_of_lt_of_le hq1 hbw.size) hq2).trans (hbw.block q hq1)⟩
  rcases hat2 with e2 | e2
  · exact .inl e2
  · right; omega

set_option maxHeartbeats 1000000 in
theorem keepIns_full {n limit : Nat} (p : Option Addr) (c : Nat) (op : Nat) (x : Int) (hl : limit < n) (hn : n ≤ 1048576) (w : World) :
    Calls Tryz.prog 68 #[.slice p n c, .agg #[.int .u8 op, .int .i64 x], .int .i64 limit] w fun E w' => E = .returned (.slice p n c) ∧ Below w.heap.size w w' := by
  have hq : ((limit : Int) < (n : Int)) := by omega
  have hbw := below1 w (.cells #[.int .u8 op, .int .i64 x] 38)
  go_enter Tryz.func68, Tryz.ntmps68
  go_wp2
  go_ret
  exact ⟨rfl, hbw⟩

theorem infoKHn : (Tryz.prog.info? 78).map (fun i => (i.zero, i.size, i.bytes)) = some (some (.agg #[.int .i64 0, .int .i64 0, .int .i64 0, .int .i64 0]), 4, 32) := by kernel_rfl

set_option maxRecDepth 20000 in
set_option maxHeartbeats 4000000 in
theorem keepHn_more {base n limit : Nat} {v : Value} {xs : List Value} (h : w.ownsRow base 78 4 v n xs) (hb : base ≤ w.heap.size) (x y z u : Int) (hl : n ≤ limit) (hl2 : limit ≤ 1048576) :
    Calls Tryz.prog 70 #[v, .agg #[.int .i64 x, .int .i64 y, .int .i64 z, .int .i64 u], .int .i64 limit] w fun E w' => Kept base 78 4 v (n + 1) (xs ++ [.int .i64 x, .int .i64 y, .int .i64 z, .int .i64 u]) w E w' := by
  obtain ⟨i0, hi, hz0, hz1, hz2⟩ := info_parts infoKHn
  obtain ⟨p, c, hv⟩ := row_slice h
  subst hv
  have hq : ¬ ((limit : Int) < (n : Int)) := by omega
  have hbw : Below w.heap.size w ((w.alloc (.cells #[.int .i64 x, .int .i64 y, .int .i64 z, .int .i64 u] 78)).alloc (.cells #[.int .i64 x, .int .i64 y, .int .i64 z, .int .i64 u] 78)) := (below1 w (.cells #[.int .i64 x, .int .i64 y, .int .i64 z, .int .i64 u] 78)).trans ((below1 (w.alloc (.cells #[.int .i64 x, .int .i64 y, .int .i64 z, .int .i64 u] 78)) (.cells #[.int .i64 x, .int .i64 y, .int .i64 z, .int .i64 u] 78)).mono (by simp))
  go_enter Tryz.func70, Tryz.ntmps70
  go_wp2_with (first
    | (at_builtin; refine wpList_append_lies _ rfl _ _ 43 rfl base 78 i0 _ 4 32 Tryz.underlying43 hi hz0 hz1 hz2 rfl (by decide) _ n xs rfl ((h.alloc _).alloc _) ⟨w.heap.size + 1, 0, none⟩ 1 1 [.int .i64 x, .int .i64 y, .int .i64 z, .int .i64 u] rfl rfl (World.news_of_block (cs := #[.int .i64 x, .int .i64 y, .int .i64 z, .int .i64 u]) (t := 78) (fr := (0, 0)) (by have := heap_alloc_new (w.alloc (.cells #[.int .i64 x, .int .i64 y, .int .i64 z, .int .i64 u] 78)) (.cells #[.int .i64 x, .int .i64 y, .int .i64 z, .int .i64 u] 78); simpa using this)) (by simp [Value.oneCell']) (by omega) (by unfold maxLen; omega) (by omega) (by simp; omega) (w.heap.size + 1 + 1) (by simp) ?_; intro g2 c2 w2 hown2 hgrow2 hat2 hlt2))
  go_ret
  refine ⟨g2, c2, rfl, hown2, ?_, hgrow2.os.trans hbw.os, hgrow2.tape.trans hbw.tape, hgrow2.output.trans hbw.output, Nat.le_trans hbw.size hgrow2.size, fun q hq1 hq2 => (hgrow2.block q (Nat.lt_of_lt_of_le hq1 hbw.size) hq2).trans (hbw.block q hq1)⟩
  rcases hat2 with e2 | e2
  · exact .inl e2
  · right; omega

set_option maxHeartbeats 1000000 in
theorem keepHn_full {n limit : Nat} (p : Option Addr) (c : Nat) (x y z u : Int) (hl : limit < n) (hn : n ≤ 1048576) (w : World) :
    Calls Tryz.prog 70 #[.slice p n c, .agg #[.int .i64 x, .int .i64 y, .int .i64 z, .int .i64 u], .int .i64 limit] w fun E w' => E = .returned (.slice p n c) ∧ Below w.heap.size w w' := by
  have hq : ((limit : Int) < (n : Int)) := by omega
  have hbw := below1 w (.cells #[.int .i64 x, .int .i64 y, .int .i64 z, .int .i64 u] 78)
  go_enter Tryz.func70, Tryz.ntmps70
  go_wp2
  go_ret
  exact ⟨rfl, hbw⟩

theorem infoKFn : (Tryz.prog.info? 45).map (fun i => (i.zero, i.size, i.bytes)) = some (some (.agg #[.string ⟨#[]⟩, .int .i64 0, .int .i64 0, .slice none 0 0, .slice none 0 0, .slice none 0 0, .slice none 0 0, .slice none 0 0]), 8, 152) := by kernel_rfl

set_option maxRecDepth 20000 in
set_option maxHeartbeats 4000000 in
theorem keepFn_more {base n limit : Nat} {v : Value} {xs : List Value} (h : w.ownsRow base 45 8 v n xs) (hb : base ≤ w.heap.size) (s : ByteArray) (x y : Int) (hl : n ≤ limit) (hl2 : limit ≤ 1048576) :
    Calls Tryz.prog 32 #[v, .agg #[.string s, .int .i64 x, .int .i64 y, .slice none 0 0, .slice none 0 0, .slice none 0 0, .slice none 0 0, .slice none 0 0], .int .i64 limit] w fun E w' => Kept base 45 8 v (n + 1) (xs ++ [.string s, .int .i64 x, .int .i64 y, .slice none 0 0, .slice none 0 0, .slice none 0 0, .slice none 0 0, .slice none 0 0]) w E w' := by
  obtain ⟨i0, hi, hz0, hz1, hz2⟩ := info_parts infoKFn
  obtain ⟨p, c, hv⟩ := row_slice h
  subst hv
  have hq : ¬ ((limit : Int) < (n : Int)) := by omega
  have hbw : Below w.heap.size w ((w.alloc (.cells #[.string s, .int .i64 x, .int .i64 y, .slice none 0 0, .slice none 0 0, .slice none 0 0, .slice none 0 0, .slice none 0 0] 45)).alloc (.cells #[.string s, .int .i64 x, .int .i64 y, .slice none 0 0, .slice none 0 0, .slice none 0 0, .slice none 0 0, .slice none 0 0] 45)) := (below1 w (.cells #[.string s, .int .i64 x, .int .i64 y, .slice none 0 0, .slice none 0 0, .slice none 0 0, .slice none 0 0, .slice none 0 0] 45)).trans ((below1 (w.alloc (.cells #[.string s, .int .i64 x, .int .i64 y, .slice none 0 0, .slice none 0 0, .slice none 0 0, .slice none 0 0, .slice none 0 0] 45)) (.cells #[.string s, .int .i64 x, .int .i64 y, .slice none 0 0, .slice none 0 0, .slice none 0 0, .slice none 0 0, .slice none 0 0] 45)).mono (by simp))
  go_enter Tryz.func32, Tryz.ntmps32
  go_wp2_with (first
    | (at_builtin; refine wpList_append_lies _ rfl _ _ 22 rfl base 45 i0 _ 8 152 Tryz.underlying22 hi hz0 hz1 hz2 rfl (by decide) _ n xs rfl ((h.alloc _).alloc _) ⟨w.heap.size + 1, 0, none⟩ 1 1 [.string s, .int .i64 x, .int .i64 y, .slice none 0 0, .slice none 0 0, .slice none 0 0, .slice none 0 0, .slice none 0 0] rfl rfl (World.news_of_block (cs := #[.string s, .int .i64 x, .int .i64 y, .slice none 0 0, .slice none 0 0, .slice none 0 0, .slice none 0 0, .slice none 0 0]) (t := 45) (fr := (0, 0)) (by have := heap_alloc_new (w.alloc (.cells #[.string s, .int .i64 x, .int .i64 y, .slice none 0 0, .slice none 0 0, .slice none 0 0, .slice none 0 0, .slice none 0 0] 45)) (.cells #[.string s, .int .i64 x, .int .i64 y, .slice none 0 0, .slice none 0 0, .slice none 0 0, .slice none 0 0, .slice none 0 0] 45); simpa using this)) (by simp [Value.oneCell']) (by omega) (by unfold maxLen; omega) (by omega) (by simp; omega) (w.heap.size + 1 + 1) (by simp) ?_; intro g2 c2 w2 hown2 hgrow2 hat2 hlt2))
  go_ret
  refine ⟨g2, c2, rfl, hown2, ?_, hgrow2.os.trans hbw.os, hgrow2.tape.trans hbw.tape, hgrow2.output.trans hbw.output, Nat.le_trans hbw.size hgrow2.size, fun q hq1 hq2 => (hgrow2.block q (Nat.lt_of_lt_of_le hq1 hbw.size) hq2).trans (hbw.block q hq1)⟩
  rcases hat2 with e2 | e2
  · exact .inl e2
  · right; omega

set_option maxHeartbeats 1000000 in
theorem keepFn_full {n limit : Nat} (p : Option Addr) (c : Nat) (s : ByteArray) (x y : Int) (hl : limit < n) (hn : n ≤ 1048576) (w : World) :
    Calls Tryz.prog 32 #[.slice p n c, .agg #[.string s, .int .i64 x, .int .i64 y, .slice none 0 0, .slice none 0 0, .slice none 0 0, .slice none 0 0, .slice none 0 0], .int .i64 limit] w fun E w' => E = .returned (.slice p n c) ∧ Below w.heap.size w w' := by
  have hq : ((limit : Int) < (n : Int)) := by omega
  have hbw := below1 w (.cells #[.string s, .int .i64 x, .int .i64 y, .slice none 0 0, .slice none 0 0, .slice none 0 0, .slice none 0 0, .slice none 0 0] 45)
  go_enter Tryz.func32, Tryz.ntmps32
  go_wp2
  go_ret
  exact ⟨rfl, hbw⟩

end Lp

end Go.Proofs.YtnekcomkochmjaaGreatDoor
