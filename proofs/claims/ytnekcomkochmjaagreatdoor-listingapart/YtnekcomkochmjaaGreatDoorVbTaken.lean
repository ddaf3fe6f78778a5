/- The program's walk: a place is told; those next to one. -/
import Derived.Test.YtnekcomkochmjaaGreatDoorVbWalk
import Derived.Test.YtnekcomkochmjaaGreatDoorVfPNext
import Derived.Deep.CutRange
import Derived.Shelf.Spec.TrailingZeros
import Derived.RangeFuncNested
import Derived.RangeFuncBound
import Derived.RangeFuncCalls
import Derived.RangeFuncLeaves
import Derived.Shelf.Abstract
import Derived.Shelf.RegionOpen
import Derived.WalkKit
import Derived.OwnWalkIn
import Derived.TacticsInMore
import Derived.LoopNIn
import Derived.LoopIn
namespace Go.Proofs.YtnekcomkochmjaaGreatDoor
set_option linter.unusedVariables false
set_option linter.unusedSimpArgs false
open Go.RowKit

variable {w : World}

/-- A walk as it stands: what waits is what was told and not taken. -/
structure St (W : World) (base bw gt ct gb cb n : Nat) (told : List Int) (taken : List Bool) (bs : List Nat) (lst : Nat) : Prop where
  wk : Wk W base bw gt ct gb cb told bs lst
  qb : Qb n told taken bs lst
  lo : ∀ k, -1 ≤ told.getD k (-1)

theorem St.kept {W W' : World} {base bw gt ct gb cb n : Nat} {told : List Int} {taken : List Bool} {bs : List Nat} {lst : Nat} (h : St W base bw gt ct gb cb n told taken bs lst) (hB : Below W.heap.size W W') : St W' base bw gt ct gb cb n told taken bs lst := ⟨h.wk.kept hB, h.qb, h.lo⟩

/-- What telling several comes to. -/
def TellsP (base bw gt ct gb cb n : Nat) (told : List Int) (taken : List Bool) (l : List (Nat × Int)) (b : Bool) (w w' : World) : Prop :=
  ∃ told' bs' lst', St w' base bw gt ct gb cb n told' taken bs' lst' ∧ Fr bw gt gb w w' ∧ ((b = true ∧ tellsP l told = some told') ∨ (b = false ∧ tellsP l told = none))

theorem TellsP.to {base bw gt ct gb cb n : Nat} {told : List Int} {taken : List Bool} {l : List (Nat × Int)} {b : Bool} {a w w' : World} (h : TellsP base bw gt ct gb cb n told taken l b w w') (hf : Fr bw gt gb a w) : TellsP base bw gt ct gb cb n told taken l b a w' := by
  obtain ⟨t, bs, lst, h1, h2, h3⟩ := h
  exact ⟨t, bs, lst, h1, hf.trans h2, h3⟩

set_option maxRecDepth 20000 in
set_option maxHeartbeats 2000000 in
theorem ptell_in {base bw gt ct gb cb n : Nat} {told : List Int} {taken : List Bool} {bs : List Nat} {lst : Nat} (h : St w base bw gt ct gb cb n told taken bs lst) (hn : n ≤ 16384) (k : Nat) (hk : k < n) (d : Int) (hd : 0 ≤ d) :
    Calls Tryz.prog 53 #[.pointer (some ⟨bw, 0, none⟩), .int .i64 k, .int .i64 d] w fun e w' => ∃ b, e = .returned (.bool b) ∧ TellsP base bw gt ct gb cb n told taken [(k, d)] b w w' := by
  have hkl : k < told.length := by rw [h.qb.tl]; exact hk
  obtain ⟨x, hx⟩ : ∃ x, told[k]? = some x := ⟨told[k], by simp⟩
  have hxD : told.getD k (-1) = x := by rw [List.getD_eq_getElem?_getD, hx]; rfl
  have hx1 := h.lo k
  rw [hxD] at hx1
  have hk' : (k : Int) < (told.length : Int) := by omega
  obtain ⟨⟨c0, -, -⟩, -⟩ := h.wk.cells
  have r0 := h.wk.tr.at hx
  have fr := h.wk.tr.frozen k
  have HH : Hid _ := h
  unfold TellsP
  simp only [tellsP_one]
  by_cases h0 : x = -1
  · subst h0
    have h1 := h.wk.tset hkl d
    have H1 := badd_in h1 (k := k) (by rw [h.qb.bl]; omega) h.qb.w64 (by rw [h.qb.bl]; omega)
    have TP : Hid (tellP told k d = some (told.set k d)) := by
      show tellP told k d = _
      unfold tellP; rw [hxD, if_neg (by omega)]
    have HX : Hid _ := hxD
    have HK : Hid (k < told.length) := hkl
    clear h hxD hx h1 hkl
    go_enter Tryz.func53, Tryz.ntmps53
    go_wp2_with (first
      | (go_at_call 90; (with_reducible refine H1.mono ?_); clear H1; rintro e w2 ⟨rfl, hw2, hf2⟩; obtain ⟨⟨e0, -, -⟩, -⟩ := hw2.cells; have er := hw2.tr.at (j := k) (x := d) (by rw [List.getElem?_set]; simp [HK.out]); have e2 : (k : Int) < ((told.set k d).length : Int) := (by rw [List.length_set]; exact hk'); rw [List.length_set] at e0 e2))
    go_ret
    have h := HH.out
    refine ⟨_, rfl, told.set k d, _, _, ⟨hw2, h.qb.push hk hd (by rw [HX.out]; omega), fun j => ?_⟩, (Fr.sett w _ _).trans hf2, .inl ⟨by simp, TP.out⟩⟩
    rw [getD_set_if' _ _ _ _ HK.out]
    split
    · omega
    · exact h.lo j
  · have h0' : (x == -1) = false := by simpa using h0
    have TP : Hid ((decide (x = d) = true ∧ tellP told k d = some told) ∨ (decide (x = d) = false ∧ tellP told k d = none)) := by
      show _ ∨ _
      unfold tellP
      rw [hxD]
      by_cases e : x = d
      · refine .inl ⟨by simpa using e, ?_⟩
        rw [if_neg (by omega), h.qb.same hk (by rw [hxD]; exact e)]
      · refine .inr ⟨by simpa using e, ?_⟩
        rw [if_pos ⟨by omega, e⟩]
    clear h hxD hx hkl
    go_enter Tryz.func53, Tryz.ntmps53
    go_wp2
    go_ret
    exact ⟨_, rfl, told, bs, lst, HH.out, .refl _ _ _ _, by have := TP.out; simpa using this⟩

theorem tells_none' {a b : List (Nat × Int)} {t : List Int} (h : tellsP a t = none) : tellsP (a ++ b) t = none := by rw [tellsP_append, h]; rfl

def HaltP (p : Prop) : Prop := p

theorem haltP {p : Prop} (h : HaltP p) : p := h

theorem TellsP.nil {base bw gt ct gb cb n : Nat} {told : List Int} {taken : List Bool} {bs : List Nat} {lst : Nat} {w' : World} (h : St w' base bw gt ct gb cb n told taken bs lst) (hf : Fr bw gt gb w w') : TellsP base bw gt ct gb cb n told taken [] true w w' :=
  ⟨told, bs, lst, h, hf, .inl ⟨rfl, rfl⟩⟩

/-- One telling more. -/
theorem TellsP.snoc {base bw gt ct gb cb n : Nat} {told told' : List Int} {taken : List Bool} {l : List (Nat × Int)} {k : Nat} {d : Int} {b : Bool} {w1 w2 : World}
    (h2 : Fr bw gt gb w w1) (h3 : tellsP l told = some told') (ht : TellsP base bw gt ct gb cb n told' taken [(k, d)] b w1 w2) : TellsP base bw gt ct gb cb n told taken (l ++ [(k, d)]) b w w2 := by
  obtain ⟨t, bs', lst', q1, q2, q3⟩ := ht
  have e : tellsP (l ++ [(k, d)]) told = tellsP [(k, d)] told' := by rw [tellsP_append, h3]; rfl
  exact ⟨t, bs', lst', q1, h2.trans q2, by rw [e]; exact q3⟩

theorem cell_row5e {W : World} {g : Nat} {a b c d e : Value} {t : TypeId} (h : W.heap[g]? = some (.cells #[a, b, c, d, e] t (0, 0))) : W.cell? ⟨g, 0, none⟩ = some a ∧ W.cell? ⟨g, 4, none⟩ = some e := ⟨by rw [cell_of_row W g 0 _ _ _ h]; rfl, by rw [cell_of_row W g 4 _ _ _ h]; rfl⟩

set_option maxRecDepth 20000 in
set_option maxHeartbeats 4000000 in
theorem pnext_in {base bw gt ct gb cb n : Nat} {told : List Int} {taken : List Bool} {bs : List Nat} {lst : Nat} (h : St w base bw gt ct gb cb n told taken bs lst) (hn : n ≤ 16384) (i : In) (ho : i.op < 256) (pc : Nat) (d : Int) (hd : 0 ≤ d) (hx : ∀ q ∈ nextsP i pc, q < n) (ha : (i.op = 19 ∨ i.op = 20 ∨ i.op = 21) → 0 ≤ i.a) (ht : RowsT w) :
    Calls Tryz.prog 58 #[.pointer (some ⟨bw, 0, none⟩), .agg #[.int .u8 i.op, .int .i64 i.a], .int .i64 pc, .int .i64 d] w fun e w' => ∃ b, e = .returned (.bool b) ∧ TellsP base bw gt ct gb cb n told taken ((nextsP i pc).map (fun q => (q, d))) b w w' := by
  rw [row_nexts i pc] at hx ⊢
  have hpl := row_place i
  have hbw := h.wk.lt
  have hB0 := below1 w (.cells #[.int .u8 i.op, .int .i64 i.a] 38)
  have hz0 := heap_alloc_new w (.cells #[.int .u8 i.op, .int .i64 i.a] 38)
  have H := rowOf_in i.op ho (ht.below hB0)
  have HT : Hid _ := ht
  obtain ⟨op, a⟩ := i
  simp only at *
  unfold rwA at H
  generalize rowP op = r at *
  obtain ⟨nm, t, ea, lv, en⟩ := r
  simp only at *
  generalize rowOk op = rk at H
  -- the world behind the row
  have HB : Hid (∀ (o : Obj) (W : World), Below (w.alloc (.cells #[.int .u8 op, .int .i64 a] 38)).heap.size (w.alloc (.cells #[.int .u8 op, .int .i64 a] 38)) W → Below w.heap.size w (W.alloc o)) := fun o W hW => by
    have h1 := hB0.trans (hW.mono hB0.size)
    exact h1.alloc h1.size _
  have H1 : en = false → ∀ W, Below w.heap.size w W → Calls Tryz.prog 53 #[.pointer (some ⟨bw, 0, none⟩), .int .i64 ((pc : Int) + 1), .int .i64 d] W fun e w' => ∃ b, e = .returned (.bool b) ∧ TellsP base bw gt ct gb cb n told taken [(pc + 1, d)] b W w' :=
    fun e W hB => ptell_in (h.kept hB) hn (pc + 1) (hx (pc + 1) (by simp [e])) d hd
  have H2 : (nm = 6 ∨ nm = 7) → ∀ W t' bs' lst', St W base bw gt ct gb cb n t' taken bs' lst' → Calls Tryz.prog 53 #[.pointer (some ⟨bw, 0, none⟩), .int .i64 a, .int .i64 d] W fun e w' => ∃ b, e = .returned (.bool b) ∧ TellsP base bw gt ct gb cb n t' taken [(a.toNat, d)] b W w' := by
    intro e W t' bs' lst' hs
    have h0 := ha (hpl.1 e)
    have := ptell_in hs hn a.toNat (hx a.toNat (by simp [e])) d hd
    rw [Int.toNat_of_nonneg h0] at this
    exact this
  have HH : Hid _ := h
  have hpc : en = false → (pc : Int) < 16384 := fun e => by have := hx (pc + 1) (by simp [e]); omega
  clear ha hpl hx h ht
  cases en with
  | true =>
    by_cases hp : nm = 6 ∨ nm = 7
    · have H2' := H2 hp
      have e67 : ((nm : Int) == 6) = true ∨ (((nm : Int) == 6) = false ∧ ((nm : Int) == 7) = true) := by
        rcases hp with rfl | rfl
        · exact .inl rfl
        · exact .inr ⟨rfl, rfl⟩
      rw [if_pos rfl, if_pos hp]
      simp only [List.nil_append, List.map_cons, List.map_nil]
      clear H1 H2 hp
      rcases e67 with e6 | ⟨e6, e7⟩
      all_goals
        go_enter Tryz.func58, Tryz.ntmps58
        go_wp2_with (first
          | (go_at_call 48; (with_reducible refine H.mono ?_); clear H; rintro e w1 ⟨rfl, hw1⟩; have hB1 := HB.out (.cells #[.int .u8 nm, .int .u8 t, .int .u8 ea, .int .u8 lv, .bool true] 114) _ hw1; have cA := (cell_row2 ((Below.heap_alloc w1 (.cells #[.int .u8 nm, .int .u8 t, .int .u8 ea, .int .u8 lv, .bool true] 114) w.heap.size (Nat.lt_of_lt_of_le (by simp) hw1.size)).trans ((hw1.block w.heap.size (by simp)).trans hz0))).1.2; have H3 := H2' _ _ _ _ (HH.out.kept hB1))
          | (go_at_call 53; (with_reducible refine H3.mono ?_); clear H3; rintro e w3 ⟨b3, rfl, ht3⟩))
        go_ret
        exact ⟨_, rfl, ht3.to (.of_below hB1)⟩
    · have e6 : ((nm : Int) == 6) = false := by simp; omega
      have e7 : ((nm : Int) == 7) = false := by simp; omega
      rw [if_pos rfl, if_neg hp]
      simp only [List.nil_append, List.map_nil]
      clear H1 H2 hp
      go_enter Tryz.func58, Tryz.ntmps58
      go_wp2_with (first
        | (go_at_call 48; (with_reducible refine H.mono ?_); clear H; rintro e w1 ⟨rfl, hw1⟩; have hB1 := HB.out (.cells #[.int .u8 nm, .int .u8 t, .int .u8 ea, .int .u8 lv, .bool true] 114) _ hw1; have cA := (cell_row2 ((Below.heap_alloc w1 (.cells #[.int .u8 nm, .int .u8 t, .int .u8 ea, .int .u8 lv, .bool true] 114) w.heap.size (Nat.lt_of_lt_of_le (by simp) hw1.size)).trans ((hw1.block w.heap.size (by simp)).trans hz0))).1.2))
      go_ret
      exact ⟨_, rfl, .nil (HH.out.kept hB1) (.of_below hB1)⟩
  | false =>
    have H1' := H1 rfl
    have hpc' := hpc rfl
    clear H1 hpc
    by_cases hp : nm = 6 ∨ nm = 7
    · have H2' := H2 hp
      have e67 : ((nm : Int) == 6) = true ∨ (((nm : Int) == 6) = false ∧ ((nm : Int) == 7) = true) := by
        rcases hp with rfl | rfl
        · exact .inl rfl
        · exact .inr ⟨rfl, rfl⟩
      rw [if_neg (by simp), if_pos hp]
      simp only [List.map_append, List.map_cons, List.map_nil]
      clear H2 hp
      rcases e67 with e6 | ⟨e6, e7⟩
      all_goals
        go_enter Tryz.func58, Tryz.ntmps58
        go_wp2_with (first
          | (go_at_call 48; (with_reducible refine H.mono ?_); clear H; rintro e w1 ⟨rfl, hw1⟩; have hB1 := HB.out (.cells #[.int .u8 nm, .int .u8 t, .int .u8 ea, .int .u8 lv, .bool false] 114) _ hw1; have cA := (cell_row2 ((Below.heap_alloc w1 (.cells #[.int .u8 nm, .int .u8 t, .int .u8 ea, .int .u8 lv, .bool false] 114) w.heap.size (Nat.lt_of_lt_of_le (by simp) hw1.size)).trans ((hw1.block w.heap.size (by simp)).trans hz0))).1.2; have H3 := H1' _ hB1)
          | (go_at_call 53; (with_reducible refine H3.mono ?_); clear H3 H1'; rintro e w3 ⟨b3, rfl, ht3⟩; refine haltP ?_))
        unfold HaltP
        obtain ⟨t', bs', lst', st3, fr3, hb3⟩ := ht3
        have fr0 := (Fr.of_below (bw := bw) (gt := gt) (gb := gb) hB1).trans fr3
        have hl1 := HH.out.wk.lt
        have hl2 := HH.out.wk.tr.lt.2
        have hl3 := HH.out.wk.br.lt.2
        have hws := hw1.size
        simp only [World.size_alloc] at hws
        rcases hb3 with ⟨rfl, hs3⟩ | ⟨rfl, hs3⟩
        · have r3 : w3.heap[w1.heap.size]? = some (.cells #[.int .u8 nm, .int .u8 t, .int .u8 ea, .int .u8 lv, .bool false] 114 (0, 0)) :=
            (fr3.block _ (by simp) (by omega) (by omega) (by omega)).trans (heap_alloc_new w1 _)
          obtain ⟨cB0, cB4⟩ := cell_row5e r3
          have cI := (cell_row2 ((fr3.block w.heap.size (by simp; omega) (by omega) (by omega) (by omega)).trans ((Below.heap_alloc w1 (.cells #[.int .u8 nm, .int .u8 t, .int .u8 ea, .int .u8 lv, .bool false] 114) w.heap.size (by omega)).trans ((hw1.block w.heap.size (by simp)).trans hz0)))).1.2
          have H4 := H2' w3 t' bs' lst' st3
          clear H2' r3 cA hw1 hl1 hl2 hl3
          go_wp2_with (first
            | (go_at_call 53; (with_reducible refine H4.mono ?_); clear H4; rintro e w4 ⟨b4, rfl, ht4⟩))
          go_ret
          exact ⟨_, rfl, .snoc fr0 hs3 ht4⟩
        · clear H2' cA hw1
          go_wp2
          go_ret
          exact ⟨_, rfl, t', bs', lst', st3, fr0, .inr ⟨rfl, tells_none' hs3⟩⟩
    · have e6 : ((nm : Int) == 6) = false := by simp; omega
      have e7 : ((nm : Int) == 7) = false := by simp; omega
      rw [if_neg (by simp), if_neg hp]
      simp only [List.append_nil, List.map_cons, List.map_nil]
      clear H2 hp
      go_enter Tryz.func58, Tryz.ntmps58
      go_wp2_with (first
        | (go_at_call 48; (with_reducible refine H.mono ?_); clear H; rintro e w1 ⟨rfl, hw1⟩; have hB1 := HB.out (.cells #[.int .u8 nm, .int .u8 t, .int .u8 ea, .int .u8 lv, .bool false] 114) _ hw1; have cA := (cell_row2 ((Below.heap_alloc w1 (.cells #[.int .u8 nm, .int .u8 t, .int .u8 ea, .int .u8 lv, .bool false] 114) w.heap.size (Nat.lt_of_lt_of_le (by simp) hw1.size)).trans ((hw1.block w.heap.size (by simp)).trans hz0))).1.2; have H3 := H1' _ hB1)
        | (go_at_call 53; (with_reducible refine H3.mono ?_); clear H3 H1'; rintro e w3 ⟨b3, rfl, ht3⟩; refine haltP ?_))
      unfold HaltP
      obtain ⟨t', bs', lst', st3, fr3, hb3⟩ := ht3
      have fr0 := (Fr.of_below (bw := bw) (gt := gt) (gb := gb) hB1).trans fr3
      have hl1 := HH.out.wk.lt
      have hl2 := HH.out.wk.tr.lt.2
      have hl3 := HH.out.wk.br.lt.2
      have hws := hw1.size
      simp only [World.size_alloc] at hws
      rcases hb3 with ⟨rfl, hs3⟩ | ⟨rfl, hs3⟩
      · have r3 : w3.heap[w1.heap.size]? = some (.cells #[.int .u8 nm, .int .u8 t, .int .u8 ea, .int .u8 lv, .bool false] 114 (0, 0)) :=
          (fr3.block _ (by simp) (by omega) (by omega) (by omega)).trans (heap_alloc_new w1 _)
        obtain ⟨cB0, cB4⟩ := cell_row5e r3
        clear r3 cA hw1
        go_wp2
        go_ret
        exact ⟨_, rfl, t', bs', lst', st3, fr0, .inl ⟨rfl, hs3⟩⟩
      · clear cA hw1
        go_wp2
        go_ret
        exact ⟨_, rfl, t', bs', lst', st3, fr0, .inr ⟨rfl, hs3⟩⟩

end Go.Proofs.YtnekcomkochmjaaGreatDoor

namespace Go.Proofs.YtnekcomkochmjaaGreatDoor
set_option linter.unusedVariables false
set_option linter.unusedSimpArgs false
open Go.RowKit

variable {w : World}

set_option maxRecDepth 20000 in
set_option maxHeartbeats 1000000 in
theorem tz_core (x k idx : Nat) (hx0 : ((x : Int) == 0) = false)
    (key : IntKind.u64.wrap (bits BinOp.and IntKind.u64 (x : Int) (IntKind.u64.wrap (-(x : Int))) * 285870213051353865) / 288230376151711744 = (idx : Int))
    (hi : idx < 64) (hk : k < 64) (hcell : w.cell? ⟨4, idx, none⟩ = some (.int .u8 k)) :
    Calls Tryz.prog 91 #[.int .u64 x] w fun e w' => e = .returned (.int .i64 k) ∧ w' = w := by
  go_enter Tryz.func91, Tryz.ntmps91
  go_wp2_with (simp only [key])
  go_ret
  exact ⟨rfl, rfl⟩

theorem tz_in {x : Nat} (hx : x < 18446744073709551616) (h0 : x ≠ 0) (hT : TabAt 4 Lib.deBruijn64tab w) :
    Calls Tryz.prog 91 #[.int .u64 x] w fun e w' => e = .returned (.int .i64 (Lib.ctz 64 x : Nat)) ∧ w' = w := by
  obtain ⟨hlow, hk⟩ := Lib.lowest_bit 64 x h0 hx
  obtain ⟨hi, htab⟩ := Lib.deBruijn64_at _ hk
  have hcell := hT _ hi
  rw [htab] at hcell
  exact tz_core x _ _ (by simp; omega) (tz64_key x _ hx h0 hlow) hi hk hcell

end Go.Proofs.YtnekcomkochmjaaGreatDoor

namespace Go.Proofs.YtnekcomkochmjaaGreatDoor
set_option linter.unusedVariables false
set_option linter.unusedSimpArgs false
open Go.RowKit Go.Shelf

attribute [local go_sem] Oper.semAt_some

variable {w : World}

/-- The same but for the tape's count. -/
structure Dr (A B : World) : Prop where
  heap : B.heap = A.heap
  os : B.os = A.os
  tape : B.tape = A.tape
  output : B.output = A.output

theorem Dr.refl (A : World) : Dr A A := ⟨rfl, rfl, rfl, rfl⟩

theorem Dr.drew {A B : World} (h : Dr A B) : Dr A B.drew := ⟨h.heap, h.os, h.tape, h.output⟩

theorem Dr.below {A B : World} (h : Dr A B) (n : Nat) : Below n A B := ⟨h.os, h.tape, h.output, by rw [h.heap]; exact Nat.le_refl _, fun k _ => by rw [h.heap]⟩

/-- What the iterator reads. -/
structure Vw (bw gb cb : Nat) (bs : List Nat) (lst : Nat) (W : World) : Prop where
  c1 : W.cell? ⟨bw, 1, none⟩ = some (.slice (some ⟨gb, 0, none⟩) bs.length cb)
  c2 : W.cell? ⟨bw, 2, none⟩ = some (.int .i64 lst)
  f2 : W.frozen? ⟨bw, 2, none⟩ = false
  at_ : ∀ i, i < bs.length → W.cell? ⟨gb, i, none⟩ = some (.int .u64 (bs.getD i 0 : Nat)) ∧ W.frozen? ⟨gb, i, none⟩ = false
  ne : gb ≠ bw
  w64 : ∀ i, bs.getD i 0 < 2 ^ 64
  len : bs.length ≤ 100000
  tab : TabAt 4 Lib.deBruijn64tab W

/-- The iterator's contract: J stands between two rounds, Jr in one, Jx where a round has said 'no more'. -/
def TakesB (bw gb cb : Nat) : Prop :=
  ∀ (l : Nat) (J : Nat → List Nat → Nat → World → Prop) (Jr : Nat → Nat → World → Prop) (Jx : World → Prop) (W : World) (m0 : Nat) (bs0 : List Nat) (lst0 len : Nat),
    (∀ m bs lst A, J m bs lst A → Vw bw gb cb bs lst A ∧ bs.length = len ∧ lst ≤ len) →
    (∀ m bs lst A B, J m bs lst A → Dr A B → J m bs lst B) →
    (∀ m bs lst A B, J m bs lst A → lst < len → bs.getD lst 0 = 0 → Dr (A.setCell ⟨bw, 2, none⟩ (.int .i64 (lst + 1 : Nat))) B → J m bs (lst + 1) B) →
    (∀ m bs lst A B, J m bs lst A → lst < len → bs.getD lst 0 ≠ 0 → Dr (A.setCell ⟨gb, lst, none⟩ (.int .u64 (bs.getD lst 0 &&& (bs.getD lst 0 - 1) : Nat))) B → Jr m (64 * lst + Lib.ctz 64 (bs.getD lst 0)) B) →
    (∀ m pc A, Jr m pc A → YieldAt Fence.wide 0 Tryz.prog l #[.int .i64 pc] A fun e B => ∃ b, e = .returned (.bool b) ∧ ((b = true ∧ ∃ m' bs' lst', m' < m ∧ J m' bs' lst' B) ∨ (b = false ∧ Jx B))) →
    J m0 bs0 lst0 W →
    CallsIn Fence.wide 0 Tryz.prog 54 #[.pointer (some ⟨bw, 1, none⟩), .func (.yield l) #[] #[]] W fun e B => (∃ v, e = .returned v) ∧ ((∃ m bs lst, J m bs lst B ∧ len ≤ lst) ∨ Jx B)

theorem yield_anyT {n m l : Nat} {P : Program} {args : Array Value} {w : World} {R : Ending → World → Prop} (h : YieldAt Fence.wide n P l args w R) : YieldAt Fence.wide m P l args w R := by
  obtain ⟨fn, tmps, as_, body, hy, hF, hR⟩ := h
  exact ⟨fn, tmps, as_, body, hy, hF, fun c cs _ => hR c cs (room_wide _)⟩

theorem calls_anyT {n m : Nat} {P : Program} {f : FuncId} {args : Array Value} {w : World} {R : Ending → World → Prop} (h : CallsIn Fence.wide n P f args w R) : CallsIn Fence.wide m P f args w R := callsIn_wide.2 (callsIn_wide.1 h)

theorem wpIn_loop_relT {F : Fence} {n : Nat} {P : Program} {Q : Exit → Act → World → Prop} {a : Act} {w : World} {c : Code} (Rel : Nat → Act → World → Prop) (N : Nat) (h : Rel N a w) (h0 : ∀ A W, ¬ Rel 0 A W)
    (hs : ∀ N A W, Rel (N + 1) A W → c.wpIn F n P (Exit.then (fun a' w' => Rel N a' w') Q) A W) : (Code.loop c).wpIn F n P Q a w := by
  refine wpIn_loop_rounds N ?_
  have key : ∀ N A W, Rel N A W → Code.roundsIn F n P c Q N A W := by
    intro N
    induction N with
    | zero => intro A W hr; exact (h0 A W hr).elim
    | succ N ih =>
      intro A W hr
      rw [roundsIn_succ]
      exact Code.wpIn_mono (fun e a w q => by cases e <;> first | exact ih _ _ q | exact q) (hs N A W hr)
  exact key N a w h

/-- What stands at the head of the iterator's loop. -/
def TkRel (bw l len : Nat) (J : Nat → List Nat → Nat → World → Prop) (N : Nat) (A : Act) (W : World) : Prop :=
  ∃ (x2 x3 x4 x5 x6 x7 x8 x9 x10 x11 x12 x13 x14 x15 x16 x17 x18 x19 x20 x21 x22 x23 x24 x25 x26 x27 x28 x29 x30 x31 x32 x33 x34 x35 x36 x37 x38 x39 x40 x41 x42 x43 x44 x45 x46 x47 x48 x49 x50 x51 x52 x53 x54 x55 x56 x57 : Value) (m : Nat) (bs : List Nat) (lst : Nat), A = { tmps := #[.pointer (some ⟨bw, 1, none⟩), .func (.yield l) #[] #[], x2, x3, x4, x5, x6, x7, x8, x9, x10, x11, x12, x13, x14, x15, x16, x17, x18, x19, x20, x21, x22, x23, x24, x25, x26, x27, x28, x29, x30, x31, x32, x33, x34, x35, x36, x37, x38, x39, x40, x41, x42, x43, x44, x45, x46, x47, x48, x49, x50, x51, x52, x53, x54, x55, x56, x57], defers := [] } ∧ J m bs lst W ∧ m * (len + 2) + (len - lst) + 1 ≤ N

set_option maxRecDepth 100000 in
set_option maxHeartbeats 4000000 in
theorem taken_in (bw gb cb : Nat) : TakesB bw gb cb := by
  intro l J Jr Jx W m0 bs0 lst0 len hV hD hS hP hY h0
  refine calls_anyT (n := 1) ?_
  refine callsIn_of_wp Tryz.func54 rfl trivial ?_ rfl
  simp only [Tryz.ntmps54, List.size_toArray, List.length_cons, List.length_nil, Nat.reduceAdd, Nat.reduceSub, Array.replicate_succ, Array.replicate_zero, List.push_toArray, List.append_toArray, List.nil_append, List.cons_append]
  gi_wp2
  refine wpIn_loop_relT (TkRel bw l len J) (m0 * (len + 2) + (len - lst0) + 1) ⟨_, _, _, _, _, _, _, _, _, _, _, _, _, _, _, _, _, _, _, _, _, _, _, _, _, _, _, _, _, _, _, _, _, _, _, _, _, _, _, _, _, _, _, _, _, _, _, _, _, _, _, _, _, _, _, _, m0, bs0, lst0, rfl, h0, Nat.le_refl _⟩ ?_ ?_
  · rintro A V ⟨_, _, _, _, _, _, _, _, _, _, _, _, _, _, _, _, _, _, _, _, _, _, _, _, _, _, _, _, _, _, _, _, _, _, _, _, _, _, _, _, _, _, _, _, _, _, _, _, _, _, _, _, _, _, _, _, m, bs, lst, -, -, hle⟩
    omega
  · rename World => w0
    clear h0
    rintro N A W ⟨x2, x3, x4, x5, x6, x7, x8, x9, x10, x11, x12, x13, x14, x15, x16, x17, x18, x19, x20, x21, x22, x23, x24, x25, x26, x27, x28, x29, x30, x31, x32, x33, x34, x35, x36, x37, x38, x39, x40, x41, x42, x43, x44, x45, x46, x47, x48, x49, x50, x51, x52, x53, x54, x55, x56, x57, m, bs, lst, rfl, hJ, hN⟩
    obtain ⟨⟨c1, c2, f2, hat, hne, hw, hlen, htab⟩, hbl, hll⟩ := hV m bs lst W hJ
    have hJ' : Hid _ := hJ
    have hlen' : Hid (bs.length = len) := hbl
    by_cases hl : lst < len
    · have hl' : (lst : Int) < (bs.length : Int) := by omega
      obtain ⟨ca, fa⟩ := hat lst (by omega)
      obtain ⟨b, hb⟩ : ∃ b, bs.getD lst 0 = b := ⟨_, rfl⟩
      have hb64 := hw lst
      rw [hb] at ca hb64
      have HB : Hid _ := hb
      have hne' : ¬ bw = gb := fun e => hne e.symm
      by_cases hb0 : b = 0
      · subst hb0
        have hS' := hS m bs lst W
        have ca : W.cell? ⟨gb, lst, none⟩ = some (.int .u64 0) := ca
        clear hat hw hb hJ hbl hV hP hY
        gi_wp2
        gi_region
        gi_wp2
        gi_region
        gi_wp2
        have hJ2 := hS' ((W.drew.drew).setCell ⟨bw, 2, none⟩ (.int .i64 (lst + 1 : Nat))) hJ'.out hl HB.out ⟨rfl, rfl, rfl, rfl⟩
        refine ⟨_, _, _, _, _, _, _, _, _, _, _, _, _, _, _, _, _, _, _, _, _, _, _, _, _, _, _, _, _, _, _, _, _, _, _, _, _, _, _, _, _, _, _, _, _, _, _, _, _, _, _, _, _, _, _, _, m, bs, lst + 1, rfl, hJ2, by omega⟩
      · have hpk := hP m bs lst W
        have hz : ((b : Int) == 0) = false := by simp; omega
        have hand : bits BinOp.and IntKind.u64 (b : Int) ((b : Int) - 1) = ((b &&& (b - 1) : Nat) : Int) := by
          have e1 : ((b : Int) - 1) = ((b - 1 : Nat) : Int) := by omega
          rw [e1]
          exact bits_and_u64_nat _ _ (by omega) (by omega)
        rw [hb] at hpk
        clear hw hb hJ hbl hV hS
        gi_wp2
        gi_region
        gi_wp2
        gi_region
        gi_wp2
        gi_region
        gi_wp2
        obtain ⟨V, hVd⟩ : ∃ V, (W.setCell ⟨gb, lst, none⟩ (.int .u64 (b &&& (b - 1) : Nat))).drew.drew.drew = V := ⟨_, rfl⟩
        have hJr := hpk V.drew hJ'.out hl hb0 (by rw [← hVd]; exact ⟨rfl, rfl, rfl, rfl⟩)
        have d2 : V.cell? ⟨bw, 2, none⟩ = some (.int .i64 lst) := by
          rw [← hVd]
          exact (World.cell?_of_block (a := ⟨bw, 2, none⟩) (heap_setCell_other W ⟨gb, lst, none⟩ bw _ hne')).trans c2
        have hTB : TabAt 4 Lib.deBruijn64tab V.drew := fun q hq => by
          have h1 := htab q hq
          rw [← hVd]
          refine (World.cell?_of_block (a := ⟨4, q, none⟩) (heap_setCell_other W ⟨gb, lst, none⟩ 4 _ (fun e => ?_))).trans h1
          have h2 := htab 0 (by decide)
          have h3 := (hat 0 (by omega)).1
          have e' : 4 = gb := e
          rw [e', h3] at h2
          simp at h2
        have HTZ := tz_in (w := V.drew) (x := b) (by omega) hb0 hTB
        obtain ⟨k, hk⟩ : ∃ k, Lib.ctz 64 b = k := ⟨_, rfl⟩
        have hk64 : k < 64 := by rw [← hk]; exact (low_bits hb0 hb64).1
        have hk64' : (k : Int) < 64 := by omega
        have hl100 : (lst : Int) < 100000 := by omega
        have hw1 : IntKind.i64.wrap (64 * (lst : Int)) = 64 * (lst : Int) := by rw [IntKind.wrap_i64]; omega
        have hw2 : IntKind.i64.wrap (64 * (lst : Int) + (k : Int)) = 64 * (lst : Int) + (k : Int) := by rw [IntKind.wrap_i64]; omega
        rw [hk] at hJr HTZ
        obtain ⟨fn, tmps, assign, body, hy, hR⟩ := hY m _ _ hJr
        simp only [Int.natCast_add, Int.natCast_mul, Int.cast_ofNat_Int] at hy
        rw [hVd]
        clear hand hpk hY hJr hTB hk hat htab hD
        gi_region_with (first
          | (refine ⟨trivial, ?_⟩; gi_at_call 91; refine (callsIn_wide.2 HTZ).mono ?_; rintro e w1 ⟨rfl, rfl⟩)
          | (refine hR.mono ?_; rintro e W3 ⟨b3, rfl, hR3⟩))
        all_goals
          clear hy hw1 hw2 hVd d2 ca fa c1 c2 f2
          rcases hR3 with ⟨rfl, m', bs', lst', hm', hJ3⟩ | ⟨rfl, hx⟩
          · go_simp
            gi_wp2
            refine ⟨_, _, _, _, _, _, _, _, _, _, _, _, _, _, _, _, _, _, _, _, _, _, _, _, _, _, _, _, _, _, _, _, _, _, _, _, _, _, _, _, _, _, _, _, _, _, _, _, _, _, _, _, _, _, _, _, m', bs', lst', rfl, hJ3, ?_⟩
            have h1 : (m' + 1) * (len + 2) ≤ m * (len + 2) := Nat.mul_le_mul_right _ hm'
            rw [Nat.succ_mul] at h1
            omega
          · go_simp
            gi_wp2
            refine bodyPost_ret (results_none (by rfl) _ _ _) (by rfl) ?_
            exact ⟨⟨_, rfl⟩, .inr hx⟩
    · have hl' : ¬ ((lst : Int) < (bs.length : Int)) := by omega
      clear hat hw hJ hbl hV hP hS hY
      gi_wp2
      gi_region
      gi_wp2
      refine bodyPost_end (results_none (by rfl) _ _ _) (by rfl) ?_
      exact ⟨⟨_, rfl⟩, .inl ⟨m, bs, lst, hD _ _ _ _ _ hJ'.out ⟨rfl, rfl, rfl, rfl⟩, by omega⟩⟩

end Go.Proofs.YtnekcomkochmjaaGreatDoor
