/- law11's apart: two stores share no memory. -/
import Derived.Test.YtgokofomoachaaaGreatDoorBkApart
import Derived.Test.YtgokofomoachaaaGreatDoorPoText
namespace Go.Proofs.YtgokofomoachaaaGreatDoor
set_option linter.unusedVariables false
set_option linter.unusedSimpArgs false
open Go.RowKit
open Bk

variable {w : World}

theorem bok_new (n₀ : Nat) (hb : n₀ ≤ w.heap.size) : Bok n₀ w.heap.size 0 (.slice none 0 0) (.slice none 0 0) (w.alloc (bookObj 0 (.slice none 0 0) (.slice none 0 0))) [] [] :=
  ⟨⟨hb, heap_alloc_new w _, ⟨by simp [hcells], .inl ⟨rfl, rfl⟩⟩, by simp, by simp⟩, ⟨hb, heap_alloc_new w _, ⟨by simp [hcells], .inl ⟨rfl, rfl⟩⟩, by simp, by simp⟩⟩

theorem heV_HA {base n₀ : Nat} {v : Value} {ts : List Po} (h : OwnSt base v ts w) (hb : n₀ ≤ base) (N : Nat) : ∀ y ∈ heV N ts, Bv.HA n₀ w y := by
  intro y hy
  obtain ⟨x, hx, e1, e2, e3⟩ := heV_mem ts N y hy
  exact ⟨e2, _, by rw [e1, e3]; exact row_mono2 (h.lst x hx) hb⟩

/-- Two stores apart. -/
structure Ap (va : Value) (ta : List Po) (vb : Value) (tb : List Po) : Prop where
  row : ∀ k, va.ownBlock = some k → vb.ownBlock ≠ some k
  lst : ∀ x ∈ ta, ∀ y ∈ tb, ∀ k, x.lv.ownBlock = some k → y.lv.ownBlock ≠ some k

theorem Ap.of_base {base b1 : Nat} {va vb : Value} {ta tb : List Po} {w1 : World} (ha : OwnSt base va ta w1) (hb : OwnSt b1 vb tb w) (h : w1.heap.size ≤ b1) : Ap va ta vb tb :=
  ⟨fun k e1 e2 => by have := (ha.row.lt k e1).2; have := (hb.row.lt k e2).1; omega, fun x hx y hy k e1 e2 => by have := ((ha.lst x hx).lt k e1).2; have := ((hb.lst y hy).lt k e2).1; omega⟩

theorem Bok.keepT {n₀ bk N : Nat} {vp op : Value} {H O : List He} {w2 : World} (h : Bok n₀ bk N vp op w H O) (hK : KStep (own2 bk vp op) w w2) {wa : World} (hw : wa.heap.size ≤ bk) (hk : KeepT wa w) (hs : wa.heap.size ≤ w.heap.size) : KeepT wa w2 := fun k cur t hlt hc ht => by
  have e := hk k cur t hlt hc ht
  refine (hK.block k (by omega) (fun ho => ?_)).trans e
  rcases ho with rfl | ho | ho
  · omega
  · obtain ⟨cu, h1⟩ := row_obj h.v.row ho
    rw [e, hc] at h1; cases h1
    exact ht.2.1 rfl
  · obtain ⟨cu, h1⟩ := row_obj h.o.row ho
    rw [e, hc] at h1; cases h1
    exact ht.2.2.2 rfl

set_option maxRecDepth 20000 in
set_option maxHeartbeats 1000000 in
theorem apart11_in {base : Nat} {va vb : Value} {ta tb : List Po} (ha : OwnSt base va ta w) (hb : OwnSt base vb tb w) (hap : Ap va ta vb tb) (h1 : ta.length ≤ 190000) (h2 : tb.length ≤ 190000) (hl1 : ∀ x ∈ ta, x.o.l.length ≤ 1048576) (hl2 : ∀ x ∈ tb, x.o.l.length ≤ 1048576) (hT : Bo.TabN base w) (hbs : base ≤ w.heap.size) :
    Calls Tryz.prog 15 #[va, vb] w fun e w' => e = .returned (.bool true) ∧ Below base w w' ∧ KeepT w w' := by
  have B0 := bok_new (w := w) base hbs
  have hA := below1 w (bookObj 0 (.slice none 0 0) (.slice none 0 0))
  have ha1 := ha.below hA
  have hb1 := hb.below hA
  have hA' : Below base w _ := hA.mono hbs
  have HT1 := hT.step hA'
  have q0 : KeepT w (w.alloc (bookObj 0 (.slice none 0 0) (.slice none 0 0))) := KeepT.of_below hA
  have sz1 := hA.size
  generalize hW1 : w.alloc (bookObj 0 (.slice none 0 0) (.slice none 0 0)) = W1 at *
  have H1 := B0.store ha1 (by simp; omega) (by omega) (by simp) hl1
  have K2 : ∀ {w2 vp op}, KStep (own2 w.heap.size (.slice none 0 0) (.slice none 0 0)) W1 w2 → Bok base w.heap.size (0 + ta.length + 1) vp op w2 ([] ++ heV 0 ta) ([] ++ [⟨va, .slice none 0 0, 0 + ta.length + 1, ta.length⟩]) →
      OwnSt base va ta w2 ∧ OwnSt base vb tb w2 ∧ Below base W1 w2 ∧ (KeepT w w2 ∧ w.heap.size ≤ w2.heap.size) ∧ _ := fun {w2 vp op} hK hbk =>
    ⟨B0.away ha1 hK, B0.away hb1 hK, hK.below (fun k e => (B0.blk e).1) (by have := hA.size; omega), ⟨Bok.keepT B0 hK (Nat.le_refl _) q0 sz1, Nat.le_trans sz1 hK.size⟩, hbk.store (B0.away hb1 hK) (by simp [heV_len]; omega) (by omega) (by simp) hl2⟩
  have K3 : ∀ {w2 w3 vp op vp3 op3}, OwnSt base va ta w2 → OwnSt base vb tb w2 → Below base W1 w2 → (KeepT w w2 ∧ w.heap.size ≤ w2.heap.size) → Bok base w.heap.size (0 + ta.length + 1) vp op w2 ([] ++ heV 0 ta) ([] ++ [⟨va, .slice none 0 0, 0 + ta.length + 1, ta.length⟩]) → KStep (own2 w.heap.size vp op) w2 w3 →
      Bok base w.heap.size (0 + ta.length + 1 + tb.length + 1) vp3 op3 w3 ([] ++ heV 0 ta ++ heV (0 + ta.length + 1) tb) ([] ++ [⟨va, .slice none 0 0, 0 + ta.length + 1, ta.length⟩] ++ [⟨vb, .slice none 0 0, 0 + ta.length + 1 + tb.length + 1, tb.length⟩]) →
      Below base w2 w3 ∧ (KeepT w w3 ∧ w.heap.size ≤ w3.heap.size) ∧ _ := fun {w2 w3 vp op vp3 op3} qa qb q1 qk hbk hK hb3 =>
    ⟨hK.below (fun k e => (hbk.blk e).1) (Nat.le_trans hbk.v.base (Nat.le_of_lt hbk.v.lt)), ⟨Bok.keepT hbk hK (Nat.le_refl _) qk.1 qk.2, Nat.le_trans qk.2 hK.size⟩, apart_all hb3
      (by
        intro y hy
        simp only [List.nil_append] at hy
        rcases List.mem_append.1 hy with hy | hy
        · exact heV_HA (hbk.away qa hK) (Nat.le_refl _) _ y hy
        · exact heV_HA (hbk.away qb hK) (Nat.le_refl _) _ y hy)
      (by
        intro y hy
        simp at hy
        rcases hy with rfl | rfl
        · exact ⟨rfl, _, (hbk.away qa hK).row⟩
        · exact ⟨rfl, _, (hbk.away qb hK).row⟩)
      (by
        simp only [List.nil_append]
        refine List.pairwise_append.2 ⟨heV_apt ta _ qa.one, heV_apt tb _ qb.one, ?_⟩
        intro x hx y hy k hk hk2
        obtain ⟨x', hx', e1, e2, -⟩ := heV_mem ta _ x hx
        obtain ⟨y', hy', f1, f2, -⟩ := heV_mem tb _ y hy
        refine hap.lst x' hx' y' hy' k ?_ ?_
        · rcases hk with e | e
          · rw [← e1]; exact e
          · rw [e2] at e; simp [Value.ownBlock] at e
        · rcases hk2 with e | e
          · rw [← f1]; exact e
          · rw [f2] at e; simp [Value.ownBlock] at e)
      (by
        simp only [List.nil_append, List.cons_append, Apt]
        refine List.pairwise_cons.2 ⟨?_, by simp⟩
        intro y hy k hk hk2
        simp at hy; subst hy
        refine hap.row k ?_ ?_
        · rcases hk with e | e
          · exact e
          · simp [Value.ownBlock] at e
        · rcases hk2 with e | e
          · exact e
          · simp [Value.ownBlock] at e)
      ((HT1.step q1).step (hK.below (fun k e => (hbk.blk e).1) (Nat.le_trans hbk.v.base (Nat.le_of_lt hbk.v.lt))))⟩
  obtain ⟨pa, ca, hva, -⟩ := own_slice ha.row
  obtain ⟨pb, cb, hvb, -⟩ := own_slice hb.row
  clear ha hb ha1 hb1 B0 hT HT1 hap hl1 hl2
  subst hW1
  subst hva
  subst hvb
  go_enter Tryz.func15, Tryz.ntmps15
  go_wp2_with (first
    | (go_at_call 37; refine H1.mono ?_; clear H1; rintro e w2 ⟨rfl, vp, op, g1, g2, -, -⟩; obtain ⟨q1, q2, q3, qk, H2⟩ := K2 g2 g1))
  go_wp2_with (first
    | (go_at_call 37; refine H2.mono ?_; clear H2; rintro e w3 ⟨rfl, vp3, op3, j1, j2, -, -⟩; obtain ⟨r1, rk, H3⟩ := K3 q1 q2 q3 qk g1 j2 j1))
  go_wp2_with (first
    | (go_at_call 38; refine H3.mono ?_; clear H3; rintro e w4 ⟨rfl, r2, r3⟩))
  go_ret
  exact ⟨rfl, ((hA'.trans q3).trans r1).trans r2, rk.1.trans rk.2 r3⟩

end Go.Proofs.YtgokofomoachaaaGreatDoor

namespace Go.Proofs.YtgokofomoachaaaGreatDoor
set_option linter.unusedVariables false
set_option linter.unusedSimpArgs false
open Go.RowKit

variable {w : World}

/-- Each list lies in a block of its own. -/
def OneG (ts : List Ot) : Prop := ∀ (i j : Nat) (x y : Ot), ts[i]? = some x → ts[j]? = some y → x.g = y.g → i = j

theorem OneG.nil : OneG [] := fun i j x y h => by simp at h

theorem OneG.snoc {ts : List Ot} {z : Ot} (h : OneG ts) (hz : ∀ x ∈ ts, x.g ≠ z.g) : OneG (ts ++ [z]) := by
  intro i j x y hi hj e
  have hc : ∀ {k : Nat} {u : Ot}, (ts ++ [z])[k]? = some u → (k < ts.length ∧ ts[k]? = some u) ∨ (k = ts.length ∧ u = z) := fun {k u} hk => by
    have hl := (List.getElem?_eq_some_iff.1 hk).1
    simp at hl
    by_cases hlt : k < ts.length
    · rw [List.getElem?_append_left hlt] at hk; exact .inl ⟨hlt, hk⟩
    · have : k = ts.length := by omega
      subst this
      simp at hk
      exact .inr ⟨rfl, hk.symm⟩
  rcases hc hi with ⟨h1, h2⟩ | ⟨h1, h2⟩ <;> rcases hc hj with ⟨h3, h4⟩ | ⟨h3, h4⟩
  · exact h i j x y h2 h4 e
  · subst h4; exact (hz x (List.mem_of_getElem? h2) e).elim
  · subst h2; exact (hz y (List.mem_of_getElem? h4) e.symm).elim
  · omega

set_option maxRecDepth 20000 in
set_option maxHeartbeats 2000000 in
theorem twinObjs1_in {p : Option Addr} {S : List Om} (c : Nat) (hs : IsSt w p S) (hlen : S.length ≤ 1048576) (hls : ∀ o ∈ S, o.l.length ≤ 1000000) :
    Calls Tryz.prog 48 #[.slice p S.length c] w fun e w' => ∃ g c, e = .returned (.slice (some ⟨g, 0, none⟩) S.length c) ∧ ∃ ts : List Ot, ts.map Ot.o = S ∧ TwinSt w.heap.size g c ts w' ∧ OneG ts ∧ Below w.heap.size w w' := by
  obtain ⟨i0, hi, hz0, hz1, hz2⟩ := info_parts infoO2
  go_enter Tryz.func48, Tryz.ntmps48
  go_wp2_with (first
    | (at_make; refine wpList_make_own w rfl _ _ 22 rfl w.heap.size 96 i0 (.agg #[.int .u8 0, .string ⟨#[]⟩, .slice none 0 0, .int .i64 0, .int .i64 0]) 5 Tryz.underlying22 hi hz0 hz1 .i64 .i64 _ (S.length + 1) rfl rfl (by simp) (by rw [hz2]; omega) (by unfold maxLen; omega) (Nat.le_refl _) ?_; intro w1 hown1 hgrow1))
  have hB1 : Below w.heap.size w w1 := rbelow_grown hgrow1 (fun q e => by cases e) (Nat.le_refl _)
  go_loopw [3, 4] (fun t k wr => ∃ (ts : List Ot) (rest : List Om), k = .int .i64 ts.length ∧ S = ts.map Ot.o ++ rest ∧ wr.ownsRow w.heap.size 96 5 t ts.length (ocells ts) ∧ (∀ x ∈ ts, TwinAt w.heap.size x.g x.c x.o.l wr) ∧ OneG ts ∧ Below w.heap.size w wr) (fun _ k _ => S.length - (intOf k).toNat)
  case atStart => exact ⟨[], S, rfl, rfl, hown1, by simp, OneG.nil, hB1⟩
  case round =>
    obtain ⟨ts, rest, rfl, hR, hrow, htw, hone, hB⟩ := hrel
    have hsz := hB.size
    cases rest with
    | nil =>
      have hR' : S = ts.map Ot.o := by simpa using hR
      have hpl : ts.length = S.length := by rw [hR']; simp
      have hq : ¬ ((ts.length : Int) < (S.length : Int)) := by omega
      rw [hpl] at hrow
      have HP : Hid _ := And.intro hpl hR'
      clear hR hR' hpl
      go_wp2_with (first
        | (at_builtin; refine wpList_append_own _ rfl _ _ 22 rfl w.heap.size 96 i0 (.agg #[.int .u8 0, .string ⟨#[]⟩, .slice none 0 0, .int .i64 0, .int .i64 0]) 5 64 Tryz.underlying22 hi hz0 hz1 hz2 rfl (by decide) _ S.length _ rfl (hrow.alloc _) ⟨wr.heap.size, 0, none⟩ 1 1 spareO rfl rfl (World.news_of_block (cs := #[.int .u8 0, .string ⟨#[115, 112, 97, 114, 101]⟩, .slice none 0 0, .int .i64 0, .int .i64 0]) (t := 96) (fr := (0, 0)) (heap_alloc_new wr _)) (by simp [spareO, Value.oneCell']) (by unfold maxLen; omega) (by omega) (by simp; omega) ?_; intro v4 w4 hown4 hgrow4 _; obtain ⟨g4, c4, rfl⟩ := ownsRow_succ2 hown4; obtain ⟨hc4, hc5⟩ := ownsRow_cap2 hown4))
      go_ret
      obtain ⟨hpl, hR'⟩ := HP.out
      rw [← hpl] at hown4
      refine ⟨g4, c4, rfl, ts, hR'.symm, ⟨hown4, fun x hx => ?_⟩, hone, (hB.alloc hB.size _).trans (rbelow_grown hgrow4 (fun q e => (hrow.lt q e).1) (by simp; omega))⟩
      have h1 := htw x hx
      refine h1.kept ((hgrow4.block _ (by have := h1.lt.2; simp; omega) (fun e => ?_)).trans (Below.heap_alloc _ _ _ h1.lt.2))
      obtain ⟨cur, hc⟩ := row_obj hrow e.symm
      obtain ⟨cur', hc'⟩ := h1.obj
      rw [hc] at hc'
      cases hc'
    | cons o rest =>
      have hlR : ts.length < S.length := by rw [hR]; simp
      have hSo : S[ts.length]? = some o := by rw [hR]; simp
      have hoS := List.mem_of_getElem? hSo
      obtain ⟨b0, off, rfl, c0, c1, ⟨q, cq, c2, hvq, -⟩, c3, c4⟩ := hs.look hB hSo
      have H1 := twinObj_in o q cq (hvq.below hB) (hls o hoS)
      unfold objV at H1
      have HR : Hid (S = ts.map Ot.o ++ o :: rest) := hR
      clear hR
      go_wp2_with (first
        | (go_at_call 153; refine H1.mono ?_; clear H1; rintro e w2 ⟨gg, cc, rfl, htg, hB2⟩; have hrow2 := row_below hrow hB2; have hsz2 := hB2.size)
        | (at_builtin; refine wpList_append_own _ rfl _ _ 22 rfl w.heap.size 96 i0 (.agg #[.int .u8 0, .string ⟨#[]⟩, .slice none 0 0, .int .i64 0, .int .i64 0]) 5 64 Tryz.underlying22 hi hz0 hz1 hz2 rfl (by decide) _ ts.length _ rfl (hrow2.alloc _) ⟨w2.heap.size, 0, none⟩ 1 1 (ocell ⟨o, gg, cc⟩) rfl rfl (World.news_of_block (cs := #[.int .u8 o.k, .string o.s, .slice (some ⟨gg, 0, none⟩) o.l.length cc, .int .i64 o.room, .int .i64 o.fn]) (t := 96) (fr := (0, 0)) (heap_alloc_new w2 _)) (by simp [ocell, Value.oneCell']) (by unfold maxLen; omega) (by omega) (by simp; omega) ?_; intro v4 w4 hown4 hgrow4 _))
      have e1 : (((ts ++ [(⟨o, gg, cc⟩ : Ot)]).length : Nat) : Int) = ts.length + 1 := by simp
      go_roundw
      case rel =>
        have hBg : Below w.heap.size w w4 := ((hB.trans (hB2.mono hsz)).alloc (by omega) _).trans (rbelow_grown hgrow4 (fun q e => (hrow2.lt q e).1) (by simp; omega))
        refine ⟨ts ++ [⟨o, gg, cc⟩], rest, by rw [e1], by have := HR.out; simpa using this, ?_, ?_, hone.snoc (fun x hx => by have h1 := (htw x hx).lt.2; have h2 := htg.lt.1; show x.g ≠ gg; omega), hBg⟩
        · rw [ocells_append, show (ts ++ [(⟨o, gg, cc⟩ : Ot)]).length = ts.length + 1 from List.length_append]
          simpa [ocells] using hown4
        · intro x hx
          have key : ∀ {y : Ot}, TwinAt w.heap.size y.g y.c y.o.l w2 → TwinAt w.heap.size y.g y.c y.o.l w4 := fun {y} h1 => by
            refine h1.kept ((hgrow4.block _ (by have := h1.lt.2; simp; omega) (fun e => ?_)).trans (Below.heap_alloc _ _ _ h1.lt.2))
            obtain ⟨cur, hc⟩ := row_obj hrow2 e.symm
            obtain ⟨cur', hc'⟩ := h1.obj
            rw [hc] at hc'
            cases hc'
          rcases List.mem_append.1 hx with hx | hx
          · exact key ((htw x hx).below hB2)
          · simp at hx; subst hx
            exact key (row_mono2 htg hsz)
      case measure => simp [intOf]; omega

set_option maxHeartbeats 1000000 in
theorem twinStore1_in {p : Option Addr} {S : List Om} (c : Nat) (hs : IsSt w p S) (hlen : S.length ≤ 1048576) (hls : ∀ o ∈ S, o.l.length ≤ 1000000) :
    Calls Tryz.prog 10 #[.slice p S.length c] w fun e w' => ∃ g c, e = .returned (.slice (some ⟨g, 0, none⟩) S.length c) ∧ ∃ ts : List Ot, ts.map Ot.o = S ∧ TwinSt w.heap.size g c ts w' ∧ OneG ts ∧ Below w.heap.size w w' := by
  have H := twinObjs1_in c hs hlen hls
  go_enter Tryz.func10, Tryz.ntmps10
  go_wp2_with (first
    | (go_at_call 48; (with_reducible refine H.mono ?_); clear H; rintro e w1 ⟨g, cc, rfl, hh⟩))
  go_ret
  exact ⟨g, cc, rfl, hh⟩

/-- A twin is a store of one's own. -/
theorem TwinSt.own {base G C : Nat} {ts : List Ot} {S : List Om} (h : TwinSt base G C ts w) (h1 : OneG ts) (hm : ts.map Ot.o = S) : OwnSt base (.slice (some ⟨G, 0, none⟩) S.length C) (ts.map poOf) w := by
  have hn : ts.length = S.length := by rw [← hm]; simp
  refine ⟨?_, ?_, ?_⟩
  · have := ownsRow_less h.row (by rw [ocells_len])
    rw [pcells_of, List.length_map, ← hn]
    exact this
  · intro x hx
    rw [List.mem_map] at hx
    obtain ⟨y, hy, rfl⟩ := hx
    have hv := h.vals y hy
    unfold TwinAt at hv
    rw [vcells_append] at hv
    exact ownsRow_less (xs := vcells y.o.l) hv (vcells_len _)
  · intro i j x y k hi hj e1 e2
    rw [List.getElem?_map] at hi hj
    cases hx : ts[i]? with
    | none => rw [hx] at hi; simp at hi
    | some x' =>
      cases hy : ts[j]? with
      | none => rw [hy] at hj; simp at hj
      | some y' =>
        rw [hx] at hi; simp at hi; subst hi
        rw [hy] at hj; simp at hj; subst hj
        simp [poOf, Value.ownBlock] at e1 e2
        exact h1 i j x' y' hx hy (by omega)

end Go.Proofs.YtgokofomoachaaaGreatDoor
