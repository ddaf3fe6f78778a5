/- A book that stores are told to, one behind the other. -/
import Derived.Test.YtgokofomoachaaaGreatDoorPoTwin
import Derived.Test.YtgokofomoachaaaGreatDoorPwDoc
import Derived.Test.YtgokofomoachaaaGreatDoorPmLives2
import Derived.Test.YtgokofomoachaaaGreatDoorPoSame2
namespace Go.Proofs.YtgokofomoachaaaGreatDoor
set_option linter.unusedVariables false
set_option linter.unusedSimpArgs false
open Go.RowKit
open Bk

variable {w w' : World} {n₀ bk hi m : Nat}

/-- A book: what it holds lies apart, below a block's number. -/
structure BkSo (n₀ bk : Nat) (w : World) (hi m N : Nat) (vp op : Value) (H O : List He) : Prop where
  bok : Bok n₀ bk N vp op w H O
  own : ∀ k, own2 bk vp op k → bk ≤ k
  hv : ∀ x ∈ H, Bv.HA n₀ w x
  ho : ∀ x ∈ O, Bo.HA n₀ w x
  av : Apt H
  ao : Apt O
  lv : ∀ x ∈ H, ∀ k, x.mine k → k < hi
  lo : ∀ x ∈ O, ∀ k, x.mine k → k < hi
  mv : H.length ≤ m
  mn : N ≤ m
  mo : O.length ≤ m
  lt : hi ≤ w.heap.size
  low : n₀ ≤ bk
  blt : bk < w.heap.size

def BkOk (n₀ bk : Nat) (w : World) (hi m : Nat) : Prop := ∃ N vp op H O, BkSo n₀ bk w hi m N vp op H O

theorem BkOk.new (w : World) (hb : n₀ ≤ w.heap.size) : BkOk n₀ w.heap.size (w.alloc (bookObj 0 (.slice none 0 0) (.slice none 0 0))) 0 0 :=
  ⟨0, _, _, [], [], bok_new n₀ hb, fun k e => by
    rcases e with e | e | e
    · omega
    · simp [Value.ownBlock] at e
    · simp [Value.ownBlock] at e, by simp, by simp, by simp [Apt], by simp [Apt], by simp, by simp, by simp, by omega, by simp, by omega, hb, by simp⟩

theorem BkSo.below {N : Nat} {vp op : Value} {H O : List He} (h : BkSo n₀ bk w hi m N vp op H O) (hB : Below w.heap.size w w') : BkSo n₀ bk w' hi m N vp op H O :=
  ⟨⟨h.bok.v.kept (fun k hk => hB.block k (h.bok.v.blocks hk).2.1), h.bok.o.kept (fun k hk => hB.block k (h.bok.o.blocks hk).2.1)⟩, h.own,
   fun x hx => (h.hv x hx).kept (fun k hk => hB.block k ((h.hv x hx).blocks hk).2.1), fun x hx => (h.ho x hx).kept (fun k hk => hB.block k ((h.ho x hx).blocks hk).2.1),
   h.av, h.ao, h.lv, h.lo, h.mv, h.mn, h.mo, Nat.le_trans h.lt hB.size, h.low, Nat.lt_of_lt_of_le h.blt hB.size⟩

theorem BkOk.below (h : BkOk n₀ bk w hi m) (hB : Below w.heap.size w w') : BkOk n₀ bk w' hi m := by
  obtain ⟨N, vp, op, H, O, h⟩ := h
  exact ⟨N, vp, op, H, O, h.below hB⟩

theorem BkSo.stepV {N : Nat} {vp op : Value} {H O : List He} (h : BkSo n₀ bk w hi m N vp op H O) (hK : KStep (own2 bk vp op) w w') : ∀ x ∈ H, Bv.HA n₀ w' x := fun x hx => (h.hv x hx).kept (fun k hk => by
  obtain ⟨_, hlt, _, cur, hc⟩ := (h.hv x hx).blocks hk
  refine hK.block k hlt (fun he => ?_)
  obtain ⟨_, _, cur', t, h1, h2, -⟩ := h.bok.blk he
  rw [hc] at h1; cases h1
  exact h2 rfl)

theorem BkSo.stepO {N : Nat} {vp op : Value} {H O : List He} (h : BkSo n₀ bk w hi m N vp op H O) (hK : KStep (own2 bk vp op) w w') : ∀ x ∈ O, Bo.HA n₀ w' x := fun x hx => (h.ho x hx).kept (fun k hk => by
  obtain ⟨_, hlt, _, cur, hc⟩ := (h.ho x hx).blocks hk
  refine hK.block k hlt (fun he => ?_)
  obtain ⟨_, _, cur', t, h1, -, h2⟩ := h.bok.blk he
  rw [hc] at h1; cases h1
  exact h2 rfl)

theorem own_own2 {vp op : Value} {k : Nat} (h : Bv.IsBk.own bk vp k) : own2 bk vp op k := by
  rcases h with e | e
  · exact .inl e
  · exact .inr (.inl e)

theorem BkOk.vals (h : BkOk n₀ bk w hi m) (hm : m < 300000) {p : Option Addr} {n c : Nat} {xs : List Value} (hrow : w.ownsRow n₀ 27 2 (.slice p n c) n xs) (hlo : ∀ k, (Value.slice p n c).ownBlock = some k → hi ≤ k) (hn : n ≤ 1048576) :
    Calls Tryz.prog 36 #[.pointer (some ⟨bk, 0, none⟩), .slice p n c] w fun e w' => e = .returned (.tuple #[]) ∧ BkOk n₀ bk w' w.heap.size (m + 1) ∧ Below bk w w' := by
  obtain ⟨N, vp, op, H, O, h⟩ := h
  refine Calls.mono (h.bok.vals (by have := h.mv; omega) (by have := h.mn; omega) p n c hn) ?_
  rintro e w' ⟨rfl, vp', hb, hK0, hvp⟩
  have hK : KStep (own2 bk vp op) w w' := hK0.mono (fun k e => own_own2 e)
  have hx : Bv.HA n₀ w ⟨.slice p n c, .slice none 0 0, N + 1, n⟩ := ⟨rfl, xs, hrow⟩
  have hx' : Bv.HA n₀ w' ⟨.slice p n c, .slice none 0 0, N + 1, n⟩ := hx.kept (fun k hk => by
    obtain ⟨_, hlt, _, cur, hc⟩ := hx.blocks hk
    refine hK.block k hlt (fun he => ?_)
    obtain ⟨_, _, cur', t, h1, h2, -⟩ := h.bok.blk he
    rw [hc] at h1; cases h1
    exact h2 rfl)
  have hsz := hK.size
  refine ⟨rfl, ⟨N + 1, vp', op, _, O, hb, ?_, ?_, h.stepO hK, ?_, h.ao, ?_, fun x hx k hk => Nat.lt_of_lt_of_le (h.lo x hx k hk) h.lt, by simp; have := h.mv; omega, by have := h.mn; omega, by have := h.mo; omega, hsz, h.low, Nat.lt_of_lt_of_le h.blt hsz⟩, hK.below h.own (Nat.le_of_lt h.blt)⟩
  · rintro k (e | e | e)
    · omega
    · rcases hvp k e with e2 | e2
      · exact h.own k (.inr (.inl e2))
      · have := h.blt; omega
    · exact h.own k (.inr (.inr e))
  · intro x hx
    rcases List.mem_append.1 hx with hx | hx
    · exact h.stepV hK x hx
    · simp at hx; subst hx; exact hx'
  · refine List.pairwise_append.2 ⟨h.av, by simp, ?_⟩
    intro x hx1 y hy k hk hk2
    simp at hy; subst hy
    have h1 := h.lv x hx1 k hk
    have h2 := hlo k (hx.blocks hk2).2.2.1
    omega
  · intro x hx1 k hk
    rcases List.mem_append.1 hx1 with hx1 | hx1
    · exact Nat.lt_of_lt_of_le (h.lv x hx1 k hk) h.lt
    · simp at hx1; subst hx1; exact (hx.blocks hk).2.1

theorem BkOk.store (h : BkOk n₀ bk w hi m) {base : Nat} {v : Value} {ts : List Po} (hs : OwnSt base v ts w) (hb0 : n₀ ≤ base) (hhi : hi ≤ base) (hm : m + ts.length < 390000) (hl : ∀ x ∈ ts, x.o.l.length ≤ 1048576) :
    Calls Tryz.prog 37 #[.pointer (some ⟨bk, 0, none⟩), v] w fun e w' => e = .returned (.tuple #[]) ∧ BkOk n₀ bk w' w.heap.size (m + ts.length + 1) ∧ Below bk w w' := by
  obtain ⟨N, vp, op, H, O, h⟩ := h
  refine Calls.mono (h.bok.store hs (by have := h.mv; omega) (by have := h.mn; omega) (by have := h.mo; omega) hl) ?_
  rintro e w' ⟨rfl, vp', op', hb, hK, hvp, hop⟩
  have hs' := h.bok.away hs hK
  have hsz := hK.size
  have hrl : ∀ y ∈ heV N ts, ∀ k, y.mine k → base ≤ k ∧ k < w.heap.size := fun y hy k hk => by
    obtain ⟨x, hx, e1, e2, -⟩ := heV_mem ts N y hy
    rcases hk with e | e
    · rw [e1] at e; exact (hs.lst x hx).lt k e
    · rw [e2] at e; simp [Value.ownBlock] at e
  have hro : ∀ k, (⟨v, .slice none 0 0, N + ts.length + 1, ts.length⟩ : He).mine k → base ≤ k ∧ k < w.heap.size := fun k hk => by
    rcases hk with e | e
    · exact hs.row.lt k e
    · simp [Value.ownBlock] at e
  refine ⟨rfl, ⟨N + ts.length + 1, vp', op', _, _, hb, ?_, ?_, ?_, ?_, ?_, ?_, ?_, by simp [heV_len]; have := h.mv; omega, by have := h.mn; omega, by simp; have := h.mo; omega, hsz, h.low, Nat.lt_of_lt_of_le h.blt hsz⟩, hK.below h.own (Nat.le_of_lt h.blt)⟩
  · rintro k (e | e | e)
    · omega
    · rcases hvp k e with e2 | e2
      · exact h.own k (.inr (.inl e2))
      · have := h.blt; omega
    · rcases hop k e with e2 | e2
      · exact h.own k (.inr (.inr e2))
      · have := h.blt; omega
  · intro x hx
    rcases List.mem_append.1 hx with hx | hx
    · exact h.stepV hK x hx
    · exact heV_HA hs' hb0 N x hx
  · intro x hx
    rcases List.mem_append.1 hx with hx | hx
    · exact h.stepO hK x hx
    · simp at hx; subst hx; exact ⟨rfl, _, row_mono2 hs'.row hb0⟩
  · refine List.pairwise_append.2 ⟨h.av, heV_apt ts N hs.one, ?_⟩
    intro x hx y hy k hk hk2
    have h1 := h.lv x hx k hk
    have h2 := (hrl y hy k hk2).1
    omega
  · refine List.pairwise_append.2 ⟨h.ao, by simp, ?_⟩
    intro x hx y hy k hk hk2
    simp at hy; subst hy
    have h1 := h.lo x hx k hk
    have h2 := (hro k hk2).1
    omega
  · intro x hx k hk
    rcases List.mem_append.1 hx with hx | hx
    · exact Nat.lt_of_lt_of_le (h.lv x hx k hk) h.lt
    · exact (hrl x hx k hk).2
  · intro x hx k hk
    rcases List.mem_append.1 hx with hx | hx
    · exact Nat.lt_of_lt_of_le (h.lo x hx k hk) h.lt
    · simp at hx; subst hx; exact (hro k hk).2

theorem BkOk.apart (h : BkOk n₀ bk w hi m) (hT : Bo.TabN n₀ w) : Calls Tryz.prog 38 #[.pointer (some ⟨bk, 0, none⟩)] w fun e w' => e = .returned (.bool true) ∧ Below n₀ w w' ∧ KeepT w w' := by
  obtain ⟨N, vp, op, H, O, h⟩ := h
  exact apart_all h.bok h.hv h.ho h.av h.ao hT

end Go.Proofs.YtgokofomoachaaaGreatDoor

namespace Go.Proofs.YtgokofomoachaaaGreatDoor
set_option linter.unusedVariables false
set_option linter.unusedSimpArgs false
open Go.RowKit
open Bk

variable {w : World}

/-- What stays there while things are made. -/
structure MkW (s1 s2 : Nat) (p q : Option Addr) (S : List Om) (l : List Vl) (G C g cg : Nat) (ts : List Ot) (W : World) : Prop where
  src : IsSt W p S
  ask : Ask W (some ⟨G, 0, none⟩) S
  twin : TwinSt s1 G C ts W
  vs : Vals W q l
  inn : TwinAt s2 g cg l W

theorem Ask.of_st {p q : Option Addr} {S : List Om} (h : Ask w p S) (hs : IsSt w q S) : Ask w q S := ⟨hs, h.len, h.vals, h.str, h.fit⟩

theorem inn_row {s g cg : Nat} {l : List Vl} (h : TwinAt s g cg l w) : w.ownsRow s 27 2 (.slice (some ⟨g, 0, none⟩) l.length cg) l.length (vcells l) := by
  unfold TwinAt at h
  rw [vcells_append] at h
  exact ownsRow_less h (vcells_len l)

theorem fldD0 (W : World) (b d e : Value) (s : ByteArray) (q : Option Addr) (n c : Nat) : (Instr.field 33 (.agg #[.slice q n c, b, d, .string s, e]) 0).run Tryz.prog W = .ok (.slice q n c) W := by kernel_rfl

set_option maxRecDepth 40000 in
set_option maxHeartbeats 16000000 in
theorem primMakes_walk (p : Option Addr) (S : List Om) (c : Nat) (t : ByteArray) (q : Option Addr) (l : List Vl) (cq : Nat) (w : World) (hs : IsSt w p S) (hb : Came S) (hfit : ∀ o ∈ S, o.fits) (hv : Vals w q l) (hlf : ∀ v ∈ l, v.fits) (htab : Tab w) :
    Calls Tryz.prog 5 #[.slice p S.length c, .string t, .slice q l.length cq] w fun e w' => e = .returned (.bool true) ∧ Below w.heap.size w w' := by
  have HL := fun (W : World) => lives_in W
  have H1 := beyond11_in c hs hb
  go_enter Tryz.func5, Tryz.ntmps5
  go_wp2_with (first
    | (go_at_call 8; (with_reducible refine H1.mono ?_); clear H1; rintro e w1 ⟨b9, rfl, hsm0, hB1⟩; refine halt_here ?_))
  unfold Halted
  cases b9 with
  | true =>
    clear hsm0
    go_wp2_with (first
      | (go_at_call 9; (with_reducible refine (HL _).mono ?_); rintro e w2 ⟨rfl, hB2⟩))
    go_ret
    exact ⟨rfl, hB1.trans (hB2.mono hB1.size)⟩
  | false =>
  by_cases hgl : 2000 < l.length
  · have hgl' : (2000 : Int) < (l.length : Int) := by omega
    clear hsm0
    go_wp2_with (first
      | (go_at_call 9; (with_reducible refine (HL _).mono ?_); rintro e w2 ⟨rfl, hB2⟩))
    go_ret
    exact ⟨rfl, hB1.trans (hB2.mono hB1.size)⟩
  have hgl' : ¬ ((2000 : Int) < (l.length : Int)) := by omega
  obtain ⟨hsum, hsm⟩ := hsm0 rfl
  clear hsm0
  have hl : S.length ≤ 1048576 := by omega
  have hw5 : ∀ o ∈ S, o.l.length ≤ 50000 := fun o ho => (hsm o ho).2
  have hw : ∀ o ∈ S, o.l.length ≤ 1000000 := fun o ho => by have := hsm o ho; omega
  have mkA : ∀ (W : World) (q : Option Addr), IsSt W q S → Ask W q S := fun W q h => ⟨h, hl, fun o ho => by have := hsm o ho; omega, fun o ho => by have := hsm o ho; omega, hfit⟩
  have H2 := twinStore1_in c (hs.below hB1) hl hw
  go_wp2_with (first
    | (go_at_call 10; (with_reducible refine H2.mono ?_); clear H2; rintro e w2 ⟨G, C, rfl, ts, hm, htw, hog, hB2⟩; refine halt_here ?_))
  unfold Halted
  have hB02 := hB1.trans (hB2.mono hB1.size)
  have H3 := twinV_in cq (hv.below hB02) (by omega)
  go_wp2_with (first
    | (go_at_call 24; (with_reducible refine H3.mono ?_); clear H3; rintro e w3 ⟨g, cg, rfl, htv, hB3⟩; refine halt_here ?_))
  unfold Halted
  have hB03 := hB02.trans (hB3.mono hB02.size)
  have mk : ∀ W, Below w3.heap.size w3 W → MkW w1.heap.size w2.heap.size p q S l G C g cg ts W := fun W hb =>
    ⟨hs.below (hB03.trans (hb.mono hB03.size)), mkA _ _ (by rw [← hm]; exact htw.isSt.below (hB3.trans (hb.mono hB3.size))), htw.below (hB3.trans (hb.mono hB3.size)), hv.below (hB03.trans (hb.mono hB03.size)), htv.below hb⟩
  obtain ⟨Da, hDa⟩ := textR_ex S t
  obtain ⟨Db, hDb⟩ := listR_ex S l
  obtain ⟨Dc, hDc⟩ := mapR_ex S l
  obtain ⟨Df, hDf⟩ := fnR_ex S (t.size : Int) l
  obtain ⟨Dg, hDg⟩ := fnR_ex S 0 l
  have hFa := text_fair hDa hw5
  have hFb := list_fair hDb (by omega) hw5
  have hFc := map_fair hDc (by omega) hw5
  have hFf := fn_fair hDf (by omega) hw5
  have hFg := fn_fair hDg (by omega) hw5
  have hcap := ownsRow_cap2 htv
  have s23 : w2.heap.size ≤ w3.heap.size := hB3.size
  have s12 : w1.heap.size ≤ w2.heap.size := hB2.size
  have hhs : ∀ W, Below w3.heap.size w3 W → Calls Tryz.prog 12 #[.slice p S.length c] W fun e w' => ∃ H p' c' ts, e = .returned (.pointer (some ⟨H, 0, none⟩)) ∧ Rh W.heap.size w' H S p' c' ts ∧ Below W.heap.size W w' := fun W hb => heap_in c (mk W hb).src hl hw
  have htab7 : ∀ W, Below w3.heap.size w3 W → Bo.TabN w2.heap.size W := fun W hb W' hb' => htab.below ((hB02.trans ((hB3.trans (hb.mono hB3.size)).mono hB02.size)).trans (hb'.mono hB02.size))
  have hfin0 : ∀ W, Below w3.heap.size w3 W → ∀ W', Below w2.heap.size W W' → Below w.heap.size w W' := fun W hb W' hb' => (hB02.trans ((hB3.trans (hb.mono hB3.size)).mono hB02.size)).trans (hb'.mono hB02.size)
  have hlib : l.length ≤ 2000 := by omega
  have hsm1 : S.length + 1 + sumL S + l.length ≤ 1048576 := by omega
  have HC : Hid _ := And.intro hm (And.intro hog (And.intro hsum hsm))
  have hinrow : ∀ W, Below w3.heap.size w3 W → ∃ xs, W.ownsRow w2.heap.size 27 2 (.slice (some ⟨g, 0, none⟩) l.length cg) l.length xs := fun W hb => ⟨_, inn_row (mk W hb).inn⟩
  have B3 : Below w3.heap.size w3 w3 := Below.refl _ _
  clear hs hb htv htw hv htab mkA hsum hsm hB1 hB2 hB3 hB02 hB03 hm hog hgl
  have HH := hhs w3 B3
  go_wp2_with (first
    | (go_at_call 12; (with_reducible refine HH.mono ?_); clear HH; rintro e na1 ⟨Ha, pha, cha, tha, rfl, hRa0, hX1⟩; refine halt_here ?_))
  unfold Halted
  have Bna1 := B3.trans (hX1.mono B3.size)
  have HO := rText_in hRa0 hX1.size (Ask.of_st (mk na1 Bna1).ask hRa0.isSt) t hDa
  go_wp2_with (first
    | (go_at_call 25; (with_reducible refine HO.mono ?_); clear HO; rintro e na2 ⟨rfl, hR1, hX2⟩; refine halt_here ?_))
  unfold Halted
  obtain ⟨pqa, cqa, tqa, hR1⟩ := hR1
  have hX12 := hX1.trans hX2
  have hXD := below1 na2 (.cells #[.int .u8 Da.v.k, .int .i64 Da.v.n, .string Da.t, .int .i64 Da.n] 38)
  have hda := heap_alloc_new na2 (.cells #[.int .u8 Da.v.k, .int .i64 Da.v.n, .string Da.t, .int .i64 Da.n] 38)
  have hX13 := hX12.trans (hXD.mono hX12.size)
  have hRa := hR1.below hXD
  have Bna3 := B3.trans (hX13.mono B3.size)
  clear hX1 hX2 hX12 hX13 hXD hR1 hRa0 Bna1
  go_upto_region 7 with fail
  generalize na2.alloc (.cells #[.int .u8 Da.v.k, .int .i64 Da.v.n, .string Da.t, .int .i64 Da.n] 38) = na3 at *
  generalize na2.heap.size = da at *
  have HH := hhs na3 Bna3
  go_wp2_with (first
    | (go_at_call 12; (with_reducible refine HH.mono ?_); clear HH; rintro e nb1 ⟨Hb, phb, chb, thb, rfl, hRb0, hX1⟩; refine halt_here ?_))
  unfold Halted
  have Bnb1 := Bna3.trans (hX1.mono Bna3.size)
  have HO := rList_in hRb0 hX1.size (Ask.of_st (mk nb1 Bnb1).ask hRb0.isSt) cq (mk nb1 Bnb1).vs (by omega) hDb
  go_wp2_with (first
    | (go_at_call 26; (with_reducible refine HO.mono ?_); clear HO; rintro e nb2 ⟨rfl, hR1, hX2⟩; refine halt_here ?_))
  unfold Halted
  obtain ⟨pqb, cqb, tqb, hR1⟩ := hR1
  have hX12 := hX1.trans hX2
  have hXD := below1 nb2 (.cells #[.int .u8 Db.v.k, .int .i64 Db.v.n, .string Db.t, .int .i64 Db.n] 38)
  have hdb := heap_alloc_new nb2 (.cells #[.int .u8 Db.v.k, .int .i64 Db.v.n, .string Db.t, .int .i64 Db.n] 38)
  have hX13 := hX12.trans (hXD.mono hX12.size)
  have hRb := hR1.below hXD
  have Bnb3 := Bna3.trans (hX13.mono Bna3.size)
  have hda := (hX13.block _ (Array.getElem?_eq_some_iff.1 hda).1).trans hda
  have hRa := hRa.below hX13
  clear hX1 hX2 hX12 hX13 hXD hR1 hRb0 Bnb1
  go_upto_region 9 with fail
  generalize nb2.alloc (.cells #[.int .u8 Db.v.k, .int .i64 Db.v.n, .string Db.t, .int .i64 Db.n] 38) = nb3 at *
  generalize nb2.heap.size = db at *
  have HH := hhs nb3 Bnb3
  go_wp2_with (first
    | (go_at_call 12; (with_reducible refine HH.mono ?_); clear HH; rintro e nc1 ⟨Hc, phc, chc, thc, rfl, hRc0, hX1⟩; refine halt_here ?_))
  unfold Halted
  have Bnc1 := Bnb3.trans (hX1.mono Bnb3.size)
  have HO := rMap_in hRc0 hX1.size (Ask.of_st (mk nc1 Bnc1).ask hRc0.isSt) cq (mk nc1 Bnc1).vs (by omega) hDc
  go_wp2_with (first
    | (go_at_call 27; (with_reducible refine HO.mono ?_); clear HO; rintro e nc2 ⟨rfl, hR1, hX2⟩; refine halt_here ?_))
  unfold Halted
  obtain ⟨pqc, cqc, tqc, hR1⟩ := hR1
  have hX12 := hX1.trans hX2
  have hXD := below1 nc2 (.cells #[.int .u8 Dc.v.k, .int .i64 Dc.v.n, .string Dc.t, .int .i64 Dc.n] 38)
  have hdc := heap_alloc_new nc2 (.cells #[.int .u8 Dc.v.k, .int .i64 Dc.v.n, .string Dc.t, .int .i64 Dc.n] 38)
  have hX13 := hX12.trans (hXD.mono hX12.size)
  have hRc := hR1.below hXD
  have Bnc3 := Bnb3.trans (hX13.mono Bnb3.size)
  have hda := (hX13.block _ (Array.getElem?_eq_some_iff.1 hda).1).trans hda
  have hRa := hRa.below hX13
  have hdb := (hX13.block _ (Array.getElem?_eq_some_iff.1 hdb).1).trans hdb
  have hRb := hRb.below hX13
  clear hX1 hX2 hX12 hX13 hXD hR1 hRc0 Bnc1
  go_upto_region 11 with fail
  generalize nc2.alloc (.cells #[.int .u8 Dc.v.k, .int .i64 Dc.v.n, .string Dc.t, .int .i64 Dc.n] 38) = nc3 at *
  generalize nc2.heap.size = dc at *
  have la := (Array.getElem?_eq_some_iff.1 hda).1
  have lb := (Array.getElem?_eq_some_iff.1 hdb).1
  have lc := (Array.getElem?_eq_some_iff.1 hdc).1
  have FCS : ∀ W', Below nc3.heap.size nc3 W' → (W'.cell? ⟨da, 0, none⟩ = some (.int .u8 Da.v.k) ∧ W'.cell? ⟨da, 1, none⟩ = some (.int .i64 Da.v.n) ∧ W'.cell? ⟨da, 2, none⟩ = some (.string Da.t) ∧ W'.cell? ⟨da, 3, none⟩ = some (.int .i64 Da.n)) ∧ (W'.cell? ⟨db, 0, none⟩ = some (.int .u8 Db.v.k) ∧ W'.cell? ⟨db, 1, none⟩ = some (.int .i64 Db.v.n) ∧ W'.cell? ⟨db, 2, none⟩ = some (.string Db.t) ∧ W'.cell? ⟨db, 3, none⟩ = some (.int .i64 Db.n)) ∧ (W'.cell? ⟨dc, 0, none⟩ = some (.int .u8 Dc.v.k) ∧ W'.cell? ⟨dc, 1, none⟩ = some (.int .i64 Dc.v.n) ∧ W'.cell? ⟨dc, 2, none⟩ = some (.string Dc.t) ∧ W'.cell? ⟨dc, 3, none⟩ = some (.int .i64 Dc.n)) := fun W' hb => ⟨(cell_row4D ((hb.block _ la).trans hda)).1, (cell_row4D ((hb.block _ lb).trans hdb)).1, (cell_row4D ((hb.block _ lc).trans hdc)).1⟩
  have hD := below_drew (Below.refl nc3.heap.size nc3)
  have S0 := FCS _ hD
  have SW := FCS _ (Below.refl _ _)
  have mkc : ∀ W, Below nc3.heap.size nc3 W → Below w3.heap.size w3 W := fun W hb => Bnc3.trans (hb.mono Bnc3.size)
  have HGa : ∀ W, Below nc3.heap.size nc3 W → Calls Tryz.prog 28 #[.slice (some ⟨G, 0, none⟩) S.length C, .string t] W (DidR W Da.S Da.v Da.t Da.n) := fun W hb => Text_in (mk W (mkc W hb)).ask C t Da hDa
  have HSa : ∀ (W : World) (pa : Option Addr) (ca : Nat), Below nc3.heap.size nc3 W → IsSt W pa Da.S → Calls Tryz.prog 14 #[.agg #[.slice pa Da.S.length ca, .int .u8 Da.v.k, .int .i64 Da.v.n, .string Da.t, .int .i64 Da.n], .pointer (some ⟨Ha, 0, none⟩), .agg #[.int .u8 Da.v.k, .int .i64 Da.v.n, .string Da.t, .int .i64 Da.n], .slice (some ⟨G, 0, none⟩) S.length C, .slice p S.length c] W fun e w' => e = .returned (.bool true) ∧ Below W.heap.size W w' := fun W pa ca hb hst => same11_in ⟨Da.v, Da.t, Da.n⟩ Da.n hFa.asks hst (hRa.below hb).at_ (hRa.below hb).isSt (by have := hFa.2.1; omega) (fun o ho => by have := hFa.2.2 o ho; omega) (mk W (mkc W hb)).twin HC.out.1 (mk W (mkc W hb)).src hl hw
  have HGb : ∀ W, Below nc3.heap.size nc3 W → Calls Tryz.prog 29 #[.slice (some ⟨G, 0, none⟩) S.length C, .slice (some ⟨g, 0, none⟩) l.length cg] W (DidR W Db.S Db.v Db.t Db.n) := fun W hb => List_in (mk W (mkc W hb)).ask C cg (mk W (mkc W hb)).inn.vals (fun e => by cases e) hlf (by omega) (by omega) hcap.2 hsm1 Db hDb
  have HSb : ∀ (W : World) (pa : Option Addr) (ca : Nat), Below nc3.heap.size nc3 W → IsSt W pa Db.S → Calls Tryz.prog 14 #[.agg #[.slice pa Db.S.length ca, .int .u8 Db.v.k, .int .i64 Db.v.n, .string Db.t, .int .i64 Db.n], .pointer (some ⟨Hb, 0, none⟩), .agg #[.int .u8 Db.v.k, .int .i64 Db.v.n, .string Db.t, .int .i64 Db.n], .slice (some ⟨G, 0, none⟩) S.length C, .slice p S.length c] W fun e w' => e = .returned (.bool true) ∧ Below W.heap.size W w' := fun W pa ca hb hst => same11_in ⟨Db.v, Db.t, Db.n⟩ Db.n hFb.asks hst (hRb.below hb).at_ (hRb.below hb).isSt (by have := hFb.2.1; omega) (fun o ho => by have := hFb.2.2 o ho; omega) (mk W (mkc W hb)).twin HC.out.1 (mk W (mkc W hb)).src hl hw
  have HGc : ∀ W, Below nc3.heap.size nc3 W → Calls Tryz.prog 30 #[.slice (some ⟨G, 0, none⟩) S.length C, .slice (some ⟨g, 0, none⟩) l.length cg] W (DidR W Dc.S Dc.v Dc.t Dc.n) := fun W hb => Map_in (mk W (mkc W hb)).ask C cg (mk W (mkc W hb)).inn.vals (fun e => by cases e) hlf (by omega) (by omega) hcap.2 hsm1 Dc hDc
  have HSc : ∀ (W : World) (pa : Option Addr) (ca : Nat), Below nc3.heap.size nc3 W → IsSt W pa Dc.S → Calls Tryz.prog 14 #[.agg #[.slice pa Dc.S.length ca, .int .u8 Dc.v.k, .int .i64 Dc.v.n, .string Dc.t, .int .i64 Dc.n], .pointer (some ⟨Hc, 0, none⟩), .agg #[.int .u8 Dc.v.k, .int .i64 Dc.v.n, .string Dc.t, .int .i64 Dc.n], .slice (some ⟨G, 0, none⟩) S.length C, .slice p S.length c] W fun e w' => e = .returned (.bool true) ∧ Below W.heap.size W w' := fun W pa ca hb hst => same11_in ⟨Dc.v, Dc.t, Dc.n⟩ Dc.n hFc.asks hst (hRc.below hb).at_ (hRc.below hb).isSt (by have := hFc.2.1; omega) (fun o ho => by have := hFc.2.2 o ho; omega) (mk W (mkc W hb)).twin HC.out.1 (mk W (mkc W hb)).src hl hw
  have HGd := HGa _ hD
  clear HGa hda hdb hdc
  go_region_held3 (fun W => (W.cell? ⟨da, 0, none⟩ = some (.int .u8 Da.v.k) ∧ W.cell? ⟨da, 1, none⟩ = some (.int .i64 Da.v.n) ∧ W.cell? ⟨da, 2, none⟩ = some (.string Da.t) ∧ W.cell? ⟨da, 3, none⟩ = some (.int .i64 Da.n)) ∧ (W.cell? ⟨db, 0, none⟩ = some (.int .u8 Db.v.k) ∧ W.cell? ⟨db, 1, none⟩ = some (.int .i64 Db.v.n) ∧ W.cell? ⟨db, 2, none⟩ = some (.string Db.t) ∧ W.cell? ⟨db, 3, none⟩ = some (.int .i64 Db.n)) ∧ (W.cell? ⟨dc, 0, none⟩ = some (.int .u8 Dc.v.k) ∧ W.cell? ⟨dc, 1, none⟩ = some (.int .i64 Dc.v.n) ∧ W.cell? ⟨dc, 2, none⟩ = some (.string Dc.t) ∧ W.cell? ⟨dc, 3, none⟩ = some (.int .i64 Dc.n))) (first | with_reducible exact S0 | with_reducible exact SW | with_reducible exact T1 | with_reducible exact T2 | with_reducible exact T3 | with_reducible exact T4 | with_reducible exact T5 | with_reducible exact T6 | go_keep)
    (first
    | (go_at_call 14; (with_reducible refine hsc.mono ?_); clear hsc; rintro e y6 ⟨rfl, hZc⟩; have hC6 := hC5.trans (hZc.mono hC5.size); have T6 := FCS _ hC6)
    | (go_at_call 30; (with_reducible refine HGcc.mono ?_); clear HGcc; rintro e y5 ⟨pgc, cgc, rfl, ⟨tgc, hmgc, hggc⟩, hYc⟩; obtain ⟨pzc, czc, hvzc, hstgc, -⟩ := hggc.isSt; rw [hmgc] at hstgc hvzc; cases hvzc; clear hggc hmgc; have hC5 := hC4.trans (hYc.mono hC4.size); have T5 := FCS _ hC5; have hsc := HSc y5 pgc cgc hC5 hstgc)
    | (go_at_call 14; (with_reducible refine hsb.mono ?_); clear hsb; rintro e y4 ⟨rfl, hZb⟩; have hC4 := hC3.trans (hZb.mono hC3.size); have T4 := FCS _ hC4; have HGcc := HGc _ hC4)
    | (go_at_call 29; (with_reducible refine HGd2.mono ?_); clear HGd2; rintro e y3 ⟨pgb, cgb, rfl, ⟨tgb, hmgb, hggb⟩, hYb⟩; obtain ⟨pzb, czb, hvzb, hstgb, -⟩ := hggb.isSt; rw [hmgb] at hstgb hvzb; cases hvzb; clear hggb hmgb; have hC3 := hC2.trans (hYb.mono hC2.size); have T3 := FCS _ hC3; have hsb := HSb y3 pgb cgb hC3 hstgb)
    | (go_at_call 14; (with_reducible refine hsa.mono ?_); clear hsa; rintro e y2 ⟨rfl, hZa⟩; have hC2 := hC1.trans (hZa.mono hC1.size); have T2 := FCS _ hC2; have HGd2 := HGb _ hC2)
    | (go_at_call 28; (with_reducible refine HGd.mono ?_); clear HGd; rintro e y1 ⟨pga, cga, rfl, ⟨tga, hmga, hgga⟩, hYa⟩; obtain ⟨pza, cza, hvza, hstga, -⟩ := hgga.isSt; rw [hmga] at hstga hvza; cases hvza; clear hgga hmga; have hC1 := hD.trans (hYa.mono hD.size); have T1 := FCS _ hC1; have hsa := HSa y1 pga cga hC1 hstga))
  have B6 := mkc _ hC6
  clear FCS S0 SW T1 T2 T3 T4 T5 T6 hC1 hC2 hC3 hC4 hC5 hC6 hYa hYb hYc hZa hZb hZc HGb HGc HSa HSb HSc hRa hRb hRc hD mkc hstga hstgb hstgc la lb lc
  have HH := hhs y6 B6
  go_wp2_with (first
    | (go_at_call 12; (with_reducible refine HH.mono ?_); clear HH; rintro e nf1 ⟨Hf, phf, chf, thf, rfl, hRf0, hX1⟩; refine halt_here ?_))
  unfold Halted
  have Bnf1 := B6.trans (hX1.mono B6.size)
  have HO := rFn_in hRf0 hX1.size (Ask.of_st (mk nf1 Bnf1).ask hRf0.isSt) cq (mk nf1 Bnf1).vs (by omega) (t.size : Int) hDf
  go_wp2_with (first
    | (go_at_call 31; (with_reducible refine HO.mono ?_); clear HO; rintro e nf2 ⟨rfl, hR1, hX2⟩; refine halt_here ?_))
  unfold Halted
  obtain ⟨pqf, cqf, tqf, hR1⟩ := hR1
  have hX12 := hX1.trans hX2
  have hXD := below1 nf2 (.cells #[.int .u8 Df.v.k, .int .i64 Df.v.n, .string Df.t, .int .i64 Df.n] 38)
  have hdf := heap_alloc_new nf2 (.cells #[.int .u8 Df.v.k, .int .i64 Df.v.n, .string Df.t, .int .i64 Df.n] 38)
  have hX13 := hX12.trans (hXD.mono hX12.size)
  have hRf := hR1.below hXD
  have Bnf3 := B6.trans (hX13.mono B6.size)
  clear hX1 hX2 hX12 hX13 hXD hR1 hRf0 Bnf1
  go_upto_region 15 with fail
  generalize nf2.alloc (.cells #[.int .u8 Df.v.k, .int .i64 Df.v.n, .string Df.t, .int .i64 Df.n] 38) = nf3 at *
  generalize nf2.heap.size = df at *
  have lf := (Array.getElem?_eq_some_iff.1 hdf).1
  have FCS : ∀ W', Below nf3.heap.size nf3 W' → (W'.cell? ⟨df, 0, none⟩ = some (.int .u8 Df.v.k) ∧ W'.cell? ⟨df, 1, none⟩ = some (.int .i64 Df.v.n) ∧ W'.cell? ⟨df, 2, none⟩ = some (.string Df.t) ∧ W'.cell? ⟨df, 3, none⟩ = some (.int .i64 Df.n)) := fun W' hb => (cell_row4D ((hb.block _ lf).trans hdf)).1
  have hD := below_drew (Below.refl nf3.heap.size nf3)
  have S0 := FCS _ hD
  have SW := FCS _ (Below.refl _ _)
  have mkc : ∀ W, Below nf3.heap.size nf3 W → Below w3.heap.size w3 W := fun W hb => Bnf3.trans (hb.mono Bnf3.size)
  have HGf : ∀ W, Below nf3.heap.size nf3 W → Calls Tryz.prog 32 #[.slice (some ⟨G, 0, none⟩) S.length C, .int .i64 (t.size : Int), .slice (some ⟨g, 0, none⟩) l.length cg] W (DidR W Df.S Df.v Df.t Df.n) := fun W hb => Fn_in (mk W (mkc W hb)).ask C cg (mk W (mkc W hb)).inn.vals (fun e => by cases e) hlf (by omega) hsm1 (t.size : Int) Df hDf
  have HSf : ∀ (W : World) (pa : Option Addr) (ca : Nat), Below nf3.heap.size nf3 W → IsSt W pa Df.S → Calls Tryz.prog 14 #[.agg #[.slice pa Df.S.length ca, .int .u8 Df.v.k, .int .i64 Df.v.n, .string Df.t, .int .i64 Df.n], .pointer (some ⟨Hf, 0, none⟩), .agg #[.int .u8 Df.v.k, .int .i64 Df.v.n, .string Df.t, .int .i64 Df.n], .slice (some ⟨G, 0, none⟩) S.length C, .slice p S.length c] W fun e w' => e = .returned (.bool true) ∧ Below W.heap.size W w' := fun W pa ca hb hst => same11_in ⟨Df.v, Df.t, Df.n⟩ Df.n hFf.asks hst (hRf.below hb).at_ (hRf.below hb).isSt (by have := hFf.2.1; omega) (fun o ho => by have := hFf.2.2 o ho; omega) (mk W (mkc W hb)).twin HC.out.1 (mk W (mkc W hb)).src hl hw
  have HLV : ∀ W, Below nf3.heap.size nf3 W → Calls Tryz.prog 33 #[.slice (some ⟨g, 0, none⟩) l.length cg, .slice q l.length cq] W fun e w' => e = .returned (.bool true) ∧ Below W.heap.size W w' := fun W hb => leftV_in cq (mk W (mkc W hb)).inn (mk W (mkc W hb)).vs (by omega)
  have HGd := HGf _ hD
  clear HGf hdf
  go_region_held3 (fun W => (W.cell? ⟨df, 0, none⟩ = some (.int .u8 Df.v.k) ∧ W.cell? ⟨df, 1, none⟩ = some (.int .i64 Df.v.n) ∧ W.cell? ⟨df, 2, none⟩ = some (.string Df.t) ∧ W.cell? ⟨df, 3, none⟩ = some (.int .i64 Df.n))) (first | with_reducible exact S0 | with_reducible exact SW | with_reducible exact T1 | with_reducible exact T2 | with_reducible exact T3 | go_keep)
    (first
    | (go_at_call 33; (with_reducible refine hlv.mono ?_); clear hlv; rintro e z3 ⟨rfl, hZv⟩; have hC3 := hC2.trans (hZv.mono hC2.size); have T3 := FCS _ hC3)
    | (go_at_call 14; (with_reducible refine hsf.mono ?_); clear hsf; rintro e z2 ⟨rfl, hZf⟩; have hC2 := hC1.trans (hZf.mono hC1.size); have T2 := FCS _ hC2; have hlv := HLV _ hC2)
    | (go_at_call 32; (with_reducible refine HGd.mono ?_); clear HGd; rintro e z1 ⟨pgf, cgf, rfl, ⟨tgf, hmgf, hggf⟩, hYf⟩; obtain ⟨pzf, czf, hvzf, hstgf, -⟩ := hggf.isSt; rw [hmgf] at hstgf hvzf; cases hvzf; clear hggf hmgf; have hC1 := hD.trans (hYf.mono hD.size); have T1 := FCS _ hC1; have hsf := HSf z1 pgf cgf hC1 hstgf))
  have B7 := mkc _ hC3
  clear FCS S0 SW T1 T2 T3 hC1 hC2 hC3 hYf hZf hZv HSf HLV hRf hD mkc hstgf lf
  by_cases hl0 : l.length = 0
  · have hl0' : ¬ ((0 : Int) < (l.length : Int)) := by omega
    have HX0 : Hid _ := hl0
    clear hl0
    have hBo := below1 z3 (bookObj 0 (.slice none 0 0) (.slice none 0 0))
    have K0 := BkOk.new (n₀ := w2.heap.size) z3 (Nat.le_trans s23 B7.size)
    have V0 := B7.trans (hBo.mono B7.size)
    have sc0 := B7.size
    have sc1 := hBo.size
    obtain ⟨xs, hin⟩ := hinrow _ V0
    have HV := K0.vals (by omega) hin (fun k _ => Nat.zero_le k) (by omega)
    have hFD := fldD0
    clear hin K0 hBo
    go_wp2_with (first
      | (go_at_call 36; refine HV.mono ?_; clear HV; rintro e v1 ⟨rfl, K1, hv1⟩; refine halt_here ?_))
    unfold Halted
    have V1 := V0.trans (hv1.mono sc0)
    have s1 := hv1.size
    have HP := List_in (mk v1 V1).ask C cg (mk v1 V1).inn.vals (fun e => by cases e) hlf (by omega) (by omega) hcap.2 hsm1 Db hDb
    go_wp2_with (first
      | (go_at_call 29; (with_reducible refine HP.mono ?_); clear HP; rintro e v2 ⟨pxb, cxb, rfl, ⟨txb, hmxb, hoxb⟩, hYb⟩; refine halt_here ?_))
    unfold Halted
    have V2 := V1.trans (hYb.mono V1.size)
    have s2 := hYb.size
    have hlxb : txb.length = Db.S.length := by rw [← hmxb]; simp
    have HKb : txb.length ≤ 50001 := by have := hFb.2.1; have := HC.out.2.2.1; omega
    have HT := (K1.below hYb).store hoxb (by omega) (by omega) (by omega) (fun y hy => by have := hFb.2.2 y.o (by rw [← hmxb]; exact List.mem_map_of_mem hy); omega)
    clear hlxb hmxb hoxb K1
    go_wp2_with (first
      | (go_at_call 37; (with_reducible refine HT.mono ?_); clear HT; rintro e v3 ⟨rfl, K3, hZb⟩; refine halt_here ?_))
    unfold Halted
    have V3 := V2.trans (hZb.mono sc0)
    have s3 := hZb.size
    have HP := Map_in (mk v3 V3).ask C cg (mk v3 V3).inn.vals (fun e => by cases e) hlf (by omega) (by omega) hcap.2 hsm1 Dc hDc
    go_wp2_with (first
      | (go_at_call 30; (with_reducible refine HP.mono ?_); clear HP; rintro e v4 ⟨pxc, cxc, rfl, ⟨txc, hmxc, hoxc⟩, hYc⟩; refine halt_here ?_))
    unfold Halted
    have V4 := V3.trans (hYc.mono V3.size)
    have s4 := hYc.size
    have hlxc : txc.length = Dc.S.length := by rw [← hmxc]; simp
    have HKc : txc.length ≤ 50001 := by have := hFc.2.1; have := HC.out.2.2.1; omega
    have HT := (K3.below hYc).store hoxc (by omega) (by omega) (by omega) (fun y hy => by have := hFc.2.2 y.o (by rw [← hmxc]; exact List.mem_map_of_mem hy); omega)
    clear hlxc hmxc hoxc K3
    go_wp2_with (first
      | (go_at_call 37; (with_reducible refine HT.mono ?_); clear HT; rintro e v5 ⟨rfl, K5, hZc⟩; refine halt_here ?_))
    unfold Halted
    have V5 := V4.trans (hZc.mono sc0)
    have s5 := hZc.size
    have HP := Fn_in (mk v5 V5).ask C cg (mk v5 V5).inn.vals (fun e => by cases e) hlf (by omega) hsm1 0 Dg hDg
    go_wp2_with (first
      | (go_at_call 32; (with_reducible refine HP.mono ?_); clear HP; rintro e v6 ⟨pxg, cxg, rfl, ⟨txg, hmxg, hoxg⟩, hYg⟩; refine halt_here ?_))
    unfold Halted
    have V6 := V5.trans (hYg.mono V5.size)
    have s6 := hYg.size
    have hlxg : txg.length = Dg.S.length := by rw [← hmxg]; simp
    have HKg : txg.length ≤ 50001 := by have := hFg.2.1; have := HC.out.2.2.1; omega
    have HT := (K5.below hYg).store hoxg (by omega) (by omega) (by omega) (fun y hy => by have := hFg.2.2 y.o (by rw [← hmxg]; exact List.mem_map_of_mem hy); omega)
    clear hlxg hmxg hoxg K5
    go_wp2_with (first
      | (go_at_call 37; (with_reducible refine HT.mono ?_); clear HT; rintro e v7 ⟨rfl, K7, hZg⟩; refine halt_here ?_))
    unfold Halted
    have V7 := V6.trans (hZg.mono sc0)
    have s7 := hZg.size
    have HA := K7.apart (htab7 _ V7)
    clear K7
    go_wp2_with (first
      | (go_at_call 38; (with_reducible refine HA.mono ?_); clear HA; rintro e v8 ⟨rfl, hA8, -⟩; have HL8 := HL v8)
      | (go_at_call 9; (with_reducible refine HL8.mono ?_); clear HL8; rintro e v9 ⟨rfl, hA9⟩))
    go_ret
    have s7 : w2.heap.size ≤ v7.heap.size := Nat.le_trans s23 V7.size
    exact ⟨rfl, hfin0 _ V7 _ (hA8.trans (hA9.mono (Nat.le_trans s7 hA8.size)))⟩
  · have hl0' : (0 : Int) < (l.length : Int) := by omega
    obtain ⟨v0, hv0⟩ : ∃ v0, l[0]? = some v0 := ⟨l[0]'(by omega), by simp⟩
    have hce : ∃ b0 off, q = some ⟨b0, off, none⟩ ∧ ∀ W, Below w3.heap.size w3 W → W.cell? ⟨b0, off, none⟩ = some (.int .u8 v0.k) ∧ W.cell? ⟨b0, off + 1, none⟩ = some (.int .i64 v0.n) := by
      obtain ⟨b0, off, e, -, -⟩ := (mk w3 (Below.refl _ _)).vs 0 v0 hv0
      refine ⟨b0, off, e, fun W hb => ?_⟩
      obtain ⟨b1, off1, e1, h1, h2⟩ := (mk W hb).vs 0 v0 hv0
      rw [e] at e1; cases e1
      exact ⟨by simpa using h1, by simpa using h2⟩
    obtain ⟨b0, off, rfl, hce⟩ := hce
    obtain ⟨De, hDe⟩ := cellR_ex S v0
    have hFe := cell_fair hDe hw5
    have HV0 : Hid _ := hv0
    clear hv0
    have HH := hhs z3 B7
    go_wp2_with (first
      | (go_at_call 12; (with_reducible refine HH.mono ?_); clear HH; rintro e ne1 ⟨He, phe, che, the, rfl, hRe0, hX1⟩; refine halt_here ?_))
    unfold Halted
    have Bne1 := B7.trans (hX1.mono B7.size)
    obtain ⟨c0, c1⟩ := hce ne1 Bne1
    have HO := rCell_in hRe0 hX1.size (Ask.of_st (mk ne1 Bne1).ask hRe0.isSt) v0 hDe
    go_wp2_with (first
      | (go_at_call 34; (with_reducible refine HO.mono ?_); clear HO; rintro e ne2 ⟨rfl, hR1, hX2⟩; refine halt_here ?_))
    unfold Halted
    obtain ⟨pqe, cqe, tqe, hR1⟩ := hR1
    have hX12 := hX1.trans hX2
    have hXD := below1 ne2 (.cells #[.int .u8 De.v.k, .int .i64 De.v.n, .string De.t, .int .i64 De.n] 38)
    have hde := heap_alloc_new ne2 (.cells #[.int .u8 De.v.k, .int .i64 De.v.n, .string De.t, .int .i64 De.n] 38)
    have hX13 := hX12.trans (hXD.mono hX12.size)
    have hRe := hR1.below hXD
    have Bne3 := B7.trans (hX13.mono B7.size)
    clear hX1 hX2 hX12 hX13 hXD hR1 hRe0 Bne1
    go_upto_region 20 with fail
    generalize ne2.alloc (.cells #[.int .u8 De.v.k, .int .i64 De.v.n, .string De.t, .int .i64 De.n] 38) = ne3 at *
    generalize ne2.heap.size = de at *
    clear c0 c1
    have le := (Array.getElem?_eq_some_iff.1 hde).1
    have FCS : ∀ W', Below ne3.heap.size ne3 W' → (W'.cell? ⟨de, 0, none⟩ = some (.int .u8 De.v.k) ∧ W'.cell? ⟨de, 1, none⟩ = some (.int .i64 De.v.n) ∧ W'.cell? ⟨de, 2, none⟩ = some (.string De.t) ∧ W'.cell? ⟨de, 3, none⟩ = some (.int .i64 De.n)) ∧ (W'.cell? ⟨b0, off, none⟩ = some (.int .u8 v0.k) ∧ W'.cell? ⟨b0, off + 1, none⟩ = some (.int .i64 v0.n)) := fun W' hb => ⟨(cell_row4D ((hb.block _ le).trans hde)).1, hce W' (Bne3.trans (hb.mono Bne3.size))⟩
    have hD := below_drew (Below.refl ne3.heap.size ne3)
    have S0 := FCS _ hD
    have SW := FCS _ (Below.refl _ _)
    have mkc : ∀ W, Below ne3.heap.size ne3 W → Below w3.heap.size w3 W := fun W hb => Bne3.trans (hb.mono Bne3.size)
    have HGe : ∀ W, Below ne3.heap.size ne3 W → Calls Tryz.prog 35 #[.slice (some ⟨G, 0, none⟩) S.length C, .agg #[.int .u8 v0.k, .int .i64 v0.n]] W (DidR W De.S De.v De.t De.n) := fun W hb => Cell_in (mk W (mkc W hb)).ask C v0 De hDe
    have HSe : ∀ (W : World) (pa : Option Addr) (ca : Nat), Below ne3.heap.size ne3 W → IsSt W pa De.S → Calls Tryz.prog 14 #[.agg #[.slice pa De.S.length ca, .int .u8 De.v.k, .int .i64 De.v.n, .string De.t, .int .i64 De.n], .pointer (some ⟨He, 0, none⟩), .agg #[.int .u8 De.v.k, .int .i64 De.v.n, .string De.t, .int .i64 De.n], .slice (some ⟨G, 0, none⟩) S.length C, .slice p S.length c] W fun e w' => e = .returned (.bool true) ∧ Below W.heap.size W w' := fun W pa ca hb hst => same11_in ⟨De.v, De.t, De.n⟩ De.n hFe.asks hst (hRe.below hb).at_ (hRe.below hb).isSt (by have := hFe.2.1; omega) (fun o ho => by have := hFe.2.2 o ho; omega) (mk W (mkc W hb)).twin HC.out.1 (mk W (mkc W hb)).src hl hw
    have HGd := HGe _ hD
    clear HGe hde
    go_region_held3 (fun W => (W.cell? ⟨de, 0, none⟩ = some (.int .u8 De.v.k) ∧ W.cell? ⟨de, 1, none⟩ = some (.int .i64 De.v.n) ∧ W.cell? ⟨de, 2, none⟩ = some (.string De.t) ∧ W.cell? ⟨de, 3, none⟩ = some (.int .i64 De.n)) ∧ (W.cell? ⟨b0, off, none⟩ = some (.int .u8 v0.k) ∧ W.cell? ⟨b0, off + 1, none⟩ = some (.int .i64 v0.n))) (first | with_reducible exact S0 | with_reducible exact SW | with_reducible exact T1 | with_reducible exact T2 | go_keep)
      (first
    | (go_at_call 14; (with_reducible refine hse.mono ?_); clear hse; rintro e u2 ⟨rfl, hZe⟩; have hC2 := hC1.trans (hZe.mono hC1.size); have T2 := FCS _ hC2)
    | (go_at_call 35; (with_reducible refine HGd.mono ?_); clear HGd; rintro e u1 ⟨pge, cge, rfl, ⟨tge, hmge, hgge⟩, hYe⟩; obtain ⟨pze, cze, hvze, hstge, -⟩ := hgge.isSt; rw [hmge] at hstge hvze; cases hvze; clear hgge hmge; have hC1 := hD.trans (hYe.mono hD.size); have T1 := FCS _ hC1; have hse := HSe u1 pge cge hC1 hstge))
    have B8 := mkc _ hC2
    clear FCS S0 SW T1 T2 hC1 hC2 hYe hZe HSe hRe hD mkc hstge le
    have hBo := below1 u2 (bookObj 0 (.slice none 0 0) (.slice none 0 0))
    have K0 := BkOk.new (n₀ := w2.heap.size) u2 (Nat.le_trans s23 B8.size)
    have V0 := B8.trans (hBo.mono B8.size)
    have sc0 := B8.size
    have sc1 := hBo.size
    obtain ⟨xs, hin⟩ := hinrow _ V0
    have HV := K0.vals (by omega) hin (fun k _ => Nat.zero_le k) (by omega)
    have hFD := fldD0
    clear hin K0 hBo
    go_wp2_with (first
      | (go_at_call 36; refine HV.mono ?_; clear HV; rintro e v1 ⟨rfl, K1, hv1⟩; refine halt_here ?_))
    unfold Halted
    have V1 := V0.trans (hv1.mono sc0)
    have s1 := hv1.size
    have HP := List_in (mk v1 V1).ask C cg (mk v1 V1).inn.vals (fun e => by cases e) hlf (by omega) (by omega) hcap.2 hsm1 Db hDb
    go_wp2_with (first
      | (go_at_call 29; (with_reducible refine HP.mono ?_); clear HP; rintro e v2 ⟨pxb, cxb, rfl, ⟨txb, hmxb, hoxb⟩, hYb⟩; refine halt_here ?_))
    unfold Halted
    have V2 := V1.trans (hYb.mono V1.size)
    have s2 := hYb.size
    have hlxb : txb.length = Db.S.length := by rw [← hmxb]; simp
    have HKb : txb.length ≤ 50001 := by have := hFb.2.1; have := HC.out.2.2.1; omega
    have HT := (K1.below hYb).store hoxb (by omega) (by omega) (by omega) (fun y hy => by have := hFb.2.2 y.o (by rw [← hmxb]; exact List.mem_map_of_mem hy); omega)
    clear hlxb hmxb hoxb K1
    go_wp2_with (first
      | (go_at_call 37; (with_reducible refine HT.mono ?_); clear HT; rintro e v3 ⟨rfl, K3, hZb⟩; refine halt_here ?_))
    unfold Halted
    have V3 := V2.trans (hZb.mono sc0)
    have s3 := hZb.size
    have HP := Map_in (mk v3 V3).ask C cg (mk v3 V3).inn.vals (fun e => by cases e) hlf (by omega) (by omega) hcap.2 hsm1 Dc hDc
    go_wp2_with (first
      | (go_at_call 30; (with_reducible refine HP.mono ?_); clear HP; rintro e v4 ⟨pxc, cxc, rfl, ⟨txc, hmxc, hoxc⟩, hYc⟩; refine halt_here ?_))
    unfold Halted
    have V4 := V3.trans (hYc.mono V3.size)
    have s4 := hYc.size
    have hlxc : txc.length = Dc.S.length := by rw [← hmxc]; simp
    have HKc : txc.length ≤ 50001 := by have := hFc.2.1; have := HC.out.2.2.1; omega
    have HT := (K3.below hYc).store hoxc (by omega) (by omega) (by omega) (fun y hy => by have := hFc.2.2 y.o (by rw [← hmxc]; exact List.mem_map_of_mem hy); omega)
    clear hlxc hmxc hoxc K3
    go_wp2_with (first
      | (go_at_call 37; (with_reducible refine HT.mono ?_); clear HT; rintro e v5 ⟨rfl, K5, hZc⟩; refine halt_here ?_))
    unfold Halted
    have V5 := V4.trans (hZc.mono sc0)
    have s5 := hZc.size
    have HP := Fn_in (mk v5 V5).ask C cg (mk v5 V5).inn.vals (fun e => by cases e) hlf (by omega) hsm1 0 Dg hDg
    go_wp2_with (first
      | (go_at_call 32; (with_reducible refine HP.mono ?_); clear HP; rintro e v6 ⟨pxg, cxg, rfl, ⟨txg, hmxg, hoxg⟩, hYg⟩; refine halt_here ?_))
    unfold Halted
    have V6 := V5.trans (hYg.mono V5.size)
    have s6 := hYg.size
    have hlxg : txg.length = Dg.S.length := by rw [← hmxg]; simp
    have HKg : txg.length ≤ 50001 := by have := hFg.2.1; have := HC.out.2.2.1; omega
    have HT := (K5.below hYg).store hoxg (by omega) (by omega) (by omega) (fun y hy => by have := hFg.2.2 y.o (by rw [← hmxg]; exact List.mem_map_of_mem hy); omega)
    clear hlxg hmxg hoxg K5
    go_wp2_with (first
      | (go_at_call 37; (with_reducible refine HT.mono ?_); clear HT; rintro e v7 ⟨rfl, K7, hZg⟩; refine halt_here ?_))
    unfold Halted
    have V7 := V6.trans (hZg.mono sc0)
    have s7 := hZg.size
    have HA := K7.apart (htab7 _ V7)
    clear K7
    go_wp2_with (first
      | (go_at_call 38; (with_reducible refine HA.mono ?_); clear HA; rintro e v8 ⟨rfl, hA8, -⟩; have HL8 := HL v8)
      | (go_at_call 9; (with_reducible refine HL8.mono ?_); clear HL8; rintro e v9 ⟨rfl, hA9⟩))
    go_ret
    have s7 : w2.heap.size ≤ v7.heap.size := Nat.le_trans s23 V7.size
    exact ⟨rfl, hfin0 _ V7 _ (hA8.trans (hA9.mono (Nat.le_trans s7 hA8.size)))⟩

end Go.Proofs.YtgokofomoachaaaGreatDoor
