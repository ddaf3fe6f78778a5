/- gc's slide and roots. -/
import Derived.Test.YtampilfebmfhaaaGreatDoorGcPlan
import Derived.Test.YtampilfebmfhaaaGreatDoorGcVals
import Derived.Test.YtampilfebmfhaaaGreatDoorStay
import Derived.Lib.LazyBuf
namespace Go.Proofs.YtampilfebmfhaaaGreatDoor
set_option linter.unusedVariables false
set_option linter.unusedSimpArgs false
open Go.RowKit Go.Maps

variable {n₀ bh b lim used : Nat} {vw vb : Value} {w : World} {M : List Ob}

set_option maxRecDepth 20000 in
set_option maxHeartbeats 1000000 in
theorem slide_in (h : Hp n₀ bh b vw vb w lim used M) {f : Ob → Bool} {L : List Ob} (hL : M.filter f = L) {bM n : Nat} (hmv : IsMv w bM n (dst 0 L)) (q : Option Addr) (c base : Nat) (hrow : w.ownsRow base 2 1 (.slice q L.length c) L.length (L.map (fun o => pv o.at_))) :
    Calls Tryz.prog 98 #[.map (some bM), .pointer (some ⟨bh, 0, none⟩), .slice q L.length c] w fun e w' => e = .returned (.tuple #[]) ∧
      ∃ tail, (∀ o ∈ tail, sumO L ≤ o.at_) ∧ Hp n₀ bh b vw vb w' lim used (slid 0 L ++ tail) ∧ Step b vw vb w vw vb w' := by
  have hsM := h.srt.1
  have hs : Srt 0 L := by rw [← hL]; exact hsM.filter
  have hle := h.le
  have hLM : ∀ o ∈ L, o ∈ M := fun o ho => by rw [← hL] at ho; exact (List.mem_filter.1 ho).1
  have hin : ∀ o ∈ L, o.end_ ≤ used := fun o ho => h.srt.2 o (hLM o ho)
  have hsum := Srt.sum_used hs hin (Nat.zero_le _)
  have hlen := Srt.length_le hs hin (Nat.zero_le _)
  go_enter Tryz.func98, Tryz.ntmps98
  go_wp2
  go_loopw [11] (fun k wr => ∃ (pre rest restM : List Ob), L = pre ++ rest ∧ k = .int .i64 pre.length ∧ restM.filter f = rest ∧ Srt (sumO pre) restM ∧ Hp n₀ bh b vw vb wr lim used (slid 0 pre ++ restM) ∧ Step b vw vb w vw vb wr ∧ IsMv wr bM n (dst 0 L) ∧ wr.ownsRow base 2 1 (.slice q L.length c) L.length (L.map (fun o => pv o.at_))) (fun k _ => L.length - (intOf k).toNat)
  case atStart => exact ⟨[], L, M, rfl, rfl, hL, hsM, h, Step.refl _ _ _ _, hmv, hrow⟩
  case round =>
    obtain ⟨pre, rest, restM, hR, rfl, hf, hsr, hp, hS, hm, hrw⟩ := hrel
    cases rest with
    | nil =>
      have hR' : L = pre := by simpa using hR
      have hq : ¬ ((pre.length : Int) < (L.length : Int)) := by rw [hR']; omega
      have HR : Hid _ := hR'
      clear hR hR' hf hL
      go_wp2
      go_end0
      refine ⟨rfl, restM, fun o ho => ?_, ?_, hS⟩
      · rw [HR.out]; exact hsr.lo o ho
      · rw [HR.out]; exact hp
    | cons o rest =>
      have hom : o ∈ L := by rw [hR]; simp
      have hlR : pre.length < L.length := by rw [hR]; simp
      obtain ⟨mid, rest', hrm, hmid, hfo, hfr⟩ := List.filter_eq_cons_iff.1 hf
      have hd : dst 0 L o.at_ = sumO pre := by
        have := hs
        rw [hR] at this ⊢
        have := dst_at (e := 0) this
        simpa using this
      have hwo := hin o hom
      unfold Ob.end_ at hwo
      have hsp : sumO pre ≤ o.at_ := hsr.lo o (by rw [hrm]; simp)
      have H1 := fun w2 (hw : w2 = wr) => place_in (hw ▸ hm) o.at_ (by omega) (by omega)
      rw [hd] at H1
      have hp' : Hp n₀ bh b vw vb wr lim used (slid 0 pre ++ mid ++ o :: rest') := by rw [hrm] at hp; simpa using hp
      obtain ⟨g, rfl⟩ := row_where hrow (by omega)
      have d1 : wr.cell? ⟨g, pre.length, none⟩ = some (.int .i64 o.at_) := row_cell hrw (by rw [hR]; simp [pv]) hlR
      have e1 : (((pre ++ [o]).length : Nat) : Int) = pre.length + 1 := by simp
      have e2 : slid 0 (pre ++ [o]) = slid 0 pre ++ [⟨sumO pre, o.kind, o.ws⟩] := by rw [slid_append]; simp [slid]
      have hs' : Srt (sumO (pre ++ [o])) rest' := by
        rw [hrm, Srt_append] at hsr
        refine hsr.2.2.mono ?_
        rw [sumO_snoc]; unfold Ob.end_; omega
      have HR : Hid _ := And.intro hR (And.intro hfr hd)
      have hmidlo : ∀ q ∈ mid, sumO pre ≤ q.at_ := fun q hq => hsr.lo q (by rw [hrm]; simp [hq])
      have hmidnil : o.at_ = sumO pre → mid = [] := fun e => by
        cases mid with
        | nil => rfl
        | cons x mid' =>
          have h1 := hmidlo x (by simp)
          have h2 := Srt.apart (l := [x]) (r := mid' ++ o :: rest') (by rw [hrm] at hsr; simpa using hsr) x (by simp) o (by simp)
          unfold Ob.end_ at h2; omega
      by_cases hne : o.at_ = sumO pre
      · have hmn := hmidnil hne
        subst hmn
        have hp2 : Hp n₀ bh b vw vb wr lim used (slid 0 (pre ++ [o]) ++ rest') := by
          rw [e2, ← hne]; simpa using hp'
        have hnb : ((sumO pre : Int) == (o.at_ : Int)) = true := by simp; omega
        clear hR hfr hd hne hmidnil hmidlo hrm hf hmid hfo e2 hp hp' hsr
        go_wp2_with (first
          | (go_at_call 172; refine (H1 _ rfl).mono ?_; clear H1; rintro e w' ⟨rfl, rfl⟩))
        go_roundw
        case rel => exact ⟨pre ++ [o], rest, rest', by have := HR.out.1; simpa using this, by rw [e1], HR.out.2.1, hs', hp2, hS, hm, hrw⟩
        case measure => simp [intOf]; omega
      · have hnb : ((sumO pre : Int) == (o.at_ : Int)) = false := by simp; omega
        have H2 := fun w2 (hw : w2 = wr) => moveM (hw ▸ hp') (sumO pre) (fun q hq => by have := slid_end q hq; omega) hmidlo hsp
        have HE : Hid _ := e2
        clear hR hfr hd hmidnil hmidlo hrm hf hmid hfo hp hsr e2
        go_wp2_with (first
          | (go_at_call 172; refine (H1 _ rfl).mono ?_; clear H1; rintro e w' ⟨rfl, rfl⟩)
          | (go_at_call 111; refine (H2 _ rfl).mono ?_; clear H2; rintro e w2 ⟨rfl, hp2, hS2⟩))
        go_roundw
        case rel =>
          refine ⟨pre ++ [o], rest, rest', by have := HR.out.1; simpa using this, by rw [e1], HR.out.2.1, hs', ?_, hS.trans hS2, hm.step hp' hS2, hp'.row hS2 hrw (by decide)⟩
          rw [HE.out]; simpa using hp2
        case measure => simp [intOf]; omega

theorem eqlNil (w : World) (a : Option Addr) (l c : Nat) : (binOp .eql 23 (.slice a l c) (.slice none 0 0)).run Tryz.prog w = .ok (.bool a.isNone) w := run_eql_slice_nil w _ _ a l c Tryz.underlying23

/-- A slice of no length is still a row. -/
theorem ownsRow_empty (w : World) (base e s : Nat) (hb : base ≤ w.heap.size) : (w.alloc (.cells #[] e)).ownsRow base e s (.slice (some ⟨w.heap.size, 0, none⟩) 0 0) 0 [] :=
  ⟨by simp, .inr ⟨w.heap.size, 0, #[], rfl, hb, heap_alloc_new w _, Nat.le_refl _, by unfold maxLen; omega, by simp, by simp⟩⟩

set_option maxRecDepth 20000 in
set_option maxHeartbeats 1000000 in
theorem clone_in {p : Option Addr} {vs : List Vl} (c : Nat) (hv : Vals w p vs) (hp : p = none → vs = [] ∧ c = 0) (hlen : vs.length ≤ 1000000) :
    Calls Tryz.prog 177 #[.slice p vs.length c] w fun e w' => ∃ v, e = .returned v ∧ OwnVals w.heap.size v vs w' ∧ Below w.heap.size w w' := by
  cases p with
  | none =>
    obtain ⟨rfl, rfl⟩ := hp rfl
    have hnil := fun w => eqlNil w none 0 0
    simp only [Option.isNone_none] at hnil
    clear hp hv hlen
    go_enter Tryz.func177, Tryz.ntmps177
    go_wp2
    go_ret
    exact ⟨_, rfl, World.ownsRow_nil _ _ _ _, Below.refl _ _⟩
  | some ad =>
    have hl : (vcells vs).length = vs.length * 2 := vcells_len vs
    have hn : ∀ (w' : World), Below w.heap.size w w' → ∀ j u, (vcells vs)[j]? = some u → w'.cell? (ad.add j) = some u := by
      intro w' hB j u hj
      have hjl := (List.getElem?_eq_some_iff.1 hj).1
      obtain ⟨v, hvj⟩ : ∃ v, vs[j / 2]? = some v := ⟨vs[j / 2]'(by omega), by simp⟩
      obtain ⟨b0, off, e, c0, c1⟩ := (hv.below hB) (j / 2) v hvj
      cases e
      obtain ⟨g0, g1⟩ := vcells_get vs (j / 2) v hvj
      rcases Nat.mod_two_eq_zero_or_one j with h2 | h2
      · have ej : j / 2 * 2 = j := by omega
        rw [ej] at c0 g0
        rw [hj] at g0
        cases g0
        rw [Addr.add_lit]; exact c0
      · have ej : j / 2 * 2 + 1 = j := by omega
        rw [show off + j / 2 * 2 + 1 = off + (j / 2 * 2 + 1) by omega, ej] at c1
        rw [ej] at g1
        rw [hj] at g1
        cases g1
        rw [Addr.add_lit]; exact c1
    obtain ⟨i0, hi, hz0, hz1, hz2⟩ := info_parts infoV
    have hnil := fun w => eqlNil w (some ad) vs.length c
    simp only [Option.isNone_some] at hnil
    clear hp
    go_enter Tryz.func177, Tryz.ntmps177
    go_wp2_with (first
      | (at_builtin; refine wpList_append_own _ rfl _ _ 23 rfl w.heap.size 76 i0 (.agg #[.int .u8 0, .int .i64 0]) 2 16 Tryz.underlying23 hi hz0 hz1 hz2 rfl (by decide) _ 0 [] rfl (ownsRow_empty w _ _ _ (Nat.le_refl _)) ad vs.length c (vcells vs) rfl hl (hn _ (below1 _ _)) (vcells_one vs) (by unfold maxLen; omega) (by omega) (by simp) ?_; intro v4 w4 hown4 hgrow4 _))
    go_ret
    refine ⟨v4, rfl, ?_, (below1 w _).trans (rbelow_grown hgrow4 (fun q e => by cases e; exact Nat.le_refl _) (by simp))⟩
    unfold OwnVals
    simpa using hown4

theorem OwnVals.below {base : Nat} {v : Value} {vs : List Vl} (h : OwnVals base v vs w) {w' : World} (hB : Below w.heap.size w w') : OwnVals base v vs w' :=
  row_kept h (fun k hk => hB.block k (h.lt k hk).2)

set_option maxRecDepth 20000 in
set_option maxHeartbeats 1000000 in
theorem roots_in {d : Nat → Nat} {bM n : Nat} (hmv : IsMv w bM n d) {p : Option Addr} {vs : List Vl} (c : Nat) (hv : Vals w p vs) (hp : p = none → vs = [] ∧ c = 0) (hlen : vs.length ≤ 1000000) (hk8 : ∀ v ∈ vs, v.k < 256)
    (hd : ∀ v ∈ vs, 3 ≤ v.k ∧ v.k ≤ 7 → 0 ≤ v.n ∧ v.n ≤ 1048576 ∧ d v.n.toNat ≤ 1048576) :
    Calls Tryz.prog 100 #[.map (some bM), .slice p vs.length c] w fun e w' => ∃ v, e = .returned v ∧ OwnVals w.heap.size v (vs.map (newRoot d)) w' ∧ Below w.heap.size w w' := by
  have H1 := clone_in c hv hp hlen
  go_enter Tryz.func100, Tryz.ntmps100
  go_wp2_with (first
    | (go_at_call 177; refine H1.mono ?_; clear H1; rintro e w1 ⟨v1, rfl, hown1, hB1⟩; obtain ⟨p1, cz, rfl⟩ := hown1.form))
  go_loopw [12] (fun k wr => ∃ (pre rest : List Vl), vs = pre ++ rest ∧ k = .int .i64 pre.length ∧ wr.ownsRow w.heap.size 76 2 (.slice p1 vs.length cz) vs.length (vcells (pre.map (newRoot d) ++ rest)) ∧ Below w.heap.size w wr ∧ IsMv wr bM n d) (fun k _ => vs.length - (intOf k).toNat)
  case atStart => exact ⟨[], vs, rfl, rfl, hown1, hB1, hmv.below hB1⟩
  case round =>
    obtain ⟨pre, rest, hR, rfl, hrow, hB, hm⟩ := hrel
    have hsz := hB.size
    cases rest with
    | nil =>
      have hR' : vs = pre := by simpa using hR
      have hq : ¬ ((pre.length : Int) < (vs.length : Int)) := by rw [hR']; omega
      have HR : Hid _ := hR'
      clear hR hR'
      go_wp2
      go_ret
      refine ⟨_, rfl, ?_, hB⟩
      unfold OwnVals
      rw [HR.out] at hrow ⊢
      simpa using hrow
    | cons v rest =>
      have hlR : pre.length < vs.length := by rw [hR]; simp
      have hvm : v ∈ vs := by rw [hR]; simp
      obtain ⟨g, hg⟩ : ∃ g, p1 = some ⟨g, 0, none⟩ := by
        rcases hrow.2 with ⟨h0, h0'⟩ | ⟨g, cap, cur, hg, _⟩
        · omega
        · injection hg with hp _ _; exact ⟨g, hp⟩
      subst hg
      obtain ⟨g0, g1⟩ := vcells_get (pre.map (newRoot d) ++ v :: rest) pre.length v (by simp)
      have c0 : wr.cell? ⟨g, pre.length * 2, none⟩ = some (.int .u8 v.k) := by rw [hrow.cellAt _ (by omega)]; exact g0
      have c1 : wr.cell? ⟨g, pre.length * 2 + 1, none⟩ = some (.int .i64 v.n) := by rw [hrow.cellAt _ (by omega)]; exact g1
      have e1 : (((pre ++ [v]).length : Nat) : Int) = pre.length + 1 := by simp
      have H2 := fun w' => tells_in v.k w'
      have hvk := hk8 v hvm
      have hrc : pre.length < vs.length ∧ vs.length ≤ cz := by
        rcases hrow.2 with ⟨h0, h0'⟩ | ⟨g, cap, cur, hg, _, _, h1, _⟩
        · omega
        · injection hg with _ _ hc; subst hc; exact ⟨hlR, h1⟩
      have hgl : g < wr.heap.size := (hrow.lt g rfl).2
      have HR : Hid _ := hR
      clear hR g0 g1
      by_cases hk : 3 ≤ v.k ∧ v.k ≤ 7
      · have e3 : decide (3 ≤ v.k ∧ v.k ≤ 7) = true := by simpa using hk
        rw [e3] at H2
        obtain ⟨d1, d2, d3⟩ := hd v hvm hk
        obtain ⟨m, hmn⟩ : ∃ m : Nat, v.n = m := ⟨v.n.toNat, by omega⟩
        have en : newRoot d v = ⟨v.k, (d m : Nat)⟩ := by unfold newRoot; rw [if_pos hk, hmn]; rfl
        rw [hmn] at c1
        rw [show v.n.toNat = m by omega] at d3
        have hm1 : m ≤ 1048576 := by omega
        have H3 := fun w' (hB' : Below wr.heap.size wr w') => place_in (hm.below hB') m hm1 d3
        have f1 := hrow.frozenAt (pre.length * 2 + 1)
        have hst := hrow.stored (pre.length * 2 + 1) (.int .i64 (d m : Nat))
        have ne : bM ≠ g := by
          rintro rfl
          obtain ⟨es, cl, e⟩ := hm.isMap
          obtain ⟨cur, e'⟩ := row_obj hrow rfl
          rw [e] at e'; cases e'
        have hm2 : IsMv (wr.setCell ⟨g, pre.length * 2 + 1, none⟩ (.int .i64 (d m : Nat))) bM n d := hm.kept (heap_setCell_other wr ⟨g, pre.length * 2 + 1, none⟩ bM _ ne)
        clear e3 hk d1 d2
        go_wp2_with (first
          | (go_at_call 117; refine (H2 _).mono ?_; clear H2; rintro e w' ⟨rfl, rfl⟩)
          | (go_at_call 172; refine (H3 _ (below1 _ _)).mono ?_; clear H3; rintro e w' ⟨rfl, rfl⟩))
        go_roundw
        case rel =>
          refine ⟨pre ++ [v], rest, by have := HR.out; simpa using this, by rw [e1], ?_, ?_, hm2.below (below1 _ _)⟩
          · rw [List.map_append, List.map_cons, List.map_nil, en]
            have := hst.1.alloc (.cells #[.int .u8 v.k, .int .i64 m] 76)
            have e5 := vcells_set (pre.map (newRoot d)) rest v (d m : Nat)
            rw [List.length_map] at e5
            rw [e5] at this
            simpa using this
          · have h5 := hB.trans (rbelow_grown hst.2 (fun q e => by cases e; exact (hrow.lt g rfl).1) hsz)
            exact h5.alloc h5.size _
        case measure => simp [intOf]; omega
      · have e3 : decide (3 ≤ v.k ∧ v.k ≤ 7) = false := by simpa using hk
        rw [e3] at H2
        have en : newRoot d v = v := by unfold newRoot; rw [if_neg hk]
        clear e3 hk
        go_wp2_with (first
          | (go_at_call 117; refine (H2 _).mono ?_; clear H2; rintro e w' ⟨rfl, rfl⟩))
        go_roundw
        case rel =>
          refine ⟨pre ++ [v], rest, by have := HR.out; simpa using this, by rw [e1], ?_, hB.alloc hB.size _, hm.below (below1 _ _)⟩
          rw [List.map_append, List.map_cons, List.map_nil, en]
          simpa using hrow.alloc _
        case measure => simp [intOf]; omega

end Go.Proofs.YtampilfebmfhaaaGreatDoor
