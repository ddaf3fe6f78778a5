/- gc's slide and roots. -/
import Derived.Test.YtkombdkhodjckaaGreatGcPlan
import Derived.Test.YtkombdkhodjckaaGreatGcVals
import Derived.Test.YtkombdkhodjckaaGreatStay
import Derived.Lib.LazyBuf
import Derived.Maps.OwnIn
namespace Go.Proofs.YtkombdkhodjckaaGreat
set_option linter.unusedVariables false
set_option linter.unusedSimpArgs false
open Go.RowKit Go.Maps

variable {n₀ bh b lim used : Nat} {vw vb : Value} {w : World} {M : List Ob}

set_option maxRecDepth 20000 in
set_option maxHeartbeats 1000000 in
theorem slide_in (h : Hp n₀ bh b vw vb w lim used M) {f : Ob → Bool} {L : List Ob} (hL : M.filter f = L) {bM n : Nat} (hmv : IsMv w bM n (dst 0 L)) (q : Option Addr) (c base : Nat) (hrow : w.ownsRow base 2 1 (.slice q L.length c) L.length (L.map (fun o => pv o.at_))) :
    Calls Tryz.prog 37 #[.map (some bM), .pointer (some ⟨bh, 0, none⟩), .slice q L.length c] w fun e w' => e = .returned (.tuple #[]) ∧
      ∃ tail, (∀ o ∈ tail, sumO L ≤ o.at_) ∧ Hp n₀ bh b vw vb w' lim used (slid 0 L ++ tail) ∧ Step b vw vb w vw vb w' := by
  have hsM := h.srt.1
  have hs : Srt 0 L := by rw [← hL]; exact hsM.filter
  have hle := h.le
  have hLM : ∀ o ∈ L, o ∈ M := fun o ho => by rw [← hL] at ho; exact (List.mem_filter.1 ho).1
  have hin : ∀ o ∈ L, o.end_ ≤ used := fun o ho => h.srt.2 o (hLM o ho)
  have hsum := Srt.sum_used hs hin (Nat.zero_le _)
  have hlen := Srt.length_le hs hin (Nat.zero_le _)
  go_enter Tryz.func37, Tryz.ntmps37
  go_wp2
  go_loopw [11] (fun k wr => ∃ (pre rest restM : List Ob), L = pre ++ rest ∧ k = .int .i64 pre.length ∧ restM.filter f = rest ∧ Srt (sumO pre) restM ∧ Hp n₀ bh b vw vb wr lim used (slid 0 pre ++ restM) ∧ Step b vw vb w vw vb wr ∧ IsMv wr bM n (dst 0 L) ∧ wr.ownsRow base 2 1 (.slice q L.length c) L.length (L.map (fun o => pv o.at_))) (fun k _ => L.length - (intOf k).toNat)
  case atStart => exact ⟨[], L, M, rfl, rfl, hL, hsM, h, Step.refl _ _ _ _, hmv, hrow⟩
  case round =>
    obtain ⟨pre, rest, restM, hR, rfl, hf, hsr, hp, hS, hm, hrw⟩ := hrel
    cases rest with
    | nil =>
      have hR' : L = pre := by simpa using hR
      have hq : ¬ ((pre.length : Int) < (L.length : Int)) := by rw [hR']; omega
      have HR : Hid _ := hR'
      clear hR hR' hf hL
      go_wp2
      go_end0
      refine ⟨rfl, restM, fun o ho => ?_, ?_, hS⟩
      · rw [HR.out]; exact hsr.lo o ho
      · rw [HR.out]; exact hp
    | cons o rest =>
      have hom : o ∈ L := by rw [hR]; simp
      have hlR : pre.length < L.length := by rw [hR]; simp
      obtain ⟨mid, rest', hrm, hmid, hfo, hfr⟩ := List.filter_eq_cons_iff.1 hf
      have hd : dst 0 L o.at_ = sumO pre := by
        have := hs
        rw [hR] at this ⊢
        have := dst_at (e := 0) this
        simpa using this
      have hwo := hin o hom
      unfold Ob.end_ at hwo
      have hsp : sumO pre ≤ o.at_ := hsr.lo o (by rw [hrm]; simp)
      have H1 := fun w2 (hw : w2 = wr) => place_in (hw ▸ hm) o.at_ (by omega) (by omega)
      rw [hd] at H1
      have hp' : Hp n₀ bh b vw vb wr lim used (slid 0 pre ++ mid ++ o :: rest') := by rw [hrm] at hp; simpa using hp
      obtain ⟨g, rfl⟩ := row_where hrow (by omega)
      have d1 : wr.cell? ⟨g, pre.length, none⟩ = some (.int .i64 o.at_) := row_cell hrw (by rw [hR]; simp [pv]) hlR
      have e1 : (((pre ++ [o]).length : Nat) : Int) = pre.length + 1 := by simp
      have e2 : slid 0 (pre ++ [o]) = slid 0 pre ++ [⟨sumO pre, o.kind, o.ws⟩] := by rw [slid_append]; simp [slid]
      have hs' : Srt (sumO (pre ++ [o])) rest' := by
        rw [hrm, Srt_append] at hsr
        refine hsr.2.2.mono ?_
        rw [sumO_snoc]; unfold Ob.end_; omega
      have HR : Hid _ := And.intro hR (And.intro hfr hd)
      have hmidlo : ∀ q ∈ mid, sumO pre ≤ q.at_ := fun q hq => hsr.lo q (by rw [hrm]; simp [hq])
      have hmidnil : o.at_ = sumO pre → mid = [] := fun e => by
        cases mid with
        | nil => rfl
        | cons x mid' =>
          have h1 := hmidlo x (by simp)
          have h2 := Srt.apart (l := [x]) (r := mid' ++ o :: rest') (by rw [hrm] at hsr; simpa using hsr) x (by simp) o (by simp)
          unfold Ob.end_ at h2; omega
      by_cases hne : o.at_ = sumO pre
      · have hmn := hmidnil hne
        subst hmn
        have hp2 : Hp n₀ bh b vw vb wr lim used (slid 0 (pre ++ [o]) ++ rest') := by
          rw [e2, ← hne]; simpa using hp'
        have hnb : ((sumO pre : Int) == (o.at_ : Int)) = true := by simp; omega
        clear hR hfr hd hne hmidnil hmidlo hrm hf hmid hfo e2 hp hp' hsr
        go_wp2_with (first
          | (go_at_call 79; refine (H1 _ rfl).mono ?_; clear H1; rintro e w' ⟨rfl, rfl⟩))
        go_roundw
        case rel => exact ⟨pre ++ [o], rest, rest', by have := HR.out.1; simpa using this, by rw [e1], HR.out.2.1, hs', hp2, hS, hm, hrw⟩
        case measure => simp [intOf]; omega
      · have hnb : ((sumO pre : Int) == (o.at_ : Int)) = false := by simp; omega
        have H2 := fun w2 (hw : w2 = wr) => moveM (hw ▸ hp') (sumO pre) (fun q hq => by have := slid_end q hq; omega) hmidlo hsp
        have HE : Hid _ := e2
        clear hR hfr hd hmidnil hmidlo hrm hf hmid hfo hp hsr e2
        go_wp2_with (first
          | (go_at_call 79; refine (H1 _ rfl).mono ?_; clear H1; rintro e w' ⟨rfl, rfl⟩)
          | (go_at_call 81; refine (H2 _ rfl).mono ?_; clear H2; rintro e w2 ⟨rfl, hp2, hS2⟩))
        go_roundw
        case rel =>
          refine ⟨pre ++ [o], rest, rest', by have := HR.out.1; simpa using this, by rw [e1], HR.out.2.1, hs', ?_, hS.trans hS2, hm.step hp' hS2, hp'.row hS2 hrw (by decide)⟩
          rw [HE.out]; simpa using hp2
        case measure => simp [intOf]; omega

theorem eqlNil (w : World) (a : Option Addr) (l c : Nat) : (binOp .eql 26 (.slice a l c) (.slice none 0 0)).run Tryz.prog w = .ok (.bool a.isNone) w := run_eql_slice_nil w _ _ a l c Tryz.underlying26

/-- A slice of no length is still a row. -/
theorem ownsRow_empty (w : World) (base e s : Nat) (hb : base ≤ w.heap.size) : (w.alloc (.cells #[] e)).ownsRow base e s (.slice (some ⟨w.heap.size, 0, none⟩) 0 0) 0 [] :=
  ⟨by simp, .inr ⟨w.heap.size, 0, #[], rfl, hb, heap_alloc_new w _, Nat.le_refl _, by unfold maxLen; omega, by simp, by simp⟩⟩

set_option maxRecDepth 20000 in
set_option maxHeartbeats 1000000 in
theorem clone_in {p : Option Addr} {vs : List Vl} (c : Nat) (hv : Vals w p vs) (hp : p = none → vs = [] ∧ c = 0) (hlen : vs.length ≤ 1000000) :
    Calls Tryz.prog 85 #[.slice p vs.length c] w fun e w' => ∃ v, e = .returned v ∧ OwnVals w.heap.size v vs w' ∧ Below w.heap.size w w' := by
  cases p with
  | none =>
    obtain ⟨rfl, rfl⟩ := hp rfl
    have hnil := fun w => eqlNil w none 0 0
    simp only [Option.isNone_none] at hnil
    clear hp hv hlen
    go_enter Tryz.func85, Tryz.ntmps85
    go_wp2
    go_ret
    exact ⟨_, rfl, World.ownsRow_nil _ _ _ _, Below.refl _ _⟩
  | some ad =>
    have hl : (vcells vs).length = vs.length * 2 := vcells_len vs
    have hn : ∀ (w' : World), Below w.heap.size w w' → ∀ j u, (vcells vs)[j]? = some u → w'.cell? (ad.add j) = some u := by
      intro w' hB j u hj
      have hjl := (List.getElem?_eq_some_iff.1 hj).1
      obtain ⟨v, hvj⟩ : ∃ v, vs[j / 2]? = some v := ⟨vs[j / 2]'(by omega), by simp⟩
      obtain ⟨b0, off, e, c0, c1⟩ := (hv.below hB) (j / 2) v hvj
      cases e
      obtain ⟨g0, g1⟩ := vcells_get vs (j / 2) v hvj
      rcases Nat.mod_two_eq_zero_or_one j with h2 | h2
      · have ej : j / 2 * 2 = j := by omega
        rw [ej] at c0 g0
        rw [hj] at g0
        cases g0
        rw [Addr.add_lit]; exact c0
      · have ej : j / 2 * 2 + 1 = j := by omega
        rw [show off + j / 2 * 2 + 1 = off + (j / 2 * 2 + 1) by omega, ej] at c1
        rw [ej] at g1
        rw [hj] at g1
        cases g1
        rw [Addr.add_lit]; exact c1
    obtain ⟨i0, hi, hz0, hz1, hz2⟩ := info_parts infoV
    have hnil := fun w => eqlNil w (some ad) vs.length c
    simp only [Option.isNone_some] at hnil
    clear hp
    go_enter Tryz.func85, Tryz.ntmps85
    go_wp2_with (first
      | (at_builtin; refine wpList_append_own _ rfl _ _ 26 rfl w.heap.size 29 i0 (.agg #[.int .u8 0, .int .i64 0]) 2 16 Tryz.underlying26 hi hz0 hz1 hz2 rfl (by decide) _ 0 [] rfl (ownsRow_empty w _ _ _ (Nat.le_refl _)) ad vs.length c (vcells vs) rfl hl (hn _ (below1 _ _)) (vcells_one vs) (by unfold maxLen; omega) (by omega) (by simp) ?_; intro v4 w4 hown4 hgrow4 _))
    go_ret
    refine ⟨v4, rfl, ?_, (below1 w _).trans (rbelow_grown hgrow4 (fun q e => by cases e; exact Nat.le_refl _) (by simp))⟩
    unfold OwnVals
    simpa using hown4

theorem OwnVals.below {base : Nat} {v : Value} {vs : List Vl} (h : OwnVals base v vs w) {w' : World} (hB : Below w.heap.size w w') : OwnVals base v vs w' :=
  row_kept h (fun k hk => hB.block k (h.lt k hk).2)

set_option maxRecDepth 20000 in
set_option maxHeartbeats 1000000 in
theorem roots_in {d : Nat → Nat} {bM n : Nat} (hmv : IsMv w bM n d) {p : Option Addr} {vs : List Vl} (c : Nat) (hv : Vals w p vs) (hp : p = none → vs = [] ∧ c = 0) (hlen : vs.length ≤ 1000000) (hk8 : ∀ v ∈ vs, v.k < 256)
    (hd : ∀ v ∈ vs, 3 ≤ v.k ∧ v.k ≤ 7 → 0 ≤ v.n ∧ v.n ≤ 1048576 ∧ d v.n.toNat ≤ 1048576) :
    Calls Tryz.prog 39 #[.map (some bM), .slice p vs.length c] w fun e w' => ∃ v, e = .returned v ∧ OwnVals w.heap.size v (vs.map (newRoot d)) w' ∧ Below w.heap.size w w' := by
  have H1 := clone_in c hv hp hlen
  go_enter Tryz.func39, Tryz.ntmps39
  go_wp2_with (first
    | (go_at_call 85; refine H1.mono ?_; clear H1; rintro e w1 ⟨v1, rfl, hown1, hB1⟩; obtain ⟨p1, cz, rfl⟩ := hown1.form))
  go_loopw [12] (fun k wr => ∃ (pre rest : List Vl), vs = pre ++ rest ∧ k = .int .i64 pre.length ∧ wr.ownsRow w.heap.size 29 2 (.slice p1 vs.length cz) vs.length (vcells (pre.map (newRoot d) ++ rest)) ∧ Below w.heap.size w wr ∧ IsMv wr bM n d) (fun k _ => vs.length - (intOf k).toNat)
  case atStart => exact ⟨[], vs, rfl, rfl, hown1, hB1, hmv.below hB1⟩
  case round =>
    obtain ⟨pre, rest, hR, rfl, hrow, hB, hm⟩ := hrel
    have hsz := hB.size
    cases rest with
    | nil =>
      have hR' : vs = pre := by simpa using hR
      have hq : ¬ ((pre.length : Int) < (vs.length : Int)) := by rw [hR']; omega
      have HR : Hid _ := hR'
      clear hR hR'
      go_wp2
      go_ret
      refine ⟨_, rfl, ?_, hB⟩
      unfold OwnVals
      rw [HR.out] at hrow ⊢
      simpa using hrow
    | cons v rest =>
      have hlR : pre.length < vs.length := by rw [hR]; simp
      have hvm : v ∈ vs := by rw [hR]; simp
      obtain ⟨g, hg⟩ : ∃ g, p1 = some ⟨g, 0, none⟩ := by
        rcases hrow.2 with ⟨h0, h0'⟩ | ⟨g, cap, cur, hg, _⟩
        · omega
        · injection hg with hp _ _; exact ⟨g, hp⟩
      subst hg
      obtain ⟨g0, g1⟩ := vcells_get (pre.map (newRoot d) ++ v :: rest) pre.length v (by simp)
      have c0 : wr.cell? ⟨g, pre.length * 2, none⟩ = some (.int .u8 v.k) := by rw [hrow.cellAt _ (by omega)]; exact g0
      have c1 : wr.cell? ⟨g, pre.length * 2 + 1, none⟩ = some (.int .i64 v.n) := by rw [hrow.cellAt _ (by omega)]; exact g1
      have e1 : (((pre ++ [v]).length : Nat) : Int) = pre.length + 1 := by simp
      have H2 := fun w' => tells_in v.k w'
      have hvk := hk8 v hvm
      have hrc : pre.length < vs.length ∧ vs.length ≤ cz := by
        rcases hrow.2 with ⟨h0, h0'⟩ | ⟨g, cap, cur, hg, _, _, h1, _⟩
        · omega
        · injection hg with _ _ hc; subst hc; exact ⟨hlR, h1⟩
      have hgl : g < wr.heap.size := (hrow.lt g rfl).2
      have HR : Hid _ := hR
      clear hR g0 g1
      by_cases hk : 3 ≤ v.k ∧ v.k ≤ 7
      · have e3 : decide (3 ≤ v.k ∧ v.k ≤ 7) = true := by simpa using hk
        rw [e3] at H2
        obtain ⟨d1, d2, d3⟩ := hd v hvm hk
        obtain ⟨m, hmn⟩ : ∃ m : Nat, v.n = m := ⟨v.n.toNat, by omega⟩
        have en : newRoot d v = ⟨v.k, (d m : Nat)⟩ := by unfold newRoot; rw [if_pos hk, hmn]; rfl
        rw [hmn] at c1
        rw [show v.n.toNat = m by omega] at d3
        have hm1 : m ≤ 1048576 := by omega
        have H3 := fun w' (hB' : Below wr.heap.size wr w') => place_in (hm.below hB') m hm1 d3
        have f1 := hrow.frozenAt (pre.length * 2 + 1)
        have hst := hrow.stored (pre.length * 2 + 1) (.int .i64 (d m : Nat))
        have ne : bM ≠ g := by
          rintro rfl
          obtain ⟨es, cl, e⟩ := hm.isMap
          obtain ⟨cur, e'⟩ := row_obj hrow rfl
          rw [e] at e'; cases e'
        have hm2 : IsMv (wr.setCell ⟨g, pre.length * 2 + 1, none⟩ (.int .i64 (d m : Nat))) bM n d := hm.kept (heap_setCell_other wr ⟨g, pre.length * 2 + 1, none⟩ bM _ ne)
        clear e3 hk d1 d2
        go_wp2_with (first
          | (go_at_call 71; refine (H2 _).mono ?_; clear H2; rintro e w' ⟨rfl, rfl⟩)
          | (go_at_call 79; refine (H3 _ (below1 _ _)).mono ?_; clear H3; rintro e w' ⟨rfl, rfl⟩))
        go_roundw
        case rel =>
          refine ⟨pre ++ [v], rest, by have := HR.out; simpa using this, by rw [e1], ?_, ?_, hm2.below (below1 _ _)⟩
          · rw [List.map_append, List.map_cons, List.map_nil, en]
            have := hst.1.alloc (.cells #[.int .u8 v.k, .int .i64 m] 29)
            have e5 := vcells_set (pre.map (newRoot d)) rest v (d m : Nat)
            rw [List.length_map] at e5
            rw [e5] at this
            simpa using this
          · have h5 := hB.trans (rbelow_grown hst.2 (fun q e => by cases e; exact (hrow.lt g rfl).1) hsz)
            exact h5.alloc h5.size _
        case measure => simp [intOf]; omega
      · have e3 : decide (3 ≤ v.k ∧ v.k ≤ 7) = false := by simpa using hk
        rw [e3] at H2
        have en : newRoot d v = v := by unfold newRoot; rw [if_neg hk]
        clear e3 hk
        go_wp2_with (first
          | (go_at_call 71; refine (H2 _).mono ?_; clear H2; rintro e w' ⟨rfl, rfl⟩))
        go_roundw
        case rel =>
          refine ⟨pre ++ [v], rest, by have := HR.out; simpa using this, by rw [e1], ?_, hB.alloc hB.size _, hm.below (below1 _ _)⟩
          rw [List.map_append, List.map_cons, List.map_nil, en]
          simpa using hrow.alloc _
        case measure => simp [intOf]; omega

end Go.Proofs.YtkombdkhodjckaaGreat

namespace Go.Proofs.YtkombdkhodjckaaGreat
set_option linter.unusedVariables false
set_option linter.unusedSimpArgs false
open Go.RowKit Go.Maps Go.Shelf

attribute [local go_sem] Oper.semAt_some

variable {n₀ bh b lim used : Nat} {vw vb : Value} {w : World} {M : List Ob}

/-- A write that is put off: a function, and what it writes. -/
def Clo (bh : Nat) (w : World) (c : Value) (x : Wr) : Prop :=
  ∃ Bh Bf Bk Bt t0 t more : Nat, c = .func (.func 80) #[] #[.pointer (some ⟨Bh, 0, none⟩), .pointer (some ⟨Bf, 0, none⟩), .pointer (some ⟨Bk, 0, none⟩), .pointer (some ⟨Bt, 0, none⟩)] ∧
    w.heap[Bh]? = some (.cells #[.pointer (some ⟨bh, 0, none⟩)] 24 (0, 0)) ∧ w.heap[Bf]? = some (.cells #[.int .i64 x.fr] 2 (0, 0)) ∧ w.heap[Bk]? = some (.cells #[.int .i64 x.word, .int .i64 t0, .int .u64 more] 131 (0, 0)) ∧
    w.heap[Bt]? = some (.cells #[.int .i64 t] 2 (0, 0)) ∧ x.v = t + more ∧ t ≤ 1048576 ∧ more ≤ 1 ∧ x.word ≤ 1048576

/-- What keeps a function as it is. -/
theorem Clo.kept {c : Value} {x : Wr} (h : Clo bh w c x) {w' : World} (hk : ∀ (k : Nat) (cur : Array Value) (t : TypeId), w.heap[k]? = some (Obj.cells cur t (0, 0)) → (t = 24 ∨ t = 2 ∨ t = 131) → w'.heap[k]? = w.heap[k]?) : Clo bh w' c x := by
  obtain ⟨Bh, Bf, Bk, Bt, t0, t, more, h1, h2, h3, h4, h5, h6⟩ := h
  exact ⟨Bh, Bf, Bk, Bt, t0, t, more, h1, (hk _ _ _ h2 (.inl rfl)).trans h2, (hk _ _ _ h3 (.inr (.inl rfl))).trans h3, (hk _ _ _ h4 (.inr (.inr rfl))).trans h4, (hk _ _ _ h5 (.inr (.inl rfl))).trans h5, h6⟩

def Clos (bh : Nat) (w : World) : List Value → List Wr → Prop
  | [], [] => True
  | c :: cs, x :: xs => Clo bh w c x ∧ Clos bh w cs xs
  | _, _ => False

theorem Clos.kept {w' : World} (hk : ∀ (k : Nat) (cur : Array Value) (t : TypeId), w.heap[k]? = some (Obj.cells cur t (0, 0)) → (t = 24 ∨ t = 2 ∨ t = 131) → w'.heap[k]? = w.heap[k]?) : ∀ {cs : List Value} {xs : List Wr}, Clos bh w cs xs → Clos bh w' cs xs
  | [], [], _ => trivial
  | c :: cs, x :: xs, ⟨h1, h2⟩ => ⟨h1.kept hk, Clos.kept hk h2⟩

theorem Clos.snoc {c : Value} {x : Wr} : ∀ {cs : List Value} {xs : List Wr}, Clos bh w cs xs → Clo bh w c x → Clos bh w (cs ++ [c]) (xs ++ [x])
  | [], [], _, h => ⟨h, trivial⟩
  | d :: cs, y :: xs, ⟨h1, h2⟩, h => ⟨h1, Clos.snoc h2 h⟩

theorem Clos.length : ∀ {cs : List Value} {xs : List Wr}, Clos bh w cs xs → cs.length = xs.length
  | [], [], _ => rfl
  | d :: cs, y :: xs, ⟨h1, h2⟩ => by simp [Clos.length h2]

theorem Clos.get : ∀ {cs : List Value} {xs : List Wr} {j : Nat} {x : Wr}, Clos bh w cs xs → xs[j]? = some x → ∃ c, cs[j]? = some c ∧ Clo bh w c x
  | [], [], j, x, _, h => by simp at h
  | d :: cs, y :: xs, 0, x, ⟨h1, h2⟩, h => by simp at h; subst h; exact ⟨d, rfl, h1⟩
  | d :: cs, y :: xs, j + 1, x, ⟨h1, h2⟩, h => by
    obtain ⟨c, e, hc⟩ := Clos.get h2 (j := j) (x := x) (by simpa using h)
    exact ⟨c, by simpa using e, hc⟩

theorem Clos.below {cs : List Value} {xs : List Wr} (h : Clos bh w cs xs) {w' : World} (hB : Below w.heap.size w w') : Clos bh w' cs xs :=
  h.kept (fun k cur t hk _ => hB.block k (Array.getElem?_eq_some_iff.1 hk).1)

theorem Clos.step {cs : List Value} {xs : List Wr} (h : Clos bh w cs xs) {bh' : Nat} (hp : Hp n₀ bh' b vw vb w lim used M) {vw' vb' : Value} {w' : World} (hS : Step b vw vb w vw' vb' w') : Clos bh w' cs xs :=
  h.kept (fun k cur t hk ht => hp.stays hS hk (fun cur' t' e => by
    cases e
    rcases ht with rfl | rfl | rfl <;> decide))

set_option maxHeartbeats 400000 in
/-- The function, called. -/
theorem clo_in {l r : List Ob} {o : Ob} (h : Hp n₀ bh b vw vb w lim used (l ++ o :: r)) {Bh Bf Bk Bt t0 t more word : Nat} (h2 : w.heap[Bh]? = some (.cells #[.pointer (some ⟨bh, 0, none⟩)] 24 (0, 0))) (h3 : w.heap[Bf]? = some (.cells #[.int .i64 o.at_] 2 (0, 0))) (h4 : w.heap[Bk]? = some (.cells #[.int .i64 word, .int .i64 t0, .int .u64 more] 131 (0, 0)))
    (h5 : w.heap[Bt]? = some (.cells #[.int .i64 t] 2 (0, 0))) (ht : t ≤ 1048576) (hm : more ≤ 1) (hw : word < o.ws.length) :
    Calls Tryz.prog 80 #[.pointer (some ⟨Bh, 0, none⟩), .pointer (some ⟨Bf, 0, none⟩), .pointer (some ⟨Bk, 0, none⟩), .pointer (some ⟨Bt, 0, none⟩)] w fun e w' => e = .returned (.tuple #[]) ∧
      Hp n₀ bh b vw vb w' lim used (l ++ { o with ws := o.ws.set word (t + more) } :: r) ∧ Step b vw vb w vw vb w' := by
  have c2 : w.cell? ⟨Bh, 0, none⟩ = some (.pointer (some ⟨bh, 0, none⟩)) := by rw [cell_of_row w Bh 0 _ _ _ h2]; rfl
  have c3 : w.cell? ⟨Bf, 0, none⟩ = some (.int .i64 o.at_) := by rw [cell_of_row w Bf 0 _ _ _ h3]; rfl
  have c4 : w.cell? ⟨Bk, 0, none⟩ = some (.int .i64 word) := by rw [cell_of_row w Bk 0 _ _ _ h4]; rfl
  have c4' : w.cell? ⟨Bk, 2, none⟩ = some (.int .u64 more) := by rw [cell_of_row w Bk 2 _ _ _ h4]; rfl
  have c5 : w.cell? ⟨Bt, 0, none⟩ = some (.int .i64 t) := by rw [cell_of_row w Bt 0 _ _ _ h5]; rfl
  have H1 := writeM h word (t + more) hw (by omega)
  simp only [Int.natCast_add] at H1
  clear h2 h3 h4 h5
  go_enter Tryz.func80, Tryz.ntmps80
  go_wp2_with (first
    | (go_at_call 54; refine H1.mono ?_; clear H1; rintro e w' ⟨rfl, hp, hS⟩))
  go_end0
  exact ⟨rfl, hp, hS⟩

theorem prs_len {M : List Ob} : ∀ (ws : List Nat) (i : Nat), (prs M i ws).length ≤ ws.length
  | [], _ => by simp [prs]
  | [_], _ => by simp [prs]
  | k :: n :: r, i => by
    have := prs_len (M := M) r (i + 2)
    simp only [prs, List.length_append, List.length_cons]
    split <;> simp <;> omega

theorem links_len (M : List Ob) (o : Ob) : (links M o).length ≤ o.ws.length + 1 := by
  unfold links
  split
  · unfold itemsL
    split
    · split <;> simp
    · simp
  · split
    · have := prs_len (M := M) o.ws 0; omega
    · split
      · have := prs_len (M := M) (o.ws.drop 1) 1; rw [List.length_drop] at this; omega
      · split
        · have := prs_len (M := M) (o.ws.take 2) 0; rw [List.length_take] at this; omega
        · simp

theorem wrsOf_len (d : Nat → Nat) (o : Ob) (xs : List Lk) : (wrsOf d o xs).length ≤ xs.length := by
  unfold wrsOf
  rw [List.length_map]
  exact List.length_filter_le _ _

theorem wrs_len (M : List Ob) (d : Nat → Nat) : ∀ (L : List Ob), (wrs M d L).length ≤ sumO L
  | [] => by simp [wrs]
  | o :: r => by
    have h1 := wrs_len M d r
    have h2 := wrsOf_len d o (links M o)
    have h3 := links_len M o
    have e : wrs M d (o :: r) = wrsOf d o (links M o) ++ wrs M d r := by simp [wrs]
    rw [e, List.length_append, sumO_cons]; omega

theorem infoF : (Tryz.prog.info? 1).map (fun i => (i.zero, i.size, i.bytes)) = some (some .nilFunc, 1, 8) := by kernel_rfl

/-- How many places there are in the map, and that none are where nothing moves. -/
theorem IsMv.len {bM n : Nat} {d : Nat → Nat} (h : IsMv w bM n d) : ∃ s : Nat, (∀ ty, (Builtin.len_ #[75] ty #[.map (some bM)]).run Tryz.prog w = .ok (.int .i64 s) w) ∧ (s = 0 → ∀ p : Nat, d p = p) := by
  obtain ⟨D, h1, h2⟩ := h
  refine ⟨Maps.size D, fun ty => h1.len Tryz.underlying75 ty, fun hs p => ?_⟩
  obtain ⟨es, cl, hb, F, _, rfl⟩ := h1
  have e1 : es.size = 0 := by rw [← hs]; simp [Maps.size, length_sorted]
  have e2 : es = #[] := Array.size_eq_zero_iff.1 e1
  have e3 := (h2 p).1
  rw [e2] at e3
  change false = decide (d p ≠ p) at e3
  simpa using e3.symm

theorem wrs_idle {M L : List Ob} {d : Nat → Nat} (h : ∀ p : Nat, d p = p) : wrs M d L = [] := by
  unfold wrs
  rw [List.flatMap_eq_nil_iff]
  intro o _
  unfold wrsOf
  simp [h]

/-- What stands at the head of the loop over objects. -/
def WritesRel (bh bM : Nat) (q : Option Addr) (c : Nat) (M L : List Ob) (w : World) (N : Nat) (A : Act) (wr : World) : Prop :=
  ∃ (x0 x1 x2 x5 x6 x8 x9 x10 x11 x12 x13 x14 x15 x16 x20 x21 x22 x23 x24 x25 x26 x27 x28 x29 x30 x31 x32 x33 x34 x35 x36 x37 x38 x39 x40 x41 x42 x43 x44 : Value) (pre rest : List Ob) (cs : List Value) (vl : Value) (Ds : List Nat),
    A = { tmps := #[x0, x1, x2, .pointer (some ⟨w.heap.size, 0, none⟩), .pointer (some ⟨w.heap.size + 1, 0, none⟩), x5, x6, .pointer (some ⟨w.heap.size + 1 + 1, 0, none⟩), x8, x9, x10, x11, x12, x13, x14, x15, x16, .slice q L.length c, .int .i64 L.length, .int .i64 pre.length, x20, x21, x22, x23, x24, x25, x26, x27, x28, x29, x30, x31, x32, x33, x34, x35, x36, x37, x38, x39, x40, x41, x42, x43, x44], defers := marksOf Ds } ∧ L = pre ++ rest ∧
    Boxed wr w.heap.size 75 (.map (some bM)) ∧ Boxed wr (w.heap.size + 1) 24 (.pointer (some ⟨bh, 0, none⟩)) ∧ Boxed wr (w.heap.size + 1 + 1) 78 vl ∧
    wr.ownsRow (w.heap.size + 3) 1 1 vl cs.length cs ∧ Clos bh wr cs (wrs M (dst 0 L) pre) ∧ Below w.heap.size w wr ∧ w.heap.size + 3 ≤ wr.heap.size ∧
    (∀ D ∈ Ds, w.heap.size ≤ D ∧ wr.heap[D]? = some (.deferred (some []))) ∧ Ds.Nodup ∧ rest.length + 1 ≤ N

/-- A block of cells stays while others that are none are turned. -/
theorem cells_stay {n : Nat} {W W' : World} {row : Option Nat} (hg : W.grownBy W' row) (hr : ∀ r, row = some r → n ≤ r ∧ ∃ o : Obj, W.heap[r]? = some o ∧ o.isCells = false) {k : Nat} {cur : Array Value} {t : TypeId} {fr : Nat × Nat} (hk : W.heap[k]? = some (.cells cur t fr)) : W'.heap[k]? = W.heap[k]? := by
  refine hg.block k (Array.getElem?_eq_some_iff.1 hk).1 (fun e => ?_)
  obtain ⟨_, o, ho, hn⟩ := hr k e.symm
  rw [hk] at ho; cases ho; simp [Obj.isCells] at hn

/-- A block of another type stays while a list in a box grows. -/
theorem grows_stay {W w1 : World} {B m₀ k : Nat} {t e : TypeId} {v v' : Value} {xs : List Value} {tmp : Obj} (hv : Boxed W B t v) (hrow : W.ownsRow m₀ e 1 v k xs) (hgrow : (W.alloc tmp).grownBy w1 v.ownBlock) {q : Nat} {cur : Array Value} {t' : TypeId} {fr : Nat × Nat} (hq : W.heap[q]? = some (.cells cur t' fr)) (h1 : t' ≠ e) (h2 : t' ≠ t) :
    (w1.setCell ⟨B, 0, none⟩ v').heap[q]? = W.heap[q]? := by
  have hlt := (Array.getElem?_eq_some_iff.1 hq).1
  have hqB : q ≠ B := by
    rintro rfl
    have : W.heap[q]? = some (.cells #[v] t (0, 0)) := hv
    rw [this] at hq; cases hq; exact h2 rfl
  rw [heap_setCell_other w1 ⟨B, 0, none⟩ q _ hqB, hgrow.block q (by simp; omega) (fun e' => ?_)]
  · exact Below.heap_alloc _ _ _ hlt
  · obtain ⟨cur', hc⟩ := IsAr.row_type hrow e'.symm
    rw [hq] at hc; cases hc; exact h1 rfl

set_option maxRecDepth 100000 in
set_option maxHeartbeats 2000000 in
theorem writes_in (h : Hp n₀ bh b vw vb w lim used M) {vs : List Vl} {f : Ob → Bool} (hf : Reached M vs f) {L : List Ob} (hL : M.filter f = L) {bM n : Nat} (hmv : IsMv w bM n (dst 0 L)) (q : Option Addr) (c base : Nat) (hrow : w.ownsRow base 2 1 (.slice q L.length c) L.length (L.map (fun o => pv o.at_))) :
    Calls Tryz.prog 36 #[.map (some bM), .pointer (some ⟨bh, 0, none⟩), .slice q L.length c] w fun e w' => ∃ v cs, e = .returned v ∧ w'.ownsRow (w.heap.size + 3) 1 1 v cs.length cs ∧ Clos bh w' cs (wrs M (dst 0 L) L) ∧ Below w.heap.size w w' := by
  have hs : Srt 0 L := by rw [← hL]; exact h.srt.1.filter
  have hle := h.le
  have hLM : ∀ o ∈ L, o ∈ M := fun o ho => by rw [← hL] at ho; exact (List.mem_filter.1 ho).1
  have hin : ∀ o ∈ L, o.end_ ≤ used := fun o ho => h.srt.2 o (hLM o ho)
  have hsum := Srt.sum_used hs hin (Nat.zero_le _)
  have hlen := Srt.length_le hs hin (Nat.zero_le _)
  obtain ⟨i0, hi, hz0, hz1, hz2⟩ := info_parts infoF
  refine (callsIn_wide (n := 3)).1 ?_
  have h1 : 1 ≤ 3 := by omega
  refine callsIn_of_wp_marks Tryz.func36 rfl trivial ?_ rfl
  simp only [Tryz.ntmps36, List.size_toArray, List.length_cons, List.length_nil, Nat.reduceAdd, Nat.reduceSub, Array.replicate_succ, Array.replicate_zero, List.push_toArray, List.append_toArray, List.nil_append, List.cons_append]
  obtain ⟨sz, hlen', hz⟩ := (hmv.below ((below1 w (.cells #[.map (some bM)] 75)).alloc (by simp) (.cells #[.pointer (some ⟨bh, 0, none⟩)] 24))).len
  have hlen2 := hlen' 3
  clear hlen'
  by_cases hsz : sz = 0
  · have hi := hz hsz
    subst hsz
    gi_wp2
    show LeavesInM Fence.wide 3 Tryz.prog Tryz.f36 _ _ (marksOf []) .returning _
    refine leaves_marks [] _ (by simp) (by simp) ?_
    intro w5 g1 g2 g3 g4 g5
    have hB5 := (below1 w (.cells #[.map (some bM)] 75)).alloc (by simp) (.cells #[.pointer (some ⟨bh, 0, none⟩)] 24)
    refine ⟨_, results_tmp rfl _ _ _, .slice none 0 0, rfl, [], World.ownsRow_nil _ _ _ _, ?_, ?_⟩
    · rw [wrs_idle hi]; exact trivial
    · exact ⟨g3.trans hB5.os, g4.trans hB5.tape, g5.trans hB5.output, by rw [g2]; exact hB5.size, fun k hk => (g1 k (by simp)).trans (hB5.block k hk)⟩
  have hszb : ((sz : Int) == 0) = false := by simp; omega
  gi_wp2
  clear hlen2 hszb hz hsz
  obtain ⟨W0, hW0⟩ : ∃ W0, ((w.alloc (.cells #[.map (some bM)] 75)).alloc (.cells #[.pointer (some ⟨bh, 0, none⟩)] 24)).alloc (.cells #[.slice none 0 0] 78) = W0 := ⟨_, rfl⟩
  have s1 : Boxed W0 w.heap.size 75 (.map (some bM)) := by rw [← hW0]; exact ((Boxed.new w 75 (.map (some bM))).alloc _).alloc _
  have s2 : Boxed W0 (w.heap.size + 1) 24 (.pointer (some ⟨bh, 0, none⟩)) := by
    have := (Boxed.new (w.alloc (.cells #[.map (some bM)] 75)) 24 (.pointer (some ⟨bh, 0, none⟩))).alloc (.cells #[.slice none 0 0] 78)
    rw [← hW0]; simpa using this
  have s3 : Boxed W0 (w.heap.size + 1 + 1) 78 (.slice none 0 0) := by
    have := Boxed.new ((w.alloc (.cells #[.map (some bM)] 75)).alloc (.cells #[.pointer (some ⟨bh, 0, none⟩)] 24)) 78 (.slice none 0 0)
    rw [← hW0]; simpa using this
  have s4 : Below w.heap.size w W0 := by rw [← hW0]; exact ((below1 w _).alloc (by simp) _).alloc (by simp; omega) _
  have s5 : w.heap.size + 3 ≤ W0.heap.size := by rw [← hW0]; simp
  try rw [hW0]
  clear hW0
  refine wpIn_loop_rel (WritesRel bh bM q c M L w) (L.length + 1) ⟨_, _, _, _, _, _, _, _, _, _, _, _, _, _, _, _, _, _, _, _, _, _, _, _, _, _, _, _, _, _, _, _, _, _, _, _, _, _, _, [], L, [], .slice none 0 0, [], rfl, rfl, s1, s2, s3, World.ownsRow_nil _ _ _ _, trivial, s4, s5, by simp, by simp, Nat.le_refl _⟩ ?_ ?_
  · rintro A W ⟨_, _, _, _, _, _, _, _, _, _, _, _, _, _, _, _, _, _, _, _, _, _, _, _, _, _, _, _, _, _, _, _, _, _, _, _, _, _, _, _, _, _, _, _, _, _, _, _, _, _, _, _, _, _, _, hle⟩
    omega
  · clear s1 s2 s3 s4 s5
    rintro N A wr ⟨x0, x1, x2, x5, x6, x8, x9, x10, x11, x12, x13, x14, x15, x16, x20, x21, x22, x23, x24, x25, x26, x27, x28, x29, x30, x31, x32, x33, x34, x35, x36, x37, x38, x39, x40, x41, x42, x43, x44, pre, rest, cs, vl, Ds, rfl, hR, b1, b2, b3, hrw, hcl, hB, hsz, hDs, hDn, hN⟩
    have d1 := b1.cell
    have d2 := b2.cell
    have d3 := b3.cell
    cases rest with
    | nil =>
      have hR' : L = pre := by simpa using hR
      have hq : ¬ ((pre.length : Int) < (L.length : Int)) := by rw [hR']; omega
      rw [← hR'] at hcl
      clear hR hR'
      gi_wp2
      show LeavesInM Fence.wide 3 Tryz.prog Tryz.f36 _ _ (marksOf Ds) .returning wr
      refine leaves_marks Ds wr (fun D hD => (hDs D hD).2) hDn ?_
      intro w5 g1 g2 g3 g4 g5
      have hcells : ∀ (k : Nat) (cur : Array Value) (t : TypeId) (fr : Nat × Nat), wr.heap[k]? = some (Obj.cells cur t fr) → w5.heap[k]? = wr.heap[k]? := fun k cur t fr hk => g1 k (fun hD => by
        have := (hDs k hD).2; rw [hk] at this; cases this)
      refine ⟨_, results_tmp rfl _ _ _, vl, rfl, cs, ?_, ?_, ?_⟩
      · exact row_kept hrw (fun k hk => by obtain ⟨cur, hc⟩ := IsAr.row_type hrw hk; exact hcells _ _ _ _ hc)
      · exact hcl.kept (fun k cur t hk _ => hcells _ _ _ _ hk)
      · exact ⟨g3.trans hB.os, g4.trans hB.tape, g5.trans hB.output, by rw [g2]; exact hB.size, fun k hk => (g1 k (fun hD => by have := (hDs k hD).1; omega)).trans (hB.block k hk)⟩
    | cons o rest =>
      have hom : o ∈ L := by rw [hR]; simp
      have hlR : pre.length < L.length := by rw [hR]; simp
      have hlR' : (pre.length : Int) < (L.length : Int) := by omega
      obtain ⟨lq, rq, hM⟩ := List.append_of_mem (hLM o hom)
      have hrow' := row_kept hrow (fun k hk => hB.block k (hrow.lt k hk).2)
      obtain ⟨g, rfl⟩ := row_where hrow (by omega)
      have d4 : wr.cell? ⟨g, pre.length, none⟩ = some (.int .i64 o.at_) := row_cell hrow' (by rw [hR]; simp [pv]) hlR
      have hwo := hin o hom
      unfold Ob.end_ at hwo
      have hdl : ∀ x ∈ L, dst 0 L x.at_ ≤ 1048576 := fun x hx => by
        have := dst_le (p := x.at_) hs; have := hin x hx; unfold Ob.end_ at this; omega
      have H1 := place_in (hmv.kept (hB.block _ hmv.lt)) o.at_ (by omega) (hdl o hom)
      have hBW' : Below wr.heap.size wr (wr.alloc (.cells #[.int .i64 (dst 0 L o.at_ : Nat)] 2)) := below1 _ _
      have H2 := holds_in (bh := bh) (o.at_ : Int) (wr.alloc (.cells #[.int .i64 (dst 0 L o.at_ : Nat)] 2))
      have HR : Hid _ := hR
      have d5 := cell_alloc_l (.cells #[.int .i64 (dst 0 L o.at_ : Nat)] 2) d2
      clear hR
      gi_wp2_with (first
        | (refine ⟨trivial, ?_⟩; gi_at_call 79; refine (callsIn_wide.2 H1).mono ?_; clear H1; rintro e w' ⟨rfl, rfl⟩)
        | (refine ⟨trivial, ?_⟩; gi_at_call 75; refine (callsIn_wide.2 H2).mono ?_; clear H2; rintro e w1 ⟨rfl, hB1⟩))
      obtain ⟨wr, hww⟩ : ∃ wr, wr = w' := ⟨_, rfl⟩
      subst hww
      have hs0 := hB.size
      have hs1 := hB1.size
      rw [World.size_alloc] at hs1
      have hbk := h.blocks
      have hDl : ∀ D ∈ Ds, D < wr.heap.size := fun D hD => (Array.getElem?_eq_some_iff.1 (hDs D hD).2).1
      have hBW : Below wr.heap.size wr w1 := hBW'.trans (hB1.mono (by simp))
      have hBw : Below w.heap.size w w1 := hB.trans (hBW.mono hB.size)
      have hp2 := (h.below hB).below hBW
      rw [hM] at hp2
      obtain ⟨P, hP⟩ : ∃ P : Nat → Prop, P = fun k => (k = bh ∨ k = b ∨ vw.ownBlock = some k ∨ vb.ownBlock = some k) := ⟨_, rfl⟩
      have hP1 : Heaps bh b vw vb P := fun k hk => by rw [hP]; exact hk
      have hP3 : ∀ k, P k → k < w.heap.size := fun k hk => by rw [hP] at hk; exact (hbk k hk).2.1
      have hT := fun (V : World) (hV : Below w1.heap.size w1 V) (L : List Lk) (xs : List { x : Lk // x ∈ L }) hxs => links_tells (L := L) hP1 (fun k hk => by have := hP3 k hk; have := hV.size; omega) (hp2.below hV) xs hxs
      rw [← hM] at hT
      have hT' := fun (V : World) (hV : Below w1.heap.size w1 V) => hT V hV (links M o) (links M o).attach (List.attach_map_subtype_val (links M o))
      have hlto : ∀ x ∈ links M o, x.to ≤ 1048576 ∧ dst 0 L x.to ≤ 1048576 ∧ x.more ≤ 1 ∧ x.word ≤ 1048576 := fun x hx => by
        obtain ⟨q, hq, e⟩ := links_mem hx
        have h1 := h.srt.2 q hq
        have h2 := dst_le (p := x.to) hs
        have h3 := (List.getElem?_eq_some_iff.1 (links_word hx)).1
        have h4 : x.more ≤ 1 := by
          rcases links_iff.1 hx with ⟨_, y, _, _, _, rfl⟩ | ⟨_, j, k, n, _, _, _, _, rfl⟩ <;> simp
        unfold Ob.end_ at h1
        omega
      have hwl : (wrs M (dst 0 L) pre).length + (links M o).length ≤ 1048576 := by
        have q1 := wrs_len M (dst 0 L) pre
        have q2 := links_len M o
        have q3 : sumO pre + (o.ws.length + 1) ≤ sumO L := by
          rw [HR.out, sumO_append, sumO_cons]; omega
        omega
      have hNr : rest.length + 1 ≤ N := by simpa using hN
      clear hT
      refine wp_range_method h1 rfl (enters_of Tryz.func76 (by kernel_rfl) rfl) (fun k hk => by have := hP3 k hk; omega) hT' (fun _ => rfl)
        (fun mm pre' W => (∃ cs' vl', Boxed W (w.heap.size + 1 + 1) 78 vl' ∧ W.ownsRow (w.heap.size + 3) 1 1 vl' cs'.length cs' ∧ (∀ k, vl'.ownBlock = some k → k < w1.heap.size ∨ mm ≤ k) ∧ Clos bh W cs' (wrs M (dst 0 L) pre ++ wrsOf (dst 0 L) o (pre'.map (·.val)))) ∧
          Boxed W w.heap.size 75 (.map (some bM)) ∧ Boxed W (w.heap.size + 1) 24 (.pointer (some ⟨bh, 0, none⟩)) ∧ Boxed W wr.heap.size 2 (.int .i64 (dst 0 L o.at_ : Nat)) ∧ Below w.heap.size w W ∧ (∀ D ∈ Ds, w.heap.size ≤ D ∧ W.heap[D]? = some (.deferred (some []))) ∧ w1.heap.size ≤ W.heap.size ∧ mm ≤ W.heap.size)
        (fun mm s W W' row hs hg hr => by
          obtain ⟨⟨cs', vl', q1, q2, q3, q4⟩, q5, q6, q7, q8, q9, q10, q0⟩ := hs
          refine ⟨⟨cs', vl', (cells_stay hg hr q1).trans q1, row_kept q2 (fun k hk => by obtain ⟨cur, hc⟩ := IsAr.row_type q2 hk; exact cells_stay hg hr hc), q3, q4.kept (fun k cur t hk _ => cells_stay hg hr hk)⟩, (cells_stay hg hr q5).trans q5, (cells_stay hg hr q6).trans q6, (cells_stay hg hr q7).trans q7,
            (ownFrom_below (β := Unit) (Nat.le_refl _) (by omega)) () W W' row q8 hg hr, fun D hD => ⟨(q9 D hD).1, ?_⟩, Nat.le_trans q10 hg.size, Nat.le_trans q0 hg.size⟩
          refine (hg.block D (by have := hDl D hD; omega) (fun e => ?_)).trans (q9 D hD).2
          have := (hr D e.symm).1; have := hDl D hD; omega)
        (fun V hV => ⟨⟨cs, vl, ((hBW.trans (hV.mono hBW.size)).block _ b3.lt).trans b3, row_kept hrw (fun k hk => (hBW.trans (hV.mono hBW.size)).block k (hrw.lt k hk).2), fun k e => .inl (by have := (hrw.lt k e).2; omega), by simpa [wrsOf] using hcl.below (hBW.trans (hV.mono hBW.size))⟩, ((hBW.trans (hV.mono hBW.size)).block _ b1.lt).trans b1, ((hBW.trans (hV.mono hBW.size)).block _ b2.lt).trans b2, (hV.block _ (by omega)).trans ((hB1.block _ (by simp)).trans (heap_alloc_new wr _)), hBw.trans (hV.mono hBw.size), fun D hD => ⟨(hDs D hD).1, below_keeps hV D _ (below_keeps hBW D _ (hDs D hD).2 rfl) rfl⟩, hV.size, Nat.le_refl _⟩)
        (fun x a' W => ∃ Bx, w1.heap.size ≤ Bx ∧ W.heap[Bx]? = some (.cells #[.int .i64 x.val.word, .int .i64 x.val.to, .int .u64 x.val.more] 131 (0, 0)) ∧ a' = { tmps := #[x0, x1, x2, .pointer (some ⟨w.heap.size, 0, none⟩), .pointer (some ⟨w.heap.size + 1, 0, none⟩), x5, x6, .pointer (some ⟨w.heap.size + 1 + 1, 0, none⟩), x8, .int .i64 o.at_, .pointer (some ⟨wr.heap.size, 0, none⟩), .pointer (some ⟨Bx, 0, none⟩), x12, x13, x14, x15, x16, .slice (some ⟨g, 0, none⟩) L.length c, .int .i64 L.length, .int .i64 pre.length, .bool true, .pointer (some ⟨g, pre.length, none⟩), .int .i64 o.at_, .map (some bM), .int .i64 o.at_, .int .i64 (dst 0 L o.at_ : Nat), .pointer (some ⟨bh, 0, none⟩), .int .i64 o.at_, .agg #[.pointer (some ⟨bh, 0, none⟩), .int .i64 o.at_], .func (.func 76) #[.agg #[.pointer (some ⟨bh, 0, none⟩), .int .i64 o.at_]] #[], lkv x.val, x31, x32, x33, x34, x35, x36, x37, x38, x39, x40, x41, x42, x43, x44], defers := [] })
        (fun x a' s W W' row hs hg hr => by
          obtain ⟨Bx, q1, q2, q3⟩ := hs
          exact ⟨Bx, q1, (cells_stay hg hr q2).trans q2, q3⟩)
        ?assign ?body ?done
      case assign =>
        rintro l mm pre' x W K ⟨⟨cs', vl', q1, q2, q3, q4⟩, q5, q6, q7, q8, q9, q10, q0⟩ hK
        have hup : ∀ k, Upto P (w1.heap.size + 1 + 1) mm k → k < W.heap.size := fun k hk => by
          rcases hk with hk | hk
          · have := hP3 k hk; omega
          · omega
        have hB' := below1 W (.cells #[.int .i64 x.val.word, .int .i64 x.val.to, .int .u64 x.val.more] 131)
        simp only [lkv]
        gi_wp2
        refine hK _ _ ((KeepsOthers.alloc _ _).from _) (fun k hk => hB'.block k (hup k hk)) ⟨⟨cs', vl', q1.alloc _, q2.alloc _, q3, q4.below hB'⟩, q5.alloc _, q6.alloc _, q7.alloc _, q8.trans (hB'.mono q8.size), fun D hD => ⟨(q9 D hD).1, below_keeps hB' D _ (q9 D hD).2 rfl⟩, Nat.le_trans q10 hB'.size, Nat.le_trans q0 hB'.size⟩ ⟨W.heap.size, q10, heap_alloc_new W _, rfl⟩
      case body =>
        rintro l mm pre' x a' W hl hmm ⟨⟨cs', vl', q1, q2, q3, q4⟩, q5, q6, q7, q8, q9, q10, q0⟩ ⟨Bx, q11, q12, rfl⟩ hlt
        have hup : ∀ k, Upto P (w1.heap.size + 1 + 1) mm k → k < W.heap.size := fun k hk => by
          rcases hk with hk | hk
          · have := hP3 k hk; omega
          · omega
        obtain ⟨l1, l2, l3, l4⟩ := hlto x.val x.property
        obtain ⟨cc, hrun, hcc⟩ := (hmv.kept (q8.block _ hmv.lt)).look x.val.to l1 l2
        have d6 := q5.cell
        have d7 : W.cell? ⟨Bx, 1, none⟩ = some (.int .i64 x.val.to) := by rw [cell_of_row W Bx 1 _ _ _ q12]; rfl
        have hxl : cs'.length ≤ (wrs M (dst 0 L) pre).length + pre'.length := by
          have e1 := q4.length
          have e2 := wrsOf_len (dst 0 L) o (pre'.map (·.val))
          rw [List.length_append] at e1
          rw [List.length_map] at e2
          omega
        rw [List.length_attach] at hlt
        by_cases hdx : dst 0 L x.val.to = x.val.to
        · have e0 : decide (dst 0 L x.val.to ≠ x.val.to) = false := by simp [hdx]
          rw [e0] at hrun
          have HX : Hid _ := hdx
          clear e0 hcc hdx
          gi_wp2
          have hB' := below1 W (.cells #[.int .i64 cc] 2)
          refine ⟨((KeepsOthers.alloc _ _).from _), fun k hk => hB'.block k (hup k hk), ⟨cs', vl', q1.alloc _, q2.alloc _, q3, ?_⟩, q5.alloc _, q6.alloc _, q7.alloc _, q8.trans (hB'.mono q8.size), fun D hD => ⟨(q9 D hD).1, below_keeps hB' D _ (q9 D hD).2 rfl⟩, Nat.le_trans q10 hB'.size, Nat.le_trans q0 hB'.size⟩
          rw [List.map_append, List.map_cons, List.map_nil, wrsOf_snoc, if_neg (fun h => h HX.out), List.append_nil]
          exact q4.below hB'
        · have e0 : decide (dst 0 L x.val.to ≠ x.val.to) = true := by simp [hdx]
          rw [e0, hcc hdx] at hrun
          have HX : Hid _ := hdx
          have d8 := cell_alloc_l (.cells #[.int .i64 (dst 0 L x.val.to : Nat)] 2) q1.cell
          have cn := cell_one_new (W.alloc (.cells #[.int .i64 (dst 0 L x.val.to : Nat)] 2)) (.func (.func 80) #[] #[.pointer (some ⟨w.heap.size + 1, 0, none⟩), .pointer (some ⟨wr.heap.size, 0, none⟩), .pointer (some ⟨Bx, 0, none⟩), .pointer (some ⟨W.heap.size, 0, none⟩)]) 1
          rw [World.size_alloc] at cn
          clear e0 hcc hdx
          gi_wp2_with (first
            | (gi_at_builtin; refine wpListIn_append_own_at _ rfl _ _ 78 rfl (w.heap.size + 3) 1 i0 .nilFunc 1 8 Tryz.underlying78 hi hz0 hz1 hz2 rfl (by decide) _ _ _ rfl ((q2.alloc _).alloc _) ⟨W.heap.size + 1, 0, none⟩ 1 1 _ rfl rfl cn (by simp [Value.oneCell']) (by unfold maxLen; omega) (by omega) (by simp; omega) ?_; intro v' w2 hown' hgrow _ hat; obtain ⟨g', cap', rfl⟩ := ownsRow_succ hown'; obtain ⟨hv1, hv2, hr2, hk2, hb2, ho1, ho2, ho3⟩ := boxed_appended (q1.alloc _) (q2.alloc _) (by simp; omega) (by omega) hown' hgrow; have hc1 := hv1.cell; have hf1 := hv1.frozen))
          have hBl : w.heap.size + 1 + 1 < W.heap.size := q1.lt
          have hV : ∀ k, k < W.heap.size → k ≠ w.heap.size + 1 + 1 → some k ≠ vl'.ownBlock → (w2.setCell ⟨w.heap.size + 1 + 1, 0, none⟩ (.slice (some ⟨g', 0, none⟩) (cs'.length + 1) cap')).heap[k]? = W.heap[k]? := by
            intro k hk h2 h3
            rw [heap_setCell_other w2 ⟨w.heap.size + 1 + 1, 0, none⟩ k _ h2, hgrow.block k (by simp; omega) h3]
            exact (Below.heap_alloc _ _ _ (by simp; omega)).trans (Below.heap_alloc _ _ _ hk)
          have hVc : ∀ (k : Nat) (cur : Array Value) (t : TypeId) (fr : Nat × Nat), W.heap[k]? = some (Obj.cells cur t fr) → t ≠ 1 → t ≠ 78 → (w2.setCell ⟨w.heap.size + 1 + 1, 0, none⟩ (.slice (some ⟨g', 0, none⟩) (cs'.length + 1) cap')).heap[k]? = W.heap[k]? := by
            intro k cur t fr hk h2 h3
            refine hV k (Array.getElem?_eq_some_iff.1 hk).1 (fun e => ?_) (fun e => ?_)
            · have := q1; unfold Boxed at this; rw [← e, hk] at this; cases this; exact h3 rfl
            · obtain ⟨cur', hc⟩ := IsAr.row_type q2 e.symm
              rw [hk] at hc; cases hc; exact h2 rfl
          have hVD : ∀ (k : Nat) (o : Obj), W.heap[k]? = some o → o.isCells = false → (w2.setCell ⟨w.heap.size + 1 + 1, 0, none⟩ (.slice (some ⟨g', 0, none⟩) (cs'.length + 1) cap')).heap[k]? = some o := by
            intro k o hk ho
            refine (hV k (Array.getElem?_eq_some_iff.1 hk).1 (fun e => ?_) (fun e => ?_)).trans hk
            · have := q1; unfold Boxed at this; rw [← e, hk] at this; cases this; simp [Obj.isCells] at ho
            · obtain ⟨cur', hc⟩ := IsAr.row_type q2 e.symm
              rw [hk] at hc; cases hc; simp [Obj.isCells] at ho
          have hsz2 := hk2.size
          rw [World.size_alloc] at hsz2
          have hnew : (w2.setCell ⟨w.heap.size + 1 + 1, 0, none⟩ (.slice (some ⟨g', 0, none⟩) (cs'.length + 1) cap')).heap[W.heap.size]? = some (.cells #[.int .i64 (dst 0 L x.val.to : Nat)] 2 (0, 0)) :=
            (grows_stay (q1.alloc (.cells #[.int .i64 (dst 0 L x.val.to : Nat)] 2)) (q2.alloc (.cells #[.int .i64 (dst 0 L x.val.to : Nat)] 2)) hgrow (heap_alloc_new W _) (by decide) (by decide)).trans (heap_alloc_new W _)
          have hBV : Below w.heap.size W (w2.setCell ⟨w.heap.size + 1 + 1, 0, none⟩ (.slice (some ⟨g', 0, none⟩) (cs'.length + 1) cap')) :=
            ⟨ho1, ho2, ho3, by omega, fun k hk => hV k (by omega) (by omega) (fun e => by have := (q2.lt k e.symm).1; omega)⟩
          refine ⟨((KeepsOthers.alloc _ _).trans hk2).from _, fun k hk => ?_, ⟨cs' ++ [_], _, hv2, by simpa using hr2, ?_, ?_⟩, (hVc _ _ _ _ q5 (by decide) (by decide)).trans q5, (hVc _ _ _ _ q6 (by decide) (by decide)).trans q6, (hVc _ _ _ _ q7 (by decide) (by decide)).trans q7, q8.trans hBV, fun D hD => ⟨(q9 D hD).1, hVD D _ (q9 D hD).2 rfl⟩, by omega, by omega⟩
          · have hk0 := hup k hk
            have hb3 := b3.lt
            rcases hk with hk | hk
            · have hk' := hP3 k hk
              refine hV k hk0 (by omega) (fun e => ?_)
              have h5 := (q2.lt k e.symm).1
              omega
            · refine hV k hk0 (by omega) (fun e => ?_)
              have h6 := q3 k e.symm
              omega
          · intro k e
            rcases hat with e' | e'
            · exact q3 k (e'.symm.trans e)
            · rw [e'] at e
              simp at e
              omega
          · rw [List.map_append, List.map_cons, List.map_nil, wrsOf_snoc, if_pos HX.out, ← List.append_assoc]
            refine Clos.snoc (q4.kept (fun k cur t hk ht => hVc k cur t _ hk (by rcases ht with rfl | rfl | rfl <;> decide) (by rcases ht with rfl | rfl | rfl <;> decide))) ?_
            exact ⟨w.heap.size + 1, wr.heap.size, Bx, W.heap.size, x.val.to, dst 0 L x.val.to, x.val.more, rfl, (hVc _ _ _ _ q6 (by decide) (by decide)).trans q6, (hVc _ _ _ _ q7 (by decide) (by decide)).trans q7, (hVc _ _ _ _ q12 (by decide) (by decide)).trans q12, hnew, rfl, l2, l3, l4⟩
      case done =>
        rintro D mm W hD - ⟨⟨cs', vl', q1, q2, q3, q4⟩, q5, q6, q7, q8, q9, q10, q0⟩ hK
        rw [show (links M o).attach.map (fun x => x.val) = links M o from List.attach_map_subtype_val (links M o)] at q4
        have e1 : (((pre ++ [o]).length : Nat) : Int) = pre.length + 1 := by simp
        gi_wp2
        refine ⟨_, _, _, _, _, _, _, _, _, _, _, _, _, _, _, _, _, _, _, _, _, _, _, _, _, _, _, _, _, _, _, _, _, _, _, _, _, _, _, pre ++ [o], rest, cs', vl', D :: Ds, by rw [e1]; rfl, by rw [HR.out]; simp, q5, q6, q1, q2, by rw [wrs_snoc]; exact q4, q8, by omega, ?_, ?_, hNr⟩
        · intro E hE
          rcases List.mem_cons.1 hE with rfl | hE
          · exact ⟨by omega, hK⟩
          · exact q9 E hE
        · exact List.nodup_cons.2 ⟨fun hE => by have := hDl D hE; omega, hDn⟩

end Go.Proofs.YtkombdkhodjckaaGreat

namespace Go.Proofs.YtkombdkhodjckaaGreat
set_option linter.unusedVariables false
set_option linter.unusedSimpArgs false
open Go.RowKit Go.Maps

variable {n₀ bh b lim used : Nat} {vw vb : Value} {w : World} {M : List Ob}

theorem wrs_mem {M L : List Ob} {d : Nat → Nat} {x : Wr} (h : x ∈ wrs M d L) : ∃ o ∈ L, ∃ y ∈ links M o, x.fr = d o.at_ ∧ x.word = y.word := by
  unfold wrs at h
  obtain ⟨o, ho, hx⟩ := List.mem_flatMap.1 h
  unfold wrsOf at hx
  obtain ⟨y, hy, rfl⟩ := List.mem_map.1 hx
  exact ⟨o, ho, y, (List.mem_filter.1 hy).1, rfl, rfl⟩

theorem putsW_alike (A : List Ob) : ∀ (xs : List Wr) (B : List Ob), Alike A B → Alike A (putsW B xs)
  | [], B, h => h
  | x :: xs, B, h => putsW_alike A xs (putW B x) (h.putW x)

/-- The object that a write is for. -/
theorem write_atG {M L : List Ob} {lo : Nat} (hs : Srt lo L) {x : Wr} (hx : x ∈ wrs M (dst 0 L) L) (xs : List Wr) : ∃ l q r, putsW (slid 0 L) xs = l ++ q :: r ∧ q.at_ = x.fr ∧ x.word < q.ws.length := by
  obtain ⟨o, ho, y, hy, h1, h2⟩ := wrs_mem hx
  have hm : (⟨dst 0 L o.at_, o.kind, o.ws⟩ : Ob) ∈ slid 0 L := by rw [slid_map hs]; exact List.mem_map.2 ⟨o, ho, rfl⟩
  obtain ⟨q, hq, e1, e2, e3⟩ := (putsW_alike (slid 0 L) xs (slid 0 L) (Alike.refl _)).get hm
  obtain ⟨l, r, e⟩ := List.append_of_mem hq
  refine ⟨l, q, r, e, by rw [e1, h1], ?_⟩
  rw [e3, h2]
  exact (List.getElem?_eq_some_iff.1 (links_word hy)).1

theorem Vals.kept {p : Option Addr} {vs : List Vl} (h : Vals w p vs) {w' : World} (hk : ∀ b0 off, p = some ⟨b0, off, none⟩ → w'.heap[b0]? = w.heap[b0]?) : Vals w' p vs := by
  intro j v hj
  obtain ⟨b0, off, e, h1, h2⟩ := h j v hj
  have := hk b0 off e
  exact ⟨b0, off, e, (World.cell?_of_block (a := ⟨b0, off + j * 2, none⟩) this).trans h1, (World.cell?_of_block (a := ⟨b0, off + j * 2 + 1, none⟩) this).trans h2⟩

set_option maxRecDepth 20000 in
set_option maxHeartbeats 2000000 in
theorem collect_ok (h : Hp n₀ bh b vw vb w lim used M) (hl1 : 1 ≤ lim) {p : Option Addr} {vs : List Vl} (c : Nat) (hv : Vals w p vs) (hp : p = none → vs = [] ∧ c = 0) (hlen : vs.length ≤ 1000000) (hk8 : ∀ v ∈ vs, v.k < 256)
    (hst : ∀ vw' vb' w', Step b vw vb w vw' vb' w' → Vals w' p vs) (hmay : May M vs) :
    Calls Tryz.prog 12 #[.pointer (some ⟨bh, 0, none⟩), .slice p vs.length c] w fun e w' => ∃ (v : Value), e = .returned (.tuple #[v, .int .i64 0]) ∧ ∃ (f : Ob → Bool) (vw' vb' : Value), Reached M vs f ∧
      OwnVals w.heap.size v (vs.map (newRoot (dst 0 (M.filter f)))) w' ∧ Hp n₀ bh b vw' vb' w' lim (sumO (M.filter f)) (fin M (M.filter f)) ∧ Step b vw vb w vw' vb' w' := by
  have H1 : Calls Tryz.prog 33 #[.pointer (some ⟨bh, 0, none⟩), .slice p vs.length c] w fun e w' => e = .returned (.int .i64 0) ∧ Below w.heap.size w w' := by
    refine (check_in h hl1 c hv hlen hk8).mono ?_
    rintro e w' ⟨⟨_, he⟩ | ⟨hn, _⟩, hB⟩
    · exact ⟨he, hB⟩
    · exact (hn hmay).elim
  have H2 := fun w' (hB : Below w.heap.size w w') => reached_obs (h.below hB) c (hv.below hB) hlen
  have hle := h.le
  have hvw : ∀ k, vw.ownBlock = some k → k < w.heap.size := fun k e => (h.blocks k (.inr (.inr (.inl e)))).2.1
  go_enter Tryz.func12, Tryz.ntmps12
  go_wp2_with (first
    | (go_at_call 33; refine H1.mono ?_; clear H1; rintro e w1 ⟨rfl, hB1⟩)
    | (go_at_call 34; refine (H2 _ hB1).mono ?_; clear H2; rintro e w2 ⟨f, q, c2, hf, rfl, hrow, hB2⟩
       obtain ⟨L, hL⟩ : ∃ L, M.filter f = L := ⟨_, rfl⟩
       have hLm : ∀ o ∈ L, o ∈ M := fun o ho => by rw [← hL] at ho; exact (List.mem_filter.1 ho).1
       have hs : Srt 0 L := by rw [← hL]; exact h.srt.1.filter
       have hB02 := hB1.trans (hB2.mono hB1.size)
       have hp2 := h.below hB02
       have hre : Reached M vs f := ⟨hmay, hf⟩
       rw [hL] at hrow
       simp only [hL]
       have H3 := plan_in hp2 hLm hs q c2 _ hrow)
    | (go_at_call 35; refine H3.mono ?_; clear H3; rintro e w3 ⟨rfl, hmv, hB3⟩
       have hB03 := hB02.trans (hB3.mono hB02.size)
       have hp3 := h.below hB03
       have hrow3 := row_kept hrow (fun k hk => hB3.block k (hrow.lt k hk).2)
       have H4 := writes_in hp3 hre hL hmv q c2 _ hrow3)
    | (go_at_call 36; refine H4.mono ?_; clear H4; rintro e w4 ⟨vc, cs, rfl, hcr, hcl, hB4⟩
       obtain ⟨pc, cc, rfl, _, _⟩ := IsAr.row_form hcr
       have hB04 := hB03.trans (hB4.mono hB03.size)
       have hp4 := h.below hB04
       have hrow4 := row_kept hrow3 (fun k hk => hB4.block k (hrow3.lt k hk).2)
       have hmv4 := hmv.below hB4
       have H5 := slide_in hp4 hL hmv4 q c2 _ hrow4)
    | (go_at_call 37; refine H5.mono ?_; clear H5; rintro e w5 ⟨rfl, tail, htl, hp5, hS5⟩
       have hsu := hp5.srt
       have H6 := cutM hp5 (sumO L) (fun q hq => by have := slid_end q hq; omega) htl (by have := Srt.sum_used hs (fun o ho => h.srt.2 o (hLm o ho)) (Nat.zero_le _); omega))
    | (go_at_call 38; refine H6.mono ?_; clear H6; rintro e w6 ⟨rfl, vw6, vb6, hp6, hS6⟩))
  have hcl6 := (hcl.step hp4 hS5).step hp5 hS6
  have hcr6 := hp5.row hS6 (hp4.row hS5 hcr (by decide)) (by decide)
  have hmv6 := (hmv4.step hp4 hS5).step hp5 hS6
  have hS06 := (Step.belowL hB04 hS5 hvw).trans hS6
  have hcl0 := hcl6.length
  have hwl := wrs_len M (dst 0 L) L
  have hsu := Srt.sum_used hs (fun o ho => h.srt.2 o (hLm o ho)) (Nat.zero_le _)
  have hcb : cs.length ≤ 1048576 := by omega
  have hpz : Hp n₀ bh b vw6 vb6 w6 lim (sumO L) (putsW (slid 0 L) []) := hp6
  clear hp6 hp5 hp4 hp3 hp2 hcl hcr hmv hmv4 hS5 hS6 hrow hrow3 hrow4 hB1 hB2 hB3 hB4 hB02 hB03 htl
  go_loopw [41] (fun k wr => ∃ (done left : List Wr) (vw' vb' : Value), wrs M (dst 0 L) L = done ++ left ∧ k = .int .i64 done.length ∧ Hp n₀ bh b vw' vb' wr lim (sumO L) (putsW (slid 0 L) done) ∧ Step b vw vb w vw' vb' wr ∧ Clos bh wr cs (wrs M (dst 0 L) L) ∧ wr.ownsRow (w3.heap.size + 3) 1 1 (.slice pc cs.length cc) cs.length cs ∧ IsMv wr w2.heap.size L.length (dst 0 L)) (fun k _ => cs.length - (intOf k).toNat)
  case atStart => exact ⟨[], _, vw6, vb6, rfl, rfl, hpz, hS06, hcl6, hcr6, hmv6⟩
  case round =>
    obtain ⟨done, left, vw', vb', hD, rfl, hpr, hS, hcl, hcr, hmv⟩ := hrel
    cases left with
    | nil =>
      have hD' : wrs M (dst 0 L) L = done := by simpa using hD
      have hq : ¬ ((done.length : Int) < (cs.length : Int)) := by rw [hcl0, hD']; omega
      rw [← hD', puts_fin hs] at hpr
      have H7 := roots_in hmv c (hst _ _ _ hS) hp hlen hk8 (fun v hvm hk => by
        obtain ⟨_, _, o, ho, e, _⟩ := (hmay v hvm).2 hk.1
        have h1 := h.srt.2 o ho
        have h2 := dst_le (p := v.n.toNat) hs
        unfold Ob.end_ at h1
        refine ⟨by omega, by omega, by omega⟩)
      clear hD hD' hcl0
      go_wp2_with (first
        | (go_at_call 39; refine H7.mono ?_; clear H7; rintro e w7 ⟨v7, rfl, hown7, hB7⟩))
      go_ret2
      refine ⟨v7, rfl, f, vw', vb', hre, ?_, ?_, hS.belowR hB7⟩
      · rw [hL]; exact row_mono2 hown7 hS.size
      · rw [hL]; exact hpr.below hB7
    | cons x left =>
      have hxm : x ∈ wrs M (dst 0 L) L := by rw [hD]; simp
      have hlR : done.length < cs.length := by rw [hcl0, hD]; simp
      obtain ⟨cv, hcv, Bh, Bf, Bk, Bt, t0, t, more, rfl, g1, g2, g3, g4, g5, g6, g7, g8⟩ := hcl.get (j := done.length) (x := x) (by rw [hD]; simp)
      obtain ⟨l, o, r, e1, e2, e3⟩ := write_atG hs hxm done
      rw [e1] at hpr
      have hsr := hpr.srt.1
      rw [← e2] at g2
      have H8 := clo_in hpr g1 g2 g3 g4 g6 g7 e3
      obtain ⟨g, rfl⟩ := row_where hcr (by omega)
      have d1 := row_cell hcr hcv hlR
      have e4 : (((done ++ [x]).length : Nat) : Int) = done.length + 1 := by simp
      have HD : Hid _ := And.intro hD (And.intro e1 (And.intro e2 g5))
      clear hD e1 e2 g5 hcl0 g1 g2 g3 g4
      go_wp2_with (first
        | (go_at_call 80; refine H8.mono ?_; clear H8; rintro e w7 ⟨rfl, hp7, hS7⟩))
      go_roundw
      case rel =>
        obtain ⟨k1, k2, k3, k4⟩ := HD.out
        refine ⟨done ++ [x], left, vw', vb', by rw [k1]; simp, by rw [e4], ?_, hS.trans hS7, hcl.step hpr hS7, hpr.row hS7 hcr (by decide), hmv.step hpr hS7⟩
        rw [putsW_snoc, k2, putW_at hsr x k3, k4]
        exact hp7
      case measure => simp [intOf]; omega

theorem collect_bad (h : Hp n₀ bh b vw vb w lim used M) (hl1 : 1 ≤ lim) {p : Option Addr} {vs : List Vl} (c : Nat) (hv : Vals w p vs) (hlen : vs.length ≤ 1000000) (hk8 : ∀ v ∈ vs, v.k < 256) (hmay : ¬ May M vs) :
    Calls Tryz.prog 12 #[.pointer (some ⟨bh, 0, none⟩), .slice p vs.length c] w fun e w' => e = .returned (.tuple #[.slice none 0 0, .int .i64 1]) ∧ Below w.heap.size w w' := by
  have H1 : Calls Tryz.prog 33 #[.pointer (some ⟨bh, 0, none⟩), .slice p vs.length c] w fun e w' => e = .returned (.int .i64 1) ∧ Below w.heap.size w w' := by
    refine (check_in h hl1 c hv hlen hk8).mono ?_
    rintro e w' ⟨⟨hn, _⟩ | ⟨_, he⟩, hB⟩
    · exact (hmay hn).elim
    · exact ⟨he, hB⟩
  go_enter Tryz.func12, Tryz.ntmps12
  go_wp2_with (first
    | (go_at_call 33; refine H1.mono ?_; clear H1; rintro e w1 ⟨rfl, hB1⟩))
  go_ret2
  exact ⟨rfl, hB1⟩


end Go.Proofs.YtkombdkhodjckaaGreat

namespace Go.Proofs.YtkombdkhodjckaaGreat
set_option linter.unusedVariables false
set_option linter.unusedSimpArgs false
open Go.RowKit

variable {w : World}

set_option maxRecDepth 20000 in
set_option maxHeartbeats 1000000 in
theorem same_vals {n c1 c2 : Nat} {p1 p2 : Option Addr} {vs : List Vl} (hL : n = vs.length) (hn : n ≤ 1000000) (h1 : Vals w p1 vs) (h2 : Vals w p2 vs) :
    Calls Tryz.prog 11 #[.slice p1 n c1, .slice p2 n c2] w fun e w' => e = .returned (.bool true) ∧ Below w.heap.size w w' := by
  have HL : Hid _ := hL
  clear hL
  go_enter Tryz.func11, Tryz.ntmps11
  go_wp2
  go_loopw [5] (fun k wr => ∃ j : Nat, k = .int .i64 j ∧ j ≤ n ∧ Below w.heap.size w wr) (fun k _ => n - (intOf k).toNat)
  case atStart => exact ⟨0, rfl, by omega, Below.refl _ _⟩
  case round =>
    obtain ⟨j, rfl, hj, hB⟩ := hrel
    by_cases hjn : j < n
    · obtain ⟨v, hvj⟩ : ∃ v, vs[j]? = some v := ⟨vs[j]'(by rw [← HL.out]; exact hjn), by simp⟩
      obtain ⟨b1, o1, rfl, c0, c1⟩ := (h1.below hB) j v hvj
      obtain ⟨b2, o2, rfl, d0, d1⟩ := (h2.below hB) j v hvj
      have hjn' : (j : Int) < (n : Int) := by omega
      clear hvj h1 h2
      go_wp2
      go_quiet (fail)
      go_wp2
      go_roundw
      case rel => exact ⟨j + 1, by simp, by omega, below_drewN' hB _⟩
      case measure => simp [intOf]; omega
    · have hq : ¬ ((j : Int) < (n : Int)) := by omega
      clear h1 h2
      go_wp2
      go_ret
      exact ⟨rfl, hB⟩

/-- Values in a block. -/
theorem vals_block {B : Nat} {t : TypeId} {fr : Nat × Nat} {vs : List Vl} (h : w.heap[B]? = some (.cells (vcells vs).toArray t fr)) : Vals w (some ⟨B, 0, none⟩) vs := by
  intro j v hj
  obtain ⟨h1, h2⟩ := vcells_get vs j v hj
  refine ⟨B, 0, rfl, ?_, ?_⟩
  · simp only [World.cell?, h]; simpa using h1
  · simp only [World.cell?, h]; simpa using h2

/-- Places in a block. -/
theorem row_block {B e : Nat} {xs : List Value} (h : w.heap[B]? = some (.cells xs.toArray e (0, 0))) (hl : xs.length ≤ 1048576) : w.ownsRow 0 e 1 (.slice (some ⟨B, 0, none⟩) xs.length xs.length) xs.length xs :=
  ⟨by simp, .inr ⟨B, xs.length, xs.toArray, rfl, Nat.zero_le _, h, Nat.le_refl _, by unfold maxLen; omega, by simp, by simp⟩⟩

def exM : List Ob := [⟨0, 3, [0, 0]⟩, ⟨3, 8, [0, 0, 7, 11]⟩, ⟨8, 4, [2, 4]⟩, ⟨11, 7, [4, 8]⟩, ⟨14, 3, [0]⟩]

end Go.Proofs.YtkombdkhodjckaaGreat
