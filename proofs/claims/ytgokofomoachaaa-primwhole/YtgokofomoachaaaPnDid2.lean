/- prim: did of any deed; refused. -/
import Derived.Test.YtgokofomoachaaaPnDid
namespace Go.Proofs.Ytgokofomoachaaa
set_option linter.unusedVariables false
set_option linter.unusedSimpArgs false
open Go.RowKit

variable {w : World}

/-- A deed, and what it comes to when it is done. -/
def DoneR (S : List Om) (d : Dd) (D : Dv) : Prop :=
  (d.o.k = 0 ∧ d.of_ = 0 ∧ D = ⟨S, d.v, d.t, d.n⟩) ∨
  (d.o.k ≠ 0 ∧ d.of_ = 0 ∧ d.o.l.length ≤ 1000000 ∧ d.o.s.size ≤ 1048576 ∧ D = ⟨S ++ [d.o], ⟨d.o.k, (S.length : Int) + 1⟩, d.t, d.n⟩) ∨
  (d.o.k = 0 ∧ ∃ (i : Nat) (o : Om) (j : Nat) (u : Vl), S[i]? = some o ∧ j < o.l.length ∧ d.of_ = (i : Int) + 1 ∧ d.at_ = (j : Int) ∧ d.l2 = [u] ∧ D = ⟨S.set i { o with l := o.l.set j u, room := d.r2 }, d.v, d.t, d.n⟩) ∨
  (d.o.k = 0 ∧ ∃ (i : Nat) (o : Om), S[i]? = some o ∧ d.of_ = (i : Int) + 1 ∧ d.at_ = (o.l.length : Int) ∧ 0 < d.l2.length ∧ d.l2.length ≤ 2 ∧ D = ⟨S.set i { o with l := o.l ++ d.l2, room := d.r2 }, d.v, d.t, d.n⟩)

theorem DoneR.old {S : List Om} {d : Dd} (hk : d.o.k = 0) (hof : d.of_ = 0) : DoneR S d ⟨S, d.v, d.t, d.n⟩ := .inl ⟨hk, hof, rfl⟩

theorem DoneR.new {S : List Om} {d : Dd} (hk : d.o.k ≠ 0) (hof : d.of_ = 0) (hl : d.o.l.length ≤ 1000000) (hs : d.o.s.size ≤ 1048576) : DoneR S d ⟨S ++ [d.o], ⟨d.o.k, (S.length : Int) + 1⟩, d.t, d.n⟩ := .inr (.inl ⟨hk, hof, hl, hs, rfl⟩)

theorem DoneR.set {S : List Om} {d : Dd} (hk : d.o.k = 0) {i : Nat} {o : Om} {j : Nat} {u : Vl} (ho : S[i]? = some o) (hj : j < o.l.length) (hof : d.of_ = (i : Int) + 1) (hat : d.at_ = (j : Int)) (hl : d.l2 = [u]) : DoneR S d ⟨S.set i { o with l := o.l.set j u, room := d.r2 }, d.v, d.t, d.n⟩ := .inr (.inr (.inl ⟨hk, i, o, j, u, ho, hj, hof, hat, hl, rfl⟩))

theorem DoneR.add {S : List Om} {d : Dd} (hk : d.o.k = 0) {i : Nat} {o : Om} (ho : S[i]? = some o) (hof : d.of_ = (i : Int) + 1) (hat : d.at_ = (o.l.length : Int)) (h0 : 0 < d.l2.length) (h2 : d.l2.length ≤ 2) : DoneR S d ⟨S.set i { o with l := o.l ++ d.l2, room := d.r2 }, d.v, d.t, d.n⟩ := .inr (.inr (.inr ⟨hk, i, o, ho, hof, hat, h0, h2, rfl⟩))

theorem at_slice {base : Nat} {v : Value} {ts : List Po} {S : List Om} (h : OwnSt base v ts w) (hm : ts.map Po.o = S) {i : Nat} {o : Om} (hi : S[i]? = some o) : ∃ x g n c, ts[i]? = some x ∧ x.o = o ∧ v = .slice (some ⟨g, 0, none⟩) n c := by
  obtain ⟨x, g, n, c, h1, h2, h3, -⟩ := h.at_ hm hi
  exact ⟨x, g, n, c, h1, h2, h3⟩

theorem vals_ne {q : Option Addr} {l : List Vl} (h : Vals w q l) (h0 : 0 < l.length) : ∃ ad, q = some ad := by
  obtain ⟨u, hu⟩ : ∃ u, l[0]? = some u := ⟨l[0], by simp⟩
  obtain ⟨b, off, e, -⟩ := h 0 u hu
  exact ⟨_, e⟩

set_option maxHeartbeats 1000000 in
theorem did_in {p : Option Addr} {S : List Om} (h : Ask w p S) (c : Nat) (d : Dd) {D : Dv} (hD : DoneR S d D) {q : Option Addr} {cq : Nat} {q2 : Option Addr} (hv : Vals w q d.o.l) (hv2 : Vals w q2 d.l2) :
    Calls Try.prog 9 #[.slice p S.length c, .agg #[.string d.t, .int .i64 d.n, .int .u8 d.v.k, .int .i64 d.v.n, .int .u8 d.o.k, .string d.o.s, .slice q d.o.l.length cq, .int .i64 d.o.room, .int .i64 d.o.fn, .int .i64 d.of_, .int .i64 d.at_, .slice q2 d.l2.length d.l2.length, .int .i64 d.r2]] w (DidR w D.S D.v D.t D.n) := by
  rcases hD with ⟨hk, hof, rfl⟩ | ⟨hk, hof, hl, hs, rfl⟩ | ⟨hk, i, o, j, u, ho, hj, hof, hat, hl, rfl⟩ | ⟨hk, i, o, ho, hof, hat, h0, h2, rfl⟩
  · have := did_old h c d (q := q) (cq := cq) (q2 := q2) (S' := S) rfl (fun W base p1 c1 ts hB hbs hm ho => by
      rw [hof]
      refine Calls.mono (on_none (.slice p1 S.length c1) d.at_ d.r2 q2 d.l2.length d.l2.length W) ?_
      rintro e w' ⟨rfl, hB'⟩
      exact ⟨rfl, ⟨ts, hm, ho.below hB'⟩, hB'.mono hbs, fun k hk _ _ => hB'.block k hk⟩)
    rw [hk]
    exact this
  · exact did_new h c d hv hl hs hk hof
  · have hll := h.vals o (List.mem_of_getElem? ho)
    have := did_old h c d (q := q) (cq := cq) (q2 := q2) (S' := S.set i { o with l := o.l.set j u, room := d.r2 }) (by simp) (fun W base p1 c1 ts hB hbs hm hO => by
      obtain ⟨x, g, n, c', hx, hxo, hvv⟩ := at_slice hO hm ho
      cases hvv
      subst hxo
      obtain ⟨ql, cl, hlv, -, hq0, -⟩ := own_slice (hO.lst x (List.mem_of_getElem? hx))
      obtain ⟨gl, rfl⟩ := hq0 (by omega)
      rw [hl] at hv2
      obtain ⟨ad, rfl⟩ := vals_ne hv2 (by simp)
      rw [hof, hat, hl]
      refine Calls.mono (on_set hO h.len hx hlv hll hj u (hv2.below hB) d.r2) ?_
      rintro e w' ⟨rfl, hO', hB', hfr⟩
      exact ⟨rfl, ⟨_, by rw [map_set_o hm], hO'⟩, hB', fun k hk h1 h2 => hfr k hk (fun e => h1 (by rw [e]; rfl)) (h2 x (List.mem_of_getElem? hx))⟩)
    rw [hk]
    exact this
  · have hll := h.vals o (List.mem_of_getElem? ho)
    have := did_old h c d (q := q) (cq := cq) (q2 := q2) (S' := S.set i { o with l := o.l ++ d.l2, room := d.r2 }) (by simp) (fun W base p1 c1 ts hB hbs hm hO => by
      obtain ⟨x, g, n, c', hx, hxo, hvv⟩ := at_slice hO hm ho
      cases hvv
      subst hxo
      obtain ⟨ad, rfl⟩ := vals_ne hv2 h0
      rw [hof, hat]
      refine Calls.mono (on_add hO h.len hx (by omega) h0 h2 (hv2.below hB) d.r2) ?_
      rintro e w' ⟨rfl, ⟨lv, hO'⟩, hB', hfr⟩
      exact ⟨rfl, ⟨_, by rw [map_set_o hm], hO'⟩, hB', fun k hk h1 h2 => hfr k hk (fun e => h1 (by rw [e]; rfl)) (h2 x (List.mem_of_getElem? hx))⟩)
    rw [hk]
    exact this

/-- What a function that works an operation out comes to, wherever its lists lie. -/
def DeedV (w : World) (d : Dd) (e : Ending) (w' : World) : Prop :=
  ∃ q c q2, e = .returned (.agg #[.string d.t, .int .i64 d.n, .int .u8 d.v.k, .int .i64 d.v.n, .int .u8 d.o.k, .string d.o.s, .slice q d.o.l.length c, .int .i64 d.o.room, .int .i64 d.o.fn, .int .i64 d.of_, .int .i64 d.at_, .slice q2 d.l2.length d.l2.length, .int .i64 d.r2]) ∧ Vals w' q d.o.l ∧ Vals w' q2 d.l2 ∧ Below w.heap.size w w'

theorem DeedR.V {d : Dd} {e : Ending} {w' : World} (h : DeedR w d e w') : DeedV w d e w' := by
  obtain ⟨q, c, q2, he, h1, h2, hB⟩ := h
  exact ⟨q, c, q2, he, h1.1.1, h2.1, hB⟩

/-- A value may not be. -/
def refD (S : List Om) : Dv := ⟨S, ⟨0, 0⟩, tKind, 0⟩

set_option maxRecDepth 20000 in
set_option maxHeartbeats 1000000 in
theorem refused_in {p : Option Addr} {S : List Om} (h : Ask w p S) (c : Nat) {D : Dv} (hd : D = refD S) : Calls Try.prog 8 #[.slice p S.length c] w (DidR w D.S D.v D.t D.n) := by
  have hB := below1 w (.cells #[.slice none 0 0, .int .u8 0, .int .i64 0, .string ⟨#[]⟩, .int .i64 0] 28)
  have hb := heap_alloc_new w (.cells #[.slice none 0 0, .int .u8 0, .int .i64 0, .string ⟨#[]⟩, .int .i64 0] 28)
  obtain ⟨d, hdd⟩ : ∃ d, d = thrD tKind := ⟨_, rfl⟩
  have HT := throwsD hdd (w.alloc (.cells #[.slice none 0 0, .int .u8 0, .int .i64 0, .string ⟨#[]⟩, .int .i64 0] 28))
  have HDN : DoneR S d D := by subst hdd; rw [hd]; exact DoneR.old rfl rfl
  clear hd hdd
  unfold tKind at HT
  go_enter Try.func8, Try.ntmps8
  go_wp2_with (first
    | (go_at_call 16; (with_reducible refine HT.mono ?_); clear HT; rintro e w1 ⟨q, c_, q2, rfl, h1, h2, hB1⟩; refine halt_here ?_))
  unfold Halted
  have hB2 := hB.trans (hB1.mono hB.size)
  have HE := did_in (h.below hB2) c d HDN (cq := c_) h1.1.1 h2.1
  have hb' := (hB1.block _ (Array.getElem?_eq_some_iff.1 hb).1).trans hb
  go_wp2_with (first
    | (go_at_call 9; (with_reducible refine HE.mono ?_); clear HE; rintro e w2 ⟨p1, c1, rfl, hts, hB3⟩; have hr := (hB3.block _ (Array.getElem?_eq_some_iff.1 hb').1).trans hb'; obtain ⟨⟨z0, z1, z2, z3, z4⟩, y0, y1, y2, y3, y4⟩ := cell_row5 hr))
  refine bodyPost_ret (results_cell_row (by rfl) _ _ w.heap.size 28 _ _ _ (by rfl) (set5_row hr) Try.underlying28 (by rfl) infoDid) (by rfl) ?_
  exact did_fin hr (Nat.le_refl _) (hts_mono hts hB2.size) (hB2.trans (hB3.mono hB2.size)) D.v D.t D.n


end Go.Proofs.Ytgokofomoachaaa
