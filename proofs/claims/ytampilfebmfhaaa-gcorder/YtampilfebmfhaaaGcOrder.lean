/- The walk of GcOrder. -/
import Derived.Test.YtampilfebmfhaaaGcKeeps
import Derived.Test.YtampilfebmfhaaaGcMade2
import Derived.Deep.RegionLaw
import Derived.Deep.AppendLies
namespace Go.Proofs.Ytampilfebmfhaaa
set_option linter.unusedVariables false
set_option linter.unusedSimpArgs false
open Go.RowKit

/-- Values turned round, each twice. -/
def dup (l : List Vl) : List Vl := l.reverse.flatMap (fun v => [v, v])

theorem dup_cons (v : Vl) (l : List Vl) : dup (v :: l) = dup l ++ [v, v] := by simp [dup]

theorem dup_len (l : List Vl) : (dup l).length = 2 * l.length := by
  induction l with
  | nil => rfl
  | cons v r ih => rw [dup_cons, List.length_append, ih]; simp; omega

theorem dup_mem {l : List Vl} {v : Vl} : v ∈ dup l ↔ v ∈ l := by simp [dup]

theorem dup_map (f : Vl → Vl) (l : List Vl) : (dup l).map f = dup (l.map f) := by
  induction l with
  | nil => rfl
  | cons v r ih => rw [List.map_cons, dup_cons, dup_cons, List.map_append, ih]; rfl

theorem dup_get : ∀ {l : List Vl} {j m : Nat} {v : Vl}, l[j]? = some v → m + 1 + j = l.length → (dup l)[2 * m]? = some v ∧ (dup l)[2 * m + 1]? = some v
  | [], j, m, v, h, _ => by simp at h
  | u :: r, 0, m, v, h, e => by
    simp at h e
    subst h
    have hl := dup_len r
    rw [dup_cons]
    constructor
    · rw [List.getElem?_append_right (by omega), show 2 * m - (dup r).length = 0 by omega]; rfl
    · rw [List.getElem?_append_right (by omega), show 2 * m + 1 - (dup r).length = 1 by omega]; rfl
  | u :: r, j + 1, m, v, h, e => by
    simp at h e
    obtain ⟨h1, h2⟩ := dup_get (l := r) (j := j) (m := m) h (by omega)
    rw [dup_cons]
    exact ⟨by rw [List.getElem?_append_left (List.getElem?_eq_some_iff.1 h1).1]; exact h1, by rw [List.getElem?_append_left (List.getElem?_eq_some_iff.1 h2).1]; exact h2⟩

theorem may_dup {M : List Ob} {vs : List Vl} : May M (dup vs) ↔ May M vs := by
  unfold May
  simp only [dup_mem]

theorem rch_dup {M : List Ob} {vs : List Vl} {p : Nat} : Rch M (dup vs) p ↔ Rch M vs p :=
  ⟨Rch.congr (fun v h => dup_mem.1 h), Rch.congr (fun v h => dup_mem.2 h)⟩

/-- What Collect comes to. -/
def Out (M : List Ob) (used : Nat) (vs : List Vl) (er : Nat) (X : List Vl) (F : List Ob) (u : Nat) : Prop :=
  (¬ May M vs ∧ er = 1 ∧ X = [] ∧ F = M ∧ u = used) ∨ (∃ f, Reached M vs f ∧ er = 0 ∧ X = vs.map (newRoot (dst 0 (M.filter f))) ∧ F = fin M (M.filter f) ∧ u = sumO (M.filter f))

theorem Out.dup {M : List Ob} {used : Nat} {vs : List Vl} {er er' : Nat} {X X' : List Vl} {F F' : List Ob} {u u' : Nat} (h : Out M used vs er X F u) (h' : Out M used (dup vs) er' X' F' u') : er' = er ∧ X' = Ytampilfebmfhaaa.dup X ∧ F' = F ∧ u' = u := by
  rcases h with ⟨hm, rfl, rfl, rfl, rfl⟩ | ⟨f, hr, rfl, rfl, rfl, rfl⟩
  · rcases h' with ⟨_, rfl, rfl, rfl, rfl⟩ | ⟨f', hr', _⟩
    · exact ⟨rfl, rfl, rfl, rfl⟩
    · exact (hm (may_dup.1 hr'.may)).elim
  · rcases h' with ⟨hm, _⟩ | ⟨f', hr', rfl, rfl, rfl, rfl⟩
    · exact (hm (may_dup.2 hr.may)).elim
    · have e : M.filter f' = M.filter f := filter_alike (vs := vs) (fun o ho => (hr'.iff o ho).trans rch_dup) hr.iff
      rw [e, dup_map]
      exact ⟨rfl, rfl, rfl, rfl⟩

variable {n₀ bh b lim used : Nat} {vw vb : Value} {w : World} {M : List Ob}

theorem collect_any (h : Hp n₀ bh b vw vb w lim used M) (hl1 : 1 ≤ lim) {p : Option Addr} {vs : List Vl} (c : Nat) (hv : Vals w p vs) (hp : p = none → vs = [] ∧ c = 0) (hlen : vs.length ≤ 1000000) (hk8 : ∀ v ∈ vs, v.k < 256)
    (hst : ∀ vw' vb' w', Step b vw vb w vw' vb' w' → Vals w' p vs) :
    Calls Try.prog 9 #[.pointer (some ⟨bh, 0, none⟩), .slice p vs.length c] w fun e w' => ∃ (er : Nat) (X : List Vl) (px : Option Addr) (cx : Nat), e = .returned (.tuple #[.slice px X.length cx, .int .i64 er]) ∧ ∃ F u vw' vb', Out M used vs er X F u ∧ OwnVals w.heap.size (.slice px X.length cx) X w' ∧ Hp n₀ bh b vw' vb' w' lim u F ∧ Step b vw vb w vw' vb' w' := by
  by_cases hm : May M vs
  · refine (collect_ok h hl1 c hv hp hlen hk8 hst hm).mono ?_
    rintro e w' ⟨v, he, f, vw', vb', hre, hown, hhp, hS⟩
    obtain ⟨px, cx, rfl⟩ := hown.form
    exact ⟨0, _, px, cx, he, _, _, vw', vb', .inr ⟨f, hre, rfl, rfl, rfl, rfl⟩, hown, hhp, hS⟩
  · refine (collect_bad h hl1 c hv hlen hk8 hm).mono ?_
    rintro e w' ⟨he, hB⟩
    exact ⟨1, [], none, 0, he, M, used, vw, vb, .inl ⟨hm, rfl, rfl, rfl, rfl⟩, World.ownsRow_nil _ _ _ _, h.below hB, Step.of_below hB⟩

set_option maxRecDepth 20000 in
set_option maxHeartbeats 1000000 in
theorem order_long (words : Int) (v : Value) (q : Option Addr) (n c : Nat) (w : World) (hl : 500 < n) :
    Calls Try.prog 4 #[.int .i64 words, v, .slice q n c] w fun e w' => e = .returned (.bool true) ∧ Below w.heap.size w w' := by
  have hl' : (500 : Int) < (n : Int) := by omega
  have a := alive_in w
  go_enter Try.func4, Try.ntmps4
  go_wp2_with (first
    | (go_at_call 5; refine a.mono ?_; clear a; rintro e w1 ⟨rfl, hB1⟩; have a2 := alive_in w1)
    | (go_at_call 5; refine a2.mono ?_; clear a2; rintro e w2 ⟨rfl, hB2⟩))
  go_ret
  exact ⟨rfl, hB1.trans (hB2.mono hB1.size)⟩

/-- Two heaps of the same objects, the first one made ahead of the second. -/
structure Twins (n1 n2 ba a bb b' lim used : Nat) (va vA vb' vB : Value) (w : World) (M : List Ob) : Prop where
  one : Hp n1 ba a va vA w lim used M
  two : Hp n2 bb b' vb' vB w lim used M
  off : ∀ k, (k = ba ∨ k = a ∨ va.ownBlock = some k ∨ vA.ownBlock = some k) → ¬ (k = bb ∨ k = b' ∨ vb'.ownBlock = some k ∨ vB.ownBlock = some k)

set_option maxRecDepth 20000 in
set_option maxHeartbeats 2000000 in
theorem order_ok (words : Int) (p : Option Addr) (L : List OpV) (cap : Nat) (q : Option Addr) (vs : List Vl) (cq : Nat) (w : World) (hl : L.length ≤ maxLen) (ht : OpsAt w p L) (hv : Vals w q vs) (hvl : vs.length ≤ 500) (hk8 : ∀ v ∈ vs, v.k < 256) (hq0 : q = none → vs = [] ∧ cq = 0) :
    Calls Try.prog 4 #[.int .i64 words, .slice p L.length cap, .slice q vs.length cq] w fun e w' => e = .returned (.bool true) ∧ Below w.heap.size w w' := by
  have hvl' : ¬ ((500 : Int) < (vs.length : Int)) := by omega
  have a := alive_in w
  obtain ⟨i0, hi, hz0, hz1, hz2⟩ := info_parts infoV
  go_enter Try.func4, Try.ntmps4
  go_wp2_with (first
    | (go_at_call 5; refine a.mono ?_; clear a; rintro e w1 ⟨rfl, hB1⟩
       have a2 := made_inD words p L cap w1 hl (ht.below hB1))
    | (go_at_call 6; refine a2.mono ?_; clear a2; rintro e w2 ⟨ph, pr, rfl, hM⟩
       have hB2 : Below w.heap.size w w2 := hB1.trans (hM.1.mono hB1.size)
       have a3 := made_inD words p L cap w2 hl (ht.below hB2))
    | (go_at_call 6; refine a3.mono ?_; clear a3; rintro e w3 ⟨ph3, pr3, rfl, hM3⟩))
  have hB3 : Below w.heap.size w w3 := hB2.trans (hM3.1.mono hB2.size)
  have hM23 := hM.below hM3.1
  go_loopw [11, 12] (fun t k wr => ∃ (rest done : List Vl), vs = rest ++ done ∧ k = .int .i64 ((rest.length : Int) - 1) ∧ wr.ownsRow w3.heap.size 45 2 t (2 * done.length) (vcells (dup done)) ∧ Below w3.heap.size w3 wr) (fun _ k _ => (intOf k + 1).toNat)
  case atStart => exact ⟨vs, [], by simp, rfl, World.ownsRow_nil _ _ _ _, Below.refl _ _⟩
  case round =>
    obtain ⟨rest, done, hR, rfl, hrow, hB⟩ := hrel
    have hsz := hB.size
    rcases eq_nil_or_snoc rest with rfl | ⟨rest', v, rfl⟩
    · have hR' : done = vs := by simpa using hR.symm
      subst hR'
      have hown : OwnVals w3.heap.size u11 (dup done) wr := by unfold OwnVals; rw [dup_len]; exact hrow
      obtain ⟨tq, ct, ht⟩ := hown.form
      subst ht
      have hdl := dup_len done
      have hvt := hown.vals
      have hB3r : Below w.heap.size w wr := hB3.trans (hB.mono hB3.size)
      have htn : tq = none → dup done = [] ∧ ct = 0 := fun e => by
        rcases hown.2 with ⟨h0, h0'⟩ | ⟨g, cap, cur, hg, _⟩
        · injection h0 with _ _ hc; exact ⟨List.eq_nil_of_length_eq_zero h0', hc⟩
        · injection hg with hg _ _; rw [e] at hg; cases hg
      have hkd : ∀ v ∈ dup done, v.k < 256 := fun v hvm => hk8 v (dup_mem.1 hvm)
      have HD : Hid _ := hdl
      clear hR hdl
      rcases hM.2 with ⟨rfl, rfl, hbad⟩ | ⟨bha, ba, bra, lima, sa, rfl, rfl, hla, hl1, hBoa, hsa⟩
      · rcases hM3.2 with ⟨rfl, rfl, _⟩ | ⟨bhb, bb, brb, limb, sb, rfl, rfl, hlb, hl1b, hBob, hsb⟩
        · have a4 := fun v => gcollect_nil v wr
          have a5 := gused (w := wr) (v := .pointer none) (.inl rfl)
          have a6 := gplaces (w := wr) (v := .pointer none) (.inl rfl)
          have a7 := same_nil wr
          go_wp2_with (first
            | (go_at_call 9; refine (a4 _).mono ?_; rintro e w' ⟨rfl, hw'⟩; obtain rfl := hw'.symm)
            | (go_at_call 12; refine a5.mono ?_; rintro e w' ⟨rfl, hw'⟩; obtain rfl := hw'.symm)
            | (go_at_call 7; refine a6.mono ?_; rintro e w' ⟨rfl, hw'⟩; obtain rfl := hw'.symm)
            | (go_at_call 10; refine a7.mono ?_; clear a7; rintro e w7 ⟨rfl, hB7⟩; have a8 := gplaces (w := w7) (v := .pointer none) (.inl rfl)))
          refine wp_loop_rounds 1 ?_
          rw [rounds_succ]
          go_wp2_with (first
            | (go_at_call 7; refine a8.mono ?_; rintro e w' ⟨rfl, hw'⟩; obtain rfl := hw'.symm))
          refine wp_loop_rounds 1 ?_
          rw [rounds_succ]
          go_wp2
          go_ret
          exact ⟨rfl, hB3r.trans (hB7.mono hB3r.size)⟩
        · have := hBob.size
          omega
      · rcases hM3.2 with ⟨rfl, rfl, hbad⟩ | ⟨bhb, bb, brb, limb, sb, rfl, rfl, hlb, hl1b, hBob, hsb⟩
        · have := hBoa.size
          omega
        · obtain rfl : limb = lima := by omega
          have hpa := (hBoa.below hM3.1).hp.below hB
          have hpb := hBob.hp.below hB
          have hha : sa.used = sb.used ∧ sa.R.map Prod.fst = sb.R.map Prod.fst := by
            have := hsa.trans hsb.symm
            unfold BSt.has at this
            exact ⟨congrArg Prod.fst this, congrArg Prod.snd this⟩
          rw [hha.1, hha.2] at hpa
          have hal : ∀ k, (k = bha ∨ k = ba ∨ sa.vw.ownBlock = some k ∨ sa.vb.ownBlock = some k) → k < w2.heap.size := fun k hk => (hBoa.hp.blocks k hk).2.1
          have hbl : ∀ k, (k = bhb ∨ k = bb ∨ sb.vw.ownBlock = some k ∨ sb.vb.ownBlock = some k) → w2.heap.size ≤ k ∧ k < w3.heap.size := fun k hk => ⟨(hBob.hp.blocks k hk).1, (hBob.hp.blocks k hk).2.1⟩
          obtain ⟨M, hMe⟩ : ∃ M, sb.R.map Prod.fst = M := ⟨_, rfl⟩
          obtain ⟨used, hus⟩ : ∃ u, sb.used = u := ⟨_, rfl⟩
          obtain ⟨vwa, e1⟩ : ∃ x, sa.vw = x := ⟨_, rfl⟩
          obtain ⟨vba, e2⟩ : ∃ x, sa.vb = x := ⟨_, rfl⟩
          obtain ⟨vwb, e3⟩ : ∃ x, sb.vw = x := ⟨_, rfl⟩
          obtain ⟨vbb, e4⟩ : ∃ x, sb.vb = x := ⟨_, rfl⟩
          rw [hMe, hus, e1, e2] at hpa
          rw [hMe, hus, e3, e4] at hpb
          simp only [e1, e2] at hal
          simp only [e3, e4] at hbl
          clear hMe hus e1 e2 e3 e4 hha hsa hsb hBoa hBob hM hM3 hM23 hla hlb
          have hsz3 := hB.size
          have a4 := collect_any hpa hl1 cq (hv.below hB3r) hq0 (by omega) hk8 (fun vw' vb' w' hS => hv.below (hB3r.trans ((hpa.stepBelow hS).mono hB1.size)))
          have nxt : ∀ vw4 vb4 w4, Step ba vwa vba wr vw4 vb4 w4 → Hp w2.heap.size bhb bb vwb vbb w4 limb used M ∧ OwnVals w3.heap.size (.slice tq (dup done).length ct) (dup done) w4 := fun vw4 vb4 w4 hS4 =>
            ⟨hpb.kept (fun k hk => hS4.block k (by have := hbl k hk; omega) (fun e => by have := hbl k hk; have := hal ba (.inr (.inl rfl)); omega) (fun e => by have := hbl k hk; have := hal k (.inr (.inr (.inl e.symm))); omega) (fun e => by have := hbl k hk; have := hal k (.inr (.inr (.inr e.symm))); omega)), hpa.row hS4 hown (by decide)⟩
          have a5 := fun vw4 vb4 w4 hS4 => collect_any (nxt vw4 vb4 w4 hS4).1 hl1 ct (nxt vw4 vb4 w4 hS4).2.vals htn (by rw [HD.out]; omega) hkd (fun vw' vb' w' hS => OwnVals.vals (show OwnVals w3.heap.size _ _ _ from (nxt vw4 vb4 w4 hS4).1.row hS (nxt vw4 vb4 w4 hS4).2 (by decide)))
          go_wp2_with (first
            | (go_at_call 9; refine a4.mono ?_; clear a4; rintro e w4 ⟨er0, X, px, cx, rfl, F0, u0, vw4, vb4, hout, hx4, hp4, hS4⟩)
            | (go_at_call 9; refine (a5 _ _ _ hS4).mono ?_; clear a5; rintro e w5 ⟨er, Y, py, cy, rfl, F, u, vw5, vb5, hout5, hy5, hp5, hS5⟩; obtain ⟨rfl, rfl, rfl, rfl⟩ := hout.dup hout5))
          have hpa5 : Hp w1.heap.size bha ba vw4 vb4 w5 limb u F := hp4.kept (fun k hk => by
            have hk4 := hp4.blocks k hk
            have hlo : k < w2.heap.size ∨ wr.heap.size ≤ k := by
              rcases hk with e | e | e | e
              · exact .inl (hal k (.inl e))
              · exact .inl (hal k (.inr (.inl e)))
              · rcases hS4.fw k e with e | e
                · exact .inl (hal k (.inr (.inr (.inl e))))
                · exact .inr e
              · rcases hS4.fb k e with e | e
                · exact .inl (hal k (.inr (.inr (.inr e))))
                · exact .inr e
            refine hS5.block k hk4.2.1 (fun e => ?_) (fun e => ?_) (fun e => ?_)
            · have := hbl bb (.inr (.inl rfl)); omega
            · have := hbl k (.inr (.inr (.inl e.symm))); omega
            · have := hbl k (.inr (.inr (.inr e.symm))); omega)
          have hx5 : OwnVals wr.heap.size (.slice px X.length cx) X w5 := (nxt _ _ _ hS4).1.row hS5 hx4 (by decide)
          have hXl : X.length ≤ 500 := by
            rcases hout with ⟨_, _, rfl, _⟩ | ⟨f, _, _, rfl, _⟩
            · simp
            · simpa using hvl
          have hB5 : Below w.heap.size w w5 := (hB3r.trans ((hpa.stepBelow hS4).mono hB1.size)).trans (((nxt _ _ _ hS4).1.stepBelow hS5).mono hB2.size)
          have hFl := Srt.length_le hp5.srt.1 hp5.srt.2 (Nat.zero_le _)
          have hle5 := hp5.le
          have a6 := usedM hpa5
          have a7 := usedM hp5
          have a8 := placesM hpa5
          have a9 := fun w' (hB : Below w5.heap.size w5 w') => placesM (hp5.below hB)
          have a10 : ∀ w6 w7 p6 c6 p7 c7, w6.ownsRow w5.heap.size 2 1 (.slice p6 F.length c6) F.length (F.map (fun o => pv o.at_)) → Below w6.heap.size w6 w7 → w7.ownsRow w6.heap.size 2 1 (.slice p7 F.length c7) F.length (F.map (fun o => pv o.at_)) → Calls Try.prog 10 #[.slice p6 F.length c6, .slice p7 F.length c7] w7 fun e w' => e = .returned (.bool true) ∧ Below w7.heap.size w7 w' := fun w6 w7 p6 c6 p7 c7 h6 hB h7 =>
            same_places (L := F.map Ob.at_) (by simp) (by omega) (by rw [List.map_map]; exact row_kept h6 (fun k hk => hB.block k (h6.lt k hk).2)) (by rw [List.map_map]; exact h7)
          have hx5l : X.length = X.length := rfl
          have HO : Hid _ := And.intro hout hout5
          have hYl : Hid ((dup X).length = 2 * X.length) := dup_len X
          clear hout hout5 hx4 hp4 hpa hpb nxt hal hbl hown hrow hvt
          go_wp2_with (first
            | (go_at_call 12; refine a6.mono ?_; clear a6; rintro e w' ⟨rfl, hw'⟩; obtain rfl := hw'.symm)
            | (go_at_call 12; refine a7.mono ?_; clear a7; rintro e w' ⟨rfl, hw'⟩; obtain rfl := hw'.symm)
            | (go_at_call 7; refine a8.mono ?_; clear a8; rintro e w6 ⟨p6, c6, rfl, hrow6, hB6⟩)
            | (go_at_call 7; refine (a9 _ hB6).mono ?_; clear a9; rintro e w7 ⟨p7, c7, rfl, hrow7, hB7⟩)
            | (go_at_call 10; refine (a10 _ _ _ _ _ _ hrow6 hB7 hrow7).mono ?_; clear a10; rintro e w8 ⟨rfl, hB8⟩))
          have hB57 := hB6.trans (hB7.mono hB6.size)
          have hB58 := hB57.trans (hB8.mono hB57.size)
          have hx8 := hx5.below hB58
          have hy8 := hy5.below hB58
          have hpa8 := hpa5.below hB58
          have hpb8 := hp5.below hB58
          have hB08 : Below w.heap.size w w8 := hB5.trans (hB58.mono hB5.size)
          clear hrow6 hrow7 hpa5 hp5 hx5 hy5
          go_loopw [17] (fun k wr => ∃ j : Nat, k = .int .i64 j ∧ j ≤ X.length ∧ Below w8.heap.size w8 wr) (fun k _ => X.length - (intOf k).toNat)
          case atStart => exact ⟨0, rfl, Nat.zero_le _, Below.refl _ _⟩
          case round =>
            obtain ⟨j, rfl, hj, hBj⟩ := hrel
            by_cases hjn : j < X.length
            · obtain ⟨v, hvj⟩ : ∃ v, X[j]? = some v := ⟨X[j], by simp⟩
              obtain ⟨m, hm⟩ : ∃ m, m + 1 + j = X.length := ⟨X.length - 1 - j, by omega⟩
              obtain ⟨y1, y2⟩ := dup_get hvj hm
              obtain ⟨bx, ox, rfl, c0, c1⟩ := (hx8.below hBj).vals j v hvj
              obtain ⟨by_, oy, rfl, d0, d1⟩ := (hy8.below hBj).vals (2 * m) v y1
              obtain ⟨by2, oy2, ey, d2, d3⟩ := (hy8.below hBj).vals (2 * m + 1) v y2
              cases ey
              have hjn' : (j : Int) < (X.length : Int) := by omega
              have hYl' := hYl.out
              have em : (X.length : Int) - 1 - (j : Int) = (m : Nat) := by omega
              clear hvj y1 y2 hm
              go_wp2
              go_quiet (fail)
              go_wp2
              go_roundw
              case rel => exact ⟨j + 1, by simp, by omega, below_drewN' hBj _⟩
              case measure => simp [intOf]; omega
            · have hjn' : ¬ ((j : Int) < (X.length : Int)) := by omega
              have a12 := placesM (hpa8.below hBj)
              clear hx8 hy8 hYl
              go_wp2_with (first
                | (go_at_call 7; refine a12.mono ?_; clear a12; rintro e w9 ⟨p9, c9, rfl, hrow9, hB9⟩))
              have hB89 := hBj.trans (hB9.mono hBj.size)
              have hpa9 := hpa8.below hB89
              have hpb9 := hpb8.below hB89
              have hB09 : Below w.heap.size w w9 := hB08.trans (hB89.mono hB08.size)
              clear hpa8 hpb8
              go_loop [19] (fun k => ∃ (pre rest : List Ob), F = pre ++ rest ∧ k = .int .i64 pre.length) (fun k => F.length - (intOf k).toNat)
              case atStart => exact ⟨[], F, rfl, rfl⟩
              case round =>
                obtain ⟨pre, rest, hR, rfl⟩ := hrel
                cases rest with
                | nil =>
                  have hR' : F = pre := by simpa using hR
                  have hq : ¬ ((pre.length : Int) < (F.length : Int)) := by rw [hR']; omega
                  clear hR hR'
                  go_wp2
                  go_ret
                  exact ⟨rfl, hB09⟩
                | cons o rest =>
                  have hom : o ∈ F := by rw [hR]; simp
                  have hlR : pre.length < F.length := by rw [hR]; simp
                  have hpao := hpa9
                  have hpbo := hpb9
                  rw [hR] at hpao hpbo
                  have H3 := sizeM hpao
                  obtain ⟨g9, rfl⟩ := row_where hrow9 (by omega)
                  have d1 : w9.cell? ⟨g9, pre.length, none⟩ = some (.int .i64 o.at_) := row_cell hrow9 (by rw [hR]; simp [pv]) hlR
                  have hwo : o.ws.length ≤ 1048576 := by have := hpa9.srt.2 o hom; unfold Ob.end_ at this; omega
                  have e1 : (((pre ++ [o]).length : Nat) : Int) = pre.length + 1 := by simp
                  have HR : Hid _ := hR
                  clear hR
                  go_wp2_with (first
                    | (go_at_call 11; refine H3.mono ?_; clear H3; rintro e w' ⟨rfl, hw'⟩; obtain rfl := hw'.symm))
                  go_loop [22] (fun k => ∃ i : Nat, k = .int .i64 i ∧ i ≤ o.ws.length) (fun k => o.ws.length - (intOf k).toNat)
                  case atStart => exact ⟨0, rfl, Nat.zero_le _⟩
                  case round =>
                    obtain ⟨i, rfl, hi5⟩ := hrel
                    by_cases hin : i < o.ws.length
                    · obtain ⟨y, hy⟩ : ∃ y, o.ws[i]? = some y := ⟨o.ws[i], by simp⟩
                      have H4 := readM hpao i y hy
                      have H5 := readM hpbo i y hy
                      have hin' : (i : Int) < (o.ws.length : Int) := by omega
                      clear hy
                      go_wp2_with (first
                        | (go_at_call 14; refine H4.mono ?_; clear H4; rintro e w' ⟨rfl, hw'⟩; obtain rfl := hw'.symm)
                        | (go_at_call 14; refine H5.mono ?_; clear H5; rintro e w' ⟨rfl, hw'⟩; obtain rfl := hw'.symm))
                      go_round
                      case rel => exact ⟨i + 1, by simp, by omega⟩
                      case measure => simp [intOf]; omega
                    · have hin' : ¬ ((i : Int) < (o.ws.length : Int)) := by omega
                      go_wp2
                      go_round
                      case rel => exact ⟨pre ++ [o], rest, by have := HR.out; simpa using this, by rw [e1]⟩
                      case measure => simp [intOf]; omega
    · have hlR : rest'.length < vs.length := by rw [hR]; simp
      have hvm : v ∈ vs := by rw [hR]; simp
      have hdl : done.length ≤ 500 := by have := congrArg List.length hR; simp at this; omega
      obtain ⟨b0, off, rfl, c0, c1⟩ := (hv.below (hB3.trans (hB.mono hB3.size))) rest'.length v (by rw [hR]; simp)
      have e1 : (((rest' ++ [v]).length : Nat) : Int) - 1 = rest'.length := by simp
      have HR : Hid _ := hR
      rw [e1]
      have hg0 : (0 : Int) ≤ (rest'.length : Int) := by omega
      clear hR
      have HN : ((wr.alloc (.cells #[.int .u8 v.k, .int .i64 v.n, .int .u8 v.k, .int .i64 v.n] 45)).drew).heap[wr.heap.size]? = some (.cells #[.int .u8 v.k, .int .i64 v.n, .int .u8 v.k, .int .i64 v.n] 45 (0, 0)) := heap_alloc_new wr _
      go_wp2
      go_region_law
        ((refine step_append_lies _ (by rfl) _ _ _ (by rfl) w3.heap.size 45 i0 _ 2 16 Try.underlying23 hi hz0 hz1 hz2 rfl (by omega) _ (2 * done.length) (vcells (dup done)) (by rfl) (hrow.alloc _).drew
            ⟨wr.heap.size, 0, none⟩ 2 2 [.int .u8 v.k, .int .i64 v.n, .int .u8 v.k, .int .i64 v.n] (by rfl) (by rfl) (World.news_of_block (cs := #[.int .u8 v.k, .int .i64 v.n, .int .u8 v.k, .int .i64 v.n]) (t := 45) (fr := (0, 0)) HN) (by simp [Value.oneCell'])
            (by omega) (by unfold maxLen; omega) (by omega) (by simp; omega) (wr.heap.size + 1) (by simp) ?_; intro gg capg w5 hown5 hgrow5 hat5 hlt5))
      all_goals
        go_wp2
        go_roundw
        case rel =>
          refine ⟨rest', v :: done, by rw [HR.out]; simp, by simp, ?_, ?_⟩
          · rw [dup_cons, vcells_append, show 2 * (v :: done).length = 2 * done.length + 2 by simp; omega]
            exact hown5
          · have hb := hB.alloc hB.size (.cells #[.int .u8 v.k, .int .i64 v.n, .int .u8 v.k, .int .i64 v.n] 45)
            have hb' : Below w3.heap.size w3 (wr.alloc (.cells #[.int .u8 v.k, .int .i64 v.n, .int .u8 v.k, .int .i64 v.n] 45)).drew := ⟨hb.os, hb.tape, hb.output, hb.size, hb.block⟩
            exact hb'.trans (rbelow_grown hgrow5 (fun k e => (hrow.lt k e).1) (by simp; omega))
        case measure => simp [intOf]

end Go.Proofs.Ytampilfebmfhaaa
