/- Plain's store of one object; Plain of a list of plain values. -/
import Derived.Test.YtkombdkhodjckaaGreatPlObject
import Derived.Test.YtkombdkhodjckaaGreatPlWalk
import Derived.Test.YtkombdkhodjckaaGreatPlPlaces
import Derived.Test.YtkombdkhodjckaaGreatObAlive
namespace Go.Proofs.YtkombdkhodjckaaGreat
set_option linter.unusedVariables false
set_option linter.unusedSimpArgs false
open Go.RowKit Go.Maps

variable {n₀ bh b lim used : Nat} {vw vb : Value} {w₀ w : World} {M : List Ob} {at_ room inn : Nat} {vs : List Vl}

theorem infoO : (Tryz.prog.info? 43).map (fun i => (i.zero, i.size, i.bytes)) = some (some (.agg #[.int .u8 0, .string ⟨#[]⟩, .slice none 0 0, .int .i64 0, .int .i64 0]), 5, 64) := by kernel_rfl

set_option maxRecDepth 20000 in
set_option maxHeartbeats 2000000 in
theorem store_one {g gq cq nb : Nat} (hc : w.cell? ⟨gq, 0, none⟩ = some (.int .i64 (at_ : Int)))
    (H : ∀ W, Below w.heap.size w W → Calls Tryz.prog 69 #[.pointer (some ⟨g, 0, none⟩), .int .i64 at_, .map (some nb)] W fun e w' => ∃ pL cL, e = .returned (.agg #[.int .u8 4, .string ⟨#[]⟩, .slice pL vs.length cL, .int .i64 room, .int .i64 0]) ∧ Below W.heap.size W w') :
    Calls Tryz.prog 31 #[.pointer (some ⟨g, 0, none⟩), .slice (some ⟨gq, 0, none⟩) 1 cq, .map (some nb)] w fun e w' => ∃ gs cs pL cL, e = .returned (.slice (some ⟨gs, 0, none⟩) 1 cs) ∧ w'.ownsRow w.heap.size 43 5 (.slice (some ⟨gs, 0, none⟩) 1 cs) 1 [.int .u8 4, .string ⟨#[]⟩, .slice pL vs.length cL, .int .i64 room, .int .i64 0] ∧ Below w.heap.size w w' := by
  obtain ⟨i0, hi0, hz0, hz1, hz2⟩ := info_parts infoO
  go_enter Tryz.func31, Tryz.ntmps31
  go_wp2_with (first | fail)
  go_loopw [7, 12] (fun s7 t wr => ∃ i : Nat, t = .int .i64 i ∧ i ≤ 1 ∧ ((i = 0 ∧ s7 = .slice none 0 0 ∧ wr = w) ∨ (i = 1 ∧ ∃ gs cs pL cL, s7 = .slice (some ⟨gs, 0, none⟩) 1 cs ∧ wr.ownsRow w.heap.size 43 5 (.slice (some ⟨gs, 0, none⟩) 1 cs) 1 [.int .u8 4, .string ⟨#[]⟩, .slice pL vs.length cL, .int .i64 room, .int .i64 0] ∧ Below w.heap.size w wr))) (fun _ t _ => 1 - (Go.RowKit.intOf t).toNat)
  case atStart => exact ⟨0, rfl, by omega, .inl ⟨rfl, rfl, rfl⟩⟩
  case round =>
    obtain ⟨i, rfl, hi, ⟨rfl, rfl, rfl⟩ | ⟨rfl, gs, cs, pL, cL, rfl, hrow, hB⟩⟩ := hrel
    · have H1 := H wr (Below.refl _ _)
      go_wp2_with (first
        | (go_at_call 69; refine H1.mono ?_; clear H1; rintro e w1 ⟨pL, cL, rfl, hB1⟩)
        | (at_builtin; refine wpList_append_lies _ rfl _ _ 38 rfl wr.heap.size 43 i0 _ 5 64 Tryz.underlying38 hi0 hz0 hz1 hz2 rfl (by decide) _ 0 [] rfl (World.ownsRow_nil _ _ _ _) ⟨w1.heap.size, 0, none⟩ 1 1 [.int .u8 4, .string ⟨#[]⟩, .slice pL vs.length cL, .int .i64 room, .int .i64 0] rfl rfl (World.news_of_block (cs := #[.int .u8 4, .string ⟨#[]⟩, .slice pL vs.length cL, .int .i64 room, .int .i64 0]) (t := 43) (fr := (0, 0)) (heap_alloc_new w1 _)) (by simp [Value.oneCell']) (by omega) (by unfold maxLen; omega) (by omega) (by have := hB1.size; simp; omega) (w1.heap.size + 1) (by simp) ?_; intro g6 c6 w6 ho6 hg6 hat6 hlt6))
      refine ⟨⟨1, by simp, by omega, .inr ⟨rfl, g6, c6, pL, cL, rfl, ho6, ?_⟩⟩, by simp [Go.RowKit.intOf]⟩
      have hbA := below1 w1 (.cells #[.int .u8 4, .string ⟨#[]⟩, .slice pL vs.length cL, .int .i64 room, .int .i64 0] 43)
      have hb2 := hB1.trans (hbA.mono hB1.size)
      exact hb2.trans (rbelow_grown hg6 (fun q e => by cases e) hb2.size)
    · go_wp2
      go_ret
      exact ⟨gs, cs, pL, cL, rfl, hrow, hB⟩

theorem results_tmp_row_tmp {P : Program} {fn : Func} {p u v : Tmp} {ty : TypeId} (h : fn.results = #[.tmp u, .cell p ty, .tmp v]) (tmps : Array Value) (w : World) (g : Nat) (t : TypeId) (cs : Array Value) (fr : Nat × Nat) (d : TypeDesc)
    (hp : tmps.getD p undef = .pointer (some ⟨g, 0, none⟩)) (hg : w.heap[g]? = some (.cells cs t fr))
    (hu : P.underlying ty = some d) (hd : (match d with | .struct _ | .array _ _ => true | _ => false) = true) (hi : (P.info? ty).map (·.size) = some cs.size) :
    (results fn tmps).run P w = .ok (.tuple #[tmps.getD u undef, .agg cs, tmps.getD v undef]) w := by
  have hp' : (tmps[p]?).getD undef = .pointer (some ⟨g, 0, none⟩) := by simpa using hp
  simp only [results, h]
  simp [Sem.run_bind, Result.andThen]
  rw [hp']
  simp [asAddr, run_loadVar_row w g t ty cs fr d hg hu hd hi, Result.andThen]

/-- What stands while Plain answers. -/
structure Pz (w W : World) (g bh mb at_ : Nat) (x : Bd) : Prop where
  tour : ∃ todo, Tour W g bh mb todo
  met : Met1 W mb at_ x
  box : W.heap[w.heap.size]? = some (.cells #[.int .u8 4, .int .i64 at_] 29 (0, 0))
  res : W.heap[w.heap.size + 1]? = some (.cells #[.int .u8 0, .int .i64 0] 29 (0, 0))
  bel : Below w.heap.size w W

theorem Pz.below {W W' : World} {g mb : Nat} {x : Bd} (h : Pz w W g bh mb at_ x) (hB : Below W.heap.size W W') : Pz w W' g bh mb at_ x := by
  obtain ⟨todo, ht⟩ := h.tour
  exact ⟨⟨todo, ht.below hB⟩, h.met.kept (hB.block _ h.met.lt), (hB.block _ (Array.getElem?_eq_some_iff.1 h.box).1).trans h.box, (hB.block _ (Array.getElem?_eq_some_iff.1 h.res).1).trans h.res, h.bel.trans (hB.mono h.bel.size)⟩

set_option maxRecDepth 20000 in
set_option maxHeartbeats 4000000 in
theorem plain_row (r : Rw M at_ 4 vs room inn) (h : Hp n₀ bh b vw vb w lim used M) (hl1 : 1 ≤ lim) (hl : vs.length ≤ 65536) (ha : at_ ≤ 1048576) (hx : Bd.fits ⟨vs.length, room, inn⟩) (hv : ∀ v ∈ vs, v.k < 3 ∧ MayHeld M v.k v.n) :
    Calls Tryz.prog 10 #[.pointer (some ⟨bh, 0, none⟩), .agg #[.int .u8 4, .int .i64 at_]] w fun e w' => ∃ gs cs, e = .returned (.tuple #[.slice (some ⟨gs, 0, none⟩) 1 cs, .agg #[.int .u8 4, .int .i64 1], .int .i64 0]) ∧ w'.cell? ⟨gs, 3, none⟩ = some (.int .i64 room) ∧ Below w.heap.size w w' := by
  have hm4 : MayHeld M 4 at_ := by
    obtain ⟨o, ho, h1, h2⟩ := r.ob
    exact .inr (.inr (.inr ⟨by omega, by omega, by omega, o, ho, by rw [h1], h2⟩))
  have H1 := fun W (hB : Below w.heap.size w W) => othere_in (h.below hB) hl1
  have H2 := fun W (hB : Below w.heap.size w W) => mayBeHeld_yes (h.below hB) 4 at_ hm4
  have H3 := fun W (hB : Below w.heap.size w W) (g mb : Nat) (hg : w.heap.size ≤ g) (hm : w.heap.size ≤ mb) (ht : Tour W g bh mb (.slice none 0 0)) (hM : Met0 W mb) => walk_row r h hl ha hx hv hB hg hm ht hM
  have H4 := fun W (g mb nb : Nat) (hB : Below w.heap.size w W) (todo : Value) (ht : Tour W g bh mb todo) (hM : Met1 W mb at_ ⟨vs.length, room, inn⟩) => object_row r (h.below hB) hl ha hx (fun v hv' => (hv v hv').1) (nb := nb) ht hM
  simp only [show ((4 : Nat) : Int) = 4 from rfl] at H2
  unfold mem at H1 H2
  have hmm := @run_makeMap Tryz.prog
  have hb3 : Below w.heap.size w (((w.alloc (.cells #[.int .u8 4, .int .i64 at_] 29)).alloc (.cells #[.int .u8 0, .int .i64 0] 29)).alloc (.cells #[.pointer (some ⟨bh, 0, none⟩)] 54)) := allocs_below [_, _, _] w
  clear r h hx hv hm4
  go_enter Tryz.func10, Tryz.ntmps10
  go_wp2_with (first
    | (go_at_call 19; refine (H1 _ hb3).mono ?_; clear H1; rintro e w1 ⟨rfl, hB1⟩; obtain ⟨gg, hBz⟩ := laterN [Obj.cells #[.int .u8 4, .int .i64 at_] 29, .cells #[.int .u8 0, .int .i64 0] 29, .cells #[.pointer (some ⟨bh, 0, none⟩)] 54] hB1
       have g0 : w1.heap[w.heap.size]? = some (.cells #[.int .u8 4, .int .i64 at_] 29 (0, 0)) := gg 0 _ rfl
       have g1 : w1.heap[w.heap.size + 1]? = some (.cells #[.int .u8 0, .int .i64 0] 29 (0, 0)) := gg 1 _ rfl
       have g2 : w1.heap[w.heap.size + 1 + 1]? = some (.cells #[.pointer (some ⟨bh, 0, none⟩)] 54 (0, 0)) := gg 2 _ rfl
       have ⟨d0, d1⟩ := cell_row2 g0
       have d2 : w1.cell? ⟨w.heap.size + 1 + 1, 0, none⟩ = some (.pointer (some ⟨bh, 0, none⟩)) := cell_row1 g2)
    | (go_at_call 26; refine (H2 _ hBz).mono ?_; clear H2; rintro e w2 ⟨rfl, hB2⟩
       have hBy := hBz.trans (hB2.mono hBz.size)
       have k0 := (hB2.block _ (Array.getElem?_eq_some_iff.1 g0).1).trans g0
       have k1 := (hB2.block _ (Array.getElem?_eq_some_iff.1 g1).1).trans g1
       have k2 := (hB2.block _ (Array.getElem?_eq_some_iff.1 g2).1).trans g2
       have e2 : w2.cell? ⟨w.heap.size + 1 + 1, 0, none⟩ = some (.pointer (some ⟨bh, 0, none⟩)) := cell_row1 k2
       have ⟨e0, e1⟩ := cell_row2 k0
       have ⟨f0, f1⟩ := cell_row2 (alloc_keeps (alloc_keeps k0 (.map #[] 0)) (.cells #[.pointer (some ⟨bh, 0, none⟩), .map (some w2.heap.size), .slice none 0 0] 66))
       have hb5 : Below w2.heap.size w2 ((w2.alloc (.map #[] 0)).alloc (.cells #[.pointer (some ⟨bh, 0, none⟩), .map (some w2.heap.size), .slice none 0 0] 66)) := allocs_below [_, _] w2
       have t5 : Tour ((w2.alloc (.map #[] 0)).alloc (.cells #[.pointer (some ⟨bh, 0, none⟩), .map (some w2.heap.size), .slice none 0 0] 66)) (w2.heap.size + 1) bh w2.heap.size (.slice none 0 0) := heap_two w2 _ _
       have m5 : Met0 ((w2.alloc (.map #[] 0)).alloc (.cells #[.pointer (some ⟨bh, 0, none⟩), .map (some w2.heap.size), .slice none 0 0] 66)) w2.heap.size := (Met0.made w2).kept ((below1 (w2.alloc (.map #[] 0)) (.cells #[.pointer (some ⟨bh, 0, none⟩), .map (some w2.heap.size), .slice none 0 0] 66)).block _ (by simp))
       have hws := hBy.size
       have H3' := H3 ((w2.alloc (.map #[] 0)).alloc (.cells #[.pointer (some ⟨bh, 0, none⟩), .map (some w2.heap.size), .slice none 0 0] 66)) (hBy.trans (hb5.mono hBy.size)) (w2.heap.size + 1) w2.heap.size (by omega) (by omega) t5 m5
       clear H3)
    | (go_at_call 28; (with_reducible refine H3'.mono ?_); clear H3'; rintro e w6 ⟨rfl, todo, t6, m6, bel6, oth6, siz6⟩; refine halt_here ?_))
  unfold Halted
  have hk : ∀ k, k < w2.heap.size → w6.heap[k]? = w2.heap[k]? := fun k hk => (oth6 k (Nat.lt_of_lt_of_le hk hb5.size) (by omega) (by omega)).trans (hb5.block k hk)
  have pz : Pz w w6 (w2.heap.size + 1) bh w2.heap.size at_ ⟨vs.length, room, inn⟩ := ⟨⟨todo, t6⟩, m6, (hk _ (Array.getElem?_eq_some_iff.1 k0).1).trans k0, (hk _ (Array.getElem?_eq_some_iff.1 k1).1).trans k1, bel6⟩
  clear hk oth6 siz6 t6 m6 bel6 k0 k1 k2 e0 e1 e2 f0 f1 d0 d1 d2 g0 g1 g2 gg hb5 t5 m5 hBy hBz hB1 hB2 hb3 hmm hws
  generalize w2.heap.size + 1 = g at pz ⊢
  generalize w2.heap.size = mb at pz ⊢
  obtain ⟨todo', t6⟩ := pz.tour
  have H5 := places_one t6 pz.met
  go_wp2_with (first
    | (go_at_call 29; (with_reducible refine H5.mono ?_); clear H5; rintro e w7 ⟨gq, c7, rfl, row7, hB7⟩
       have q7 := row7.cellAt 0 (by omega)
       simp only [List.getElem?_cons_zero] at q7
       have H6 := numbered_one (c := c7) ha q7 (row7.lt gq rfl).2)
    | (go_at_call 30; (with_reducible refine H6.mono ?_); clear H6; rintro e w8 ⟨rfl, n8, hB8⟩))
  have hB78 := hB7.trans (hB8.mono hB7.size)
  have pz8 := pz.below hB78
  have q8 : w8.cell? ⟨gq, 0, none⟩ = some (.int .i64 (at_ : Int)) := (World.cell?_of_block (a := ⟨gq, 0, none⟩) (hB8.block gq (row7.lt gq rfl).2)).trans q7
  obtain ⟨nb, hnb⟩ : ∃ nb, w7.heap.size = nb := ⟨_, rfl⟩
  rw [hnb] at n8 ⊢
  clear hnb pz t6 hB7 hB8 row7 q7 hB78 w7 w6
  have hD8 := below_drew (Below.refl w8.heap.size w8)
  have HS := store_one (w := w8.drew) (g := g) (cq := c7) (nb := nb) (at_ := at_) (vs := vs) (room := room) q8 (fun W hB => by
    have pzW := pz8.below (hD8.trans (hB.mono hD8.size))
    obtain ⟨todoW, htW⟩ := pzW.tour
    exact H4 W g mb nb pzW.bel todoW htW pzW.met)
  have FCS : ∀ W, Pz w W g bh mb at_ ⟨vs.length, room, inn⟩ → W.cell? ⟨w.heap.size, 0, none⟩ = some (.int .u8 4) ∧ W.cell? ⟨w.heap.size, 1, none⟩ = some (.int .i64 at_) := fun W h => cell_row2 h.box
  have S0 := FCS _ (pz8.below hD8)
  have NV := fun W (hB : Below w8.heap.size w8 W) => numval_row ha (n8.kept (hB.block _ n8.lt))
  have hne : w.heap.size ≠ w.heap.size + 1 := by omega
  clear H4 q8
  go_region_held3 (fun W => W.cell? ⟨w.heap.size, 0, none⟩ = some (.int .u8 4) ∧ W.cell? ⟨w.heap.size, 1, none⟩ = some (.int .i64 at_)) (first | with_reducible exact S0 | with_reducible exact S9 | with_reducible exact S10 | with_reducible exact S11 | go_keep) ((first
    | (go_at_call 31; (with_reducible refine HS.mono ?_); clear HS; rintro e w9 ⟨gs, cs, pL, cL, rfl, row9, hB9⟩; have hB9' := hD8.trans (hB9.mono hD8.size); have pz9 := pz8.below hB9'; have S9 := FCS _ pz9; have NV9 := NV w9 hB9')
    | (go_at_call 32; (with_reducible refine NV9.mono ?_); clear NV9; rintro e w10 ⟨rfl, hB10⟩; have pz10 := pz9.below hB10; have S10 := FCS _ pz10; obtain ⟨⟨x0, x1⟩, f0, f1⟩ := cell_row2f pz10.res
       have S11 : ((w10.setCell ⟨w.heap.size + 1, 0, none⟩ (.int .u8 4)).setCell ⟨w.heap.size + 1, 1, none⟩ (.int .i64 1)).cell? ⟨w.heap.size, 0, none⟩ = some (.int .u8 4) ∧ ((w10.setCell ⟨w.heap.size + 1, 0, none⟩ (.int .u8 4)).setCell ⟨w.heap.size + 1, 1, none⟩ (.int .i64 1)).cell? ⟨w.heap.size, 1, none⟩ = some (.int .i64 at_) := cell_row2 (show Bx ((w10.setCell ⟨w.heap.size + 1, 0, none⟩ (.int .u8 4)).setCell ⟨w.heap.size + 1, 1, none⟩ (.int .i64 1)) w.heap.size 4 at_ from Bx.other pz10.box hne _ _))))
  all_goals
    go_wp2
    refine bodyPost_ret (results_tmp_row_tmp (by rfl) _ _ (w.heap.size + 1) 29 _ _ _ (by rfl) (set2_row pz10.res) Tryz.underlying29 (by rfl) infoVal3) (by rfl) ?_
    have hw8 : w.heap.size + 1 < w8.heap.size := (Array.getElem?_eq_some_iff.1 pz8.res).1
    have hgs := row9.lt gs rfl
    have e8 : w8.drew.heap.size = w8.heap.size := rfl
    have c9 := row9.cellAt 3 (by omega)
    simp only [List.getElem?_cons_zero, List.getElem?_cons_succ] at c9
    refine ⟨gs, cs, rfl, ?_, below_set (below_set pz10.bel (by omega) _) (by omega) _⟩
    refine (World.cell?_of_block (a := ⟨gs, 3, none⟩) ?_).trans c9
    exact (heap_setCell_other _ ⟨w.heap.size + 1, 1, none⟩ gs _ (by simp only; omega)).trans ((heap_setCell_other _ ⟨w.heap.size + 1, 0, none⟩ gs _ (by simp only; omega)).trans (hB10.block gs hgs.2))

end Go.Proofs.YtkombdkhodjckaaGreat
