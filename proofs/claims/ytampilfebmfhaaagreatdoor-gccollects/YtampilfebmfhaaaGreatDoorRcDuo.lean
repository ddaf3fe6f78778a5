/- Collect of two heaps, there or not: both answer the same, and leave the same. -/
import Derived.Test.YtampilfebmfhaaaGreatDoorRcWalk
import Derived.Test.YtampilfebmfhaaaGreatDoorGcNil
import Derived.Test.YtampilfebmfhaaaGreatDoorVkApart
namespace Go.Proofs.YtampilfebmfhaaaGreatDoor
set_option linter.unusedVariables false
set_option linter.unusedSimpArgs false
open Go.RowKit

variable {w : World}

set_option maxRecDepth 20000 in
set_option maxHeartbeats 1000000 in
theorem rcollect_nil (v : Value) (w : World) : Calls Tryz.prog 15 #[.pointer none, v] w fun e w' => e = .returned (.tuple #[.slice none 0 0, .int .i64 2]) ∧ w' = w := by
  go_enter Tryz.func15, Tryz.ntmps15
  go_wp2
  go_ret2
  exact ⟨rfl, rfl⟩

set_option maxRecDepth 20000 in
set_option maxHeartbeats 1000000 in
theorem rcollect_bad {n₀ br all en : Nat} {vo : Value} {R : List (Ob × Value)} (h : IsRf n₀ br vo w all en R) (hs : Srt 0 (R.map Prod.fst)) {p : Option Addr} {vs : List Vl} (c : Nat) (hv : Vals w p vs) (hlen : vs.length ≤ 1000000) (hk8 : ∀ v ∈ vs, v.k < 256) (hmay : ¬ May (R.map Prod.fst) vs) :
    Calls Tryz.prog 15 #[.pointer (some ⟨br, 0, none⟩), .slice p vs.length c] w fun e w' => e = .returned (.tuple #[.slice none 0 0, .int .i64 1]) ∧ Below w.heap.size w w' := by
  have H1 : Calls Tryz.prog 24 #[.pointer (some ⟨br, 0, none⟩), .slice p vs.length c] w fun e w' => e = .returned (.bool false) ∧ Below w.heap.size w w' := by
    refine (rroots_in h hs c hv hlen hk8).mono ?_
    rintro e w' ⟨⟨hn, _⟩ | ⟨_, he⟩, hB⟩
    · exact (hmay hn).elim
    · exact ⟨he, hB⟩
  clear hmay
  go_enter Tryz.func15, Tryz.ntmps15
  go_wp2_with (first
    | (go_at_call 24; refine H1.mono ?_; clear H1; rintro e w1 ⟨rfl, hB1⟩))
  go_ret2
  exact ⟨rfl, hB1⟩

theorem reached_same {M : List Ob} {vs : List Vl} {f g : Ob → Bool} (hf : ∀ o ∈ M, f o = true ↔ Rch M vs o.at_) (hg : ∀ o ∈ M, g o = true ↔ Rch M vs o.at_) : M.filter f = M.filter g := by
  refine List.filter_congr (fun o ho => ?_)
  have := (hf o ho).trans (hg o ho).symm
  cases hx : f o <;> cases hy : g o <;> simp_all

theorem Bo.word64 {n₀ bh b br lim : Nat} {s : BSt} (h : Bo n₀ bh b br lim w s) : ∀ x ∈ s.R, ∀ y ∈ x.1.ws, y < 18446744073709551616 := by
  intro x hx y hy
  obtain ⟨l, r, hR⟩ := List.append_of_mem hx
  have hp := h.hp
  rw [map_split hR] at hp
  obtain ⟨i, hi⟩ := List.mem_iff_getElem?.1 hy
  exact hp.word_lt hi

/-- A step that leaves all below a mark, and all lists of values. -/
def VK (n₀ : Nat) (w w' : World) : Prop := Below n₀ w w' ∧ ∀ {base n : Nat} {v : Value} {xs : List Value}, w.ownsRow base 76 2 v n xs → w'.ownsRow base 76 2 v n xs

theorem VK.of_below {n₀ : Nat} {w w' : World} (h : Below w.heap.size w w') (hn : n₀ ≤ w.heap.size) : VK n₀ w w' := ⟨h.mono hn, fun hr => row_kept hr (fun k e => h.block k (hr.lt k e).2)⟩

/-- A block of the lists or of the book. -/
def Oth (w : World) (k : Nat) : Prop := ∃ cur t, w.heap[k]? = some (.cells cur t (0, 0)) ∧ (t = 76 ∨ t = 158 ∨ t = 58)

/-- Two heaps, there or not, of which Collect answers us and er. -/
structure Cduo (n₀ : Nat) (vh vr : Value) (vs : List Vl) (T0 T1 T2 : World → Prop) (us : List Vl) (er : Nat) : Prop where
  len : us.length ≤ 1000000
  keep0 : ∀ {w w'}, T0 w → Below w.heap.size w w' → T0 w'
  collect : ∀ {w base g} (c : Nat), n₀ ≤ w.heap.size → T0 w → TwinAt base g c vs w → Calls Tryz.prog 14 #[vh, .slice (some ⟨g, 0, none⟩) vs.length c] w fun e w' => ∃ v, e = .returned (.tuple #[v, .int .i64 er]) ∧ OwnVals w.heap.size v us w' ∧ T1 w' ∧ VK n₀ w w'
  rcollect : ∀ {w p} (c : Nat), n₀ ≤ w.heap.size → T1 w → Vals w p vs → Calls Tryz.prog 15 #[vr, .slice p vs.length c] w fun e w' => ∃ v, e = .returned (.tuple #[v, .int .i64 er]) ∧ OwnVals w.heap.size v us w' ∧ T2 w' ∧ VK n₀ w w'
  keep2 : ∀ {S : Nat → Prop} {w w'}, T2 w → KStep S w w' → (∀ k, S k → k < w.heap.size → Oth w k) → T2 w'
  same : ∀ {w}, T2 w → Calls Tryz.prog 11 #[vh, vr] w fun e w' => e = .returned (.bool true) ∧ Below w.heap.size w w'

theorem Cduo.below {n₀ : Nat} {vh vr : Value} {vs us : List Vl} {T0 T1 T2 : World → Prop} {er : Nat} (D : Cduo n₀ vh vr vs T0 T1 T2 us er) {w w' : World} (h : T2 w) (hB : Below w.heap.size w w') : T2 w' :=
  D.keep2 (S := fun _ => False) h (KStep.of_below hB) (fun _ h => h.elim)

theorem cduo_gone (n₀ : Nat) (vs : List Vl) : Cduo n₀ (.pointer none) (.pointer none) vs (fun _ => True) (fun _ => True) (fun _ => True) [] 2 where
  len := by simp
  keep0 := fun _ _ => trivial
  collect := by
    intro w base g c hn _ _
    refine (gcollect_nil _ w).mono ?_
    rintro e w' ⟨he, rfl⟩
    exact ⟨_, he, World.ownsRow_nil _ _ _ _, trivial, VK.of_below (Below.refl _ _) hn⟩
  rcollect := by
    intro w p c hn _ _
    refine (rcollect_nil _ w).mono ?_
    rintro e w' ⟨he, rfl⟩
    exact ⟨_, he, World.ownsRow_nil _ _ _ _, trivial, VK.of_below (Below.refl _ _) hn⟩
  keep2 := fun _ _ _ => trivial
  same := fun _ => same_gone (.inl rfl)

theorem Bq.keep {n₀ bh b br lim : Nat} {s : BSt} {w w' : World} {S : Nat → Prop} (h : Bq n₀ bh b br lim w s) (hK : KStep S w w') (hS : ∀ k, S k → k < w.heap.size → Oth w k) : Bq n₀ bh b br lim w' s := by
  refine ⟨h.hp.kept (fun k e => ?_), h.rf.kept (fun k e => ?_)⟩
  · obtain ⟨_, h2, cur, t, h3, h4⟩ := h.hp.blocks k e
    refine hK.block k h2 (fun hs => ?_)
    obtain ⟨cur', t', h5, h6⟩ := hS k hs h2
    rw [h3] at h5
    cases h5
    rcases h4 with rfl | rfl | rfl | rfl <;> simp at h6
  · obtain ⟨_, h2, cur, t, h3, h4⟩ := h.rf.blocks e
    refine hK.block k h2 (fun hs => ?_)
    obtain ⟨cur', t', h5, h6⟩ := hS k hs h2
    rw [h3] at h5
    cases h5
    rcases h4 with rfl | rfl | rfl <;> simp at h6

theorem cduo_bad {n₀ bh b br lim : Nat} {s : BSt} (hl : 1 ≤ lim) (vs : List Vl) (hlen : vs.length ≤ 1000000) (hk8 : ∀ v ∈ vs, v.k < 256) (hmay : ¬ May (s.R.map Prod.fst) vs) :
    Cduo n₀ (.pointer (some ⟨bh, 0, none⟩)) (.pointer (some ⟨br, 0, none⟩)) vs (fun w => Bo n₀ bh b br lim w s) (fun w => Bo n₀ bh b br lim w s) (fun w => Bq n₀ bh b br lim w s) [] 1 where
  len := by simp
  keep0 := fun h hB => h.below hB
  collect := by
    intro w base g c hn h ht
    refine (collect_bad h.hp hl c ht.vals hlen hk8 hmay).mono ?_
    rintro e w' ⟨he, hB⟩
    exact ⟨_, he, World.ownsRow_nil _ _ _ _, h.below hB, VK.of_below hB hn⟩
  rcollect := by
    intro w p c hn h hv
    refine (rcollect_bad h.rf h.hp.srt.1 c hv hlen hk8 hmay).mono ?_
    rintro e w' ⟨he, hB⟩
    exact ⟨_, he, World.ownsRow_nil _ _ _ _, (h.below hB).bq, VK.of_below hB hn⟩
  keep2 := fun h hK hS => h.keep hK hS
  same := fun h => same_realQ h

/-- Behind gc's Collect, ahead of the document's. -/
structure Mid (n₀ bh b br lim : Nat) (s : BSt) (L : List Ob) (w : World) : Prop where
  hp : ∃ vw vb, Hp n₀ bh b vw vb w lim (sumO L) (fin (s.R.map Prod.fst) L)
  rf : IsRf n₀ br s.vo w lim s.used s.R

theorem Bo.foreign {n₀ bh b br lim : Nat} {s : BSt} (h : Bo n₀ bh b br lim w s) {vw' vb' : Value} {w' : World} (hS : Step b s.vw s.vb w vw' vb' w') : IsRf n₀ br s.vo w' lim s.used s.R := (h.afterH hS).1

theorem cduo_real {n₀ bh b br lim : Nat} {s : BSt} (hl : 1 ≤ lim) (hsrt : Srt 0 (s.R.map Prod.fst) ∧ ∀ o ∈ s.R.map Prod.fst, o.end_ ≤ 1048576) (h64 : ∀ x ∈ s.R, ∀ y ∈ x.1.ws, y < 18446744073709551616) (vs : List Vl) (hlen : vs.length ≤ 1000000) (hk8 : ∀ v ∈ vs, v.k < 256) (hmay : May (s.R.map Prod.fst) vs) {F : Ob → Bool} (hF : ∀ o ∈ s.R.map Prod.fst, F o = true ↔ Rch (s.R.map Prod.fst) vs o.at_) :
    Cduo n₀ (.pointer (some ⟨bh, 0, none⟩)) (.pointer (some ⟨br, 0, none⟩)) vs (fun w => Bo n₀ bh b br lim w s) (Mid n₀ bh b br lim s ((s.R.map Prod.fst).filter F))
      (fun w => ∃ vw vb vo Rn, Rn.map Prod.fst = fin (s.R.map Prod.fst) ((s.R.map Prod.fst).filter F) ∧ Bq n₀ bh b br lim w ⟨vw, vb, vo, sumO ((s.R.map Prod.fst).filter F), Rn⟩) (vs.map (newRoot (dst 0 ((s.R.map Prod.fst).filter F)))) 0 where
  len := by simpa using hlen
  keep0 := fun h hB => h.below hB
  collect := by
    intro w base g c hn h ht
    have hst : ∀ vw' vb' w', Step b s.vw s.vb w vw' vb' w' → Vals w' (some ⟨g, 0, none⟩) vs := fun vw' vb' w' hS => TwinAt.vals (h.hp.row hS ht (by decide))
    refine (collect_ok h.hp hl c ht.vals (fun e => by cases e) hlen hk8 hst hmay).mono ?_
    rintro e w' ⟨v, he, f, vw', vb', hR, hO, hp', hS⟩
    rw [reached_same hR.iff hF] at hO hp'
    exact ⟨v, he, hO, ⟨⟨vw', vb', hp'⟩, h.foreign hS⟩, h.hp.stepBelow hS, fun hr => h.hp.row hS hr (by decide)⟩
  rcollect := by
    intro w p c hn h hv
    refine (rcollect_ok h.rf hsrt.1 hsrt.2 h64 c hv hlen hk8 hmay).mono ?_
    rintro e w' ⟨v, he, f, hR, hO, vo', Rn, hk, hq, hK⟩
    rw [reached_same hR.iff hF] at hO hk hq
    obtain ⟨vw, vb, hp⟩ := h.hp
    refine ⟨v, he, hO, ⟨vw, vb, vo', Rn, hk, ?_, hq⟩, hK.below (fun k e => by rw [e]; exact h.rf.base) hn, fun hr => row_kept hr (fun k e => hK.block k (hr.lt k e).2 (fun e2 => ?_))⟩
    · show Hp n₀ bh b vw vb w' lim (sumO ((s.R.map Prod.fst).filter F)) (Rn.map Prod.fst)
      rw [hk]
      refine hp.kept (fun k e => ?_)
      obtain ⟨_, h2, cur, t, h3, h4⟩ := hp.blocks k e
      refine hK.block k h2 (fun e2 => ?_)
      rw [e2, h.rf.blk] at h3
      cases h3
      rcases h4 with e | e | e | e <;> simp at e
    · obtain ⟨cur, hc⟩ := row_obj hr e
      rw [e2, h.rf.blk] at hc
      simp at hc
  keep2 := by
    rintro S w w' ⟨vw, vb, vo, Rn, hk, h⟩ hK hS
    exact ⟨vw, vb, vo, Rn, hk, h.keep hK hS⟩
  same := by
    rintro w ⟨vw, vb, vo, Rn, hk, h⟩
    exact same_realQ h

theorem cduo_of {ph pr : Option Addr} {w w1 : World} (h : MadeAt w ph pr w1) (vs : List Vl) (hlen : vs.length ≤ 1000000) (hk8 : ∀ v ∈ vs, v.k < 256) : ∃ T0 T1 T2 us er, Cduo w.heap.size (.pointer ph) (.pointer pr) vs T0 T1 T2 us er ∧ T0 w1 := by
  rcases h.2 with ⟨rfl, rfl⟩ | ⟨bh, b, br, lim, s, rfl, rfl, h3, h4⟩
  · exact ⟨_, _, _, _, _, cduo_gone w.heap.size vs, trivial⟩
  · by_cases hm : May (s.R.map Prod.fst) vs
    · have hs := h4.hp.srt
      have hz := h4.size
      exact ⟨_, _, _, _, _, cduo_real h3 ⟨hs.1, fun o ho => Nat.le_trans (hs.2 o ho) (by omega)⟩ h4.word64 vs hlen hk8 hm (F := fun o => @decide (Rch (s.R.map Prod.fst) vs o.at_) (Classical.propDecidable _)) (fun o _ => by simp), h4⟩
    · exact ⟨_, _, _, _, _, cduo_bad h3 vs hlen hk8 hm, h4⟩

end Go.Proofs.YtampilfebmfhaaaGreatDoor
