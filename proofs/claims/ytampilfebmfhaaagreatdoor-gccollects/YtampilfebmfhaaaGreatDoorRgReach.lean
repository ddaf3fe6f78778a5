/- The document's Reach. -/
import Derived.Test.YtampilfebmfhaaaGreatDoorRgReached
namespace Go.Proofs.YtampilfebmfhaaaGreatDoor
set_option linter.unusedVariables false
set_option linter.unusedSimpArgs false
open Go.RowKit

variable {n₀ br all en : Nat} {vo : Value} {w : World} {R : List (Ob × Value)}

theorem sumO_filter_le (L : List Ob) (f : Ob → Bool) (h : ∀ o ∈ L, o.ws.length ≤ 1048576) : sumO (L.filter f) ≤ L.length * 1048577 := by
  refine Nat.le_trans (sumO_le _ (fun o ho => h o (List.mem_filter.1 ho).1)) (Nat.mul_le_mul_right _ (List.length_filter_le _ _))

set_option maxRecDepth 20000 in
set_option maxHeartbeats 4000000 in
theorem rreach_in (h : IsRf n₀ br vo w all en R) (hs : Srt 0 (R.map Prod.fst)) (h64 : ∀ x ∈ R, ∀ y ∈ x.1.ws, y < 18446744073709551616) {p : Option Addr} {vs : List Vl} (c : Nat) (hv : Vals w p vs) (hlen : vs.length ≤ 1000000) (hk8 : ∀ v ∈ vs, v.k < 256) :
    Calls Tryz.prog 8 #[.pointer (some ⟨br, 0, none⟩), .slice p vs.length c] w fun e w' => Below w.heap.size w w' ∧
      ((¬ May (R.map Prod.fst) vs ∧ e = .returned (.tuple #[.slice none 0 0, .int .i64 0, .int .i64 1])) ∨
       (May (R.map Prod.fst) vs ∧ ∃ (f : Ob → Bool) (q : Option Addr) (c : Nat), (∀ o ∈ R.map Prod.fst, f o = true ↔ Rch (R.map Prod.fst) vs o.at_) ∧ e = .returned (.tuple #[.slice q ((R.map Prod.fst).filter f).length c, .int .i64 (sumO ((R.map Prod.fst).filter f) : Nat), .int .i64 0]) ∧
         w'.ownsRow w.heap.size 2 1 (.slice q ((R.map Prod.fst).filter f).length c) ((R.map Prod.fst).filter f).length (((R.map Prod.fst).filter f).map (fun o => pv o.at_)))) := by
  have H1 := rroots_in h hs c hv hlen hk8
  by_cases hmay : May (R.map Prod.fst) vs
  · have H1' : Calls Tryz.prog 24 #[.pointer (some ⟨br, 0, none⟩), .slice p vs.length c] w fun e w' => e = .returned (.bool true) ∧ Below w.heap.size w w' := by
      refine H1.mono ?_
      rintro e w' ⟨⟨_, he⟩ | ⟨hn, _⟩, hB⟩
      · exact ⟨he, hB⟩
      · exact (hn hmay).elim
    have H2 := fun w' (hB : Below w.heap.size w w') => rreached_in (h.below hB) hs h64 c (hv.below hB) hlen
    have HM : Hid _ := hmay
    clear H1 hmay
    have hle := h.le
    obtain ⟨po, co, rfl, _, _, hp⟩ := IsRf.row_some3 h.row
    go_enter Tryz.func8, Tryz.ntmps8
    go_wp2_with (first
      | (go_at_call 24; refine H1'.mono ?_; clear H1'; rintro e w1 ⟨rfl, hB1⟩)
      | (go_at_call 25; refine (H2 _ hB1).mono ?_; clear H2; rintro e w2 ⟨S, q, c2, hS, hSl, rfl, hrow, hB2⟩))
    obtain ⟨f, hf⟩ : ∃ f : Ob → Bool, f = fun o => S.getD (findR o.at_ R).toNat false := ⟨_, rfl⟩
    have hfx : ∀ (i : Nat) (x : Ob × Value), R[i]? = some x → S[i]? = some (f x.1) := by
      intro i x hx
      have hlt := (List.getElem?_eq_some_iff.1 hx).1
      rw [hf]
      simp only
      rw [findR_idx hs hx, List.getD, List.getElem?_eq_getElem (by omega)]
      simp
    have hff : ∀ o ∈ R.map Prod.fst, f o = true ↔ Rch (R.map Prod.fst) vs o.at_ := by
      intro o ho
      obtain ⟨x, hx, rfl⟩ := List.mem_map.1 ho
      obtain ⟨i, hi⟩ := List.mem_iff_getElem?.1 hx
      rw [← hS i x hi, hfx i x hi]
      simp
    have HF : Hid _ := hff
    clear hf hff hS
    have hB := hB1.trans (hB2.mono hB1.size)
    have hws : ∀ o ∈ R.map Prod.fst, o.ws.length ≤ 1048576 := fun o ho => by
      obtain ⟨x, hx, rfl⟩ := List.mem_map.1 ho
      have := (h.bnd x hx).2.1; omega
    obtain ⟨i0, hi, hz0, hz1, hz2⟩ := info_parts info2
    obtain ⟨M, hMe⟩ : ∃ M, R.map Prod.fst = M := ⟨_, rfl⟩
    have HMe : Hid _ := hMe
    go_loopw [8, 9, 10] (fun out t k wr => ∃ (pre rest : List (Ob × Value)), k = .int .i64 pre.length ∧ R = pre ++ rest ∧ t = .int .i64 (sumO ((pre.map Prod.fst).filter f) : Nat) ∧ wr.ownsRow w2.heap.size 2 1 out ((pre.map Prod.fst).filter f).length (((pre.map Prod.fst).filter f).map (fun o => pv o.at_)) ∧ Below w2.heap.size w2 wr) (fun _ _ k _ => R.length - (intOf k).toNat)
    case atStart => exact ⟨[], R, rfl, rfl, rfl, World.ownsRow_nil _ _ _ _, Below.refl _ _⟩
    case round =>
      obtain ⟨pre, rest, rfl, hR, rfl, hro, hBr⟩ := hrel
      cases rest with
      | nil =>
        have hR' : R = pre := by simpa using hR
        have hq : ¬ ((pre.length : Int) < (R.length : Int)) := by rw [hR']; omega
        have HR : Hid _ := hR'
        obtain ⟨p1, c1, hv1, _, _⟩ := IsAr.row_form hro
        have E2 : Hid _ := hv1
        have hs2 := hB2.size
        clear hR hR' hv1 hMe
        go_wp2
        go_ret3
        have e := E2.out
        have hR2 := HR.out
        refine ⟨hB.trans (hBr.mono (Nat.le_trans hB1.size hB2.size)), .inr ⟨HM.out, f, (fun o y hy => HF.out o (List.mem_map.2 ⟨(o, y), hy, rfl⟩)), p1, c1, ?_, ?_⟩⟩
        · rw [hR2, ← e]; rfl
        · rw [hR2, ← e]; exact row_mono hro (Nat.le_trans hB1.size hB2.size)
      | cons x rest =>
        have hxi : R[pre.length]? = some x := by rw [hR]; simp
        have hlR : pre.length < R.length := by rw [hR]; simp
        have hxm : x ∈ R := by rw [hR]; simp
        have hBw : Below w.heap.size w wr := hB.trans (hBr.mono hB.size)
        have hwr := h.below hBw
        obtain ⟨gO, rfl⟩ := hp (by omega)
        have hcO := hwr.c2
        obtain ⟨o0, o1, o2⟩ := hwr.elem hxi
        obtain ⟨hw1, hw2⟩ := hwr.wrds x hxm
        obtain ⟨gw, cw, hxv⟩ := wform hw1 hw2
        rw [hxv] at o2
        obtain ⟨gi, rfl⟩ := row_where hrow (by omega)
        have d1 : wr.cell? ⟨gi, pre.length, none⟩ = some (.bool (f x.1)) := row_cell (IsRf.row_kept hrow (fun k e => hBr.block k (hrow.lt k e).2)) (by simp [hfx _ _ hxi]) (by omega)
        have e1 : (((pre ++ [x]).length : Nat) : Int) = pre.length + 1 := by simp
        have hwl := (h.bnd x hxm).2.1
        have hfl : ((pre.map Prod.fst).filter f).length ≤ pre.length := by have := List.length_filter_le f (pre.map Prod.fst); simpa using this
        have hsum := sumO_filter_le (pre.map Prod.fst) f (fun o ho => hws o (by rw [hR]; simp at ho ⊢; left; exact ho))
        have hs63 : sumO ((pre.map Prod.fst).filter f) ≤ 1099512676352 := by
          have : (pre.map Prod.fst).length * 1048577 ≤ 1048576 * 1048577 := Nat.mul_le_mul_right _ (by simp; omega)
          omega
        have HR : Hid _ := hR
        obtain ⟨sm, hsm⟩ : ∃ sm, sumO ((pre.map Prod.fst).filter f) = sm := ⟨_, rfl⟩
        obtain ⟨fl, hfle⟩ : ∃ fl, ((pre.map Prod.fst).filter f).length = fl := ⟨_, rfl⟩
        have HS : Hid _ := And.intro hsm hfle
        rw [hsm] at hs63 ⊢
        rw [hfle] at hro hfl
        have hszr := hBr.size
        clear hR hsum hsm hfle hw1 hw2 hMe
        cases hfb : f x.1 with
        | true =>
          rw [hfb] at d1
          have HB : Hid _ := hfb
          clear hfb
          go_wp2_with (first
            | (at_builtin; refine wpList_append_own _ rfl _ _ 29 rfl w2.heap.size 2 i0 (.int .i64 0) 1 8 Tryz.underlying29 hi hz0 hz1 hz2 rfl (by decide) _ fl _ rfl (hro.alloc _) ⟨wr.heap.size, 0, none⟩ 1 1 [.int .i64 x.1.at_] rfl rfl (cell_one_new _ _ _) (by simp [Value.oneCell']) (by unfold maxLen; omega) (by omega) (by simp; omega) ?_; intro v4 w4 hown4 hgrow4 _; have hB4 : Below w2.heap.size w2 w4 := (hBr.alloc hBr.size _).trans (rbelow_grown hgrow4 (fun q e => (hro.lt q e).1) (by simp; omega)); have hw4 := h.below (hB.trans (hB4.mono hB.size)); have hcO4 := hw4.c2; obtain ⟨q0, q1, q2⟩ := hw4.elem hxi; rw [hxv] at q2))
          go_roundw
          case rel =>
            obtain ⟨rfl, rfl⟩ := HS.out
            have e3 : ((pre ++ [x]).map Prod.fst).filter f = (pre.map Prod.fst).filter f ++ [x.1] := by have := HB.out; simp [this]
            refine ⟨pre ++ [x], rest, by rw [e1], by have := HR.out; simpa using this, ?_, ?_, hB4⟩
            · rw [e3, sumO_snoc]; simp; omega
            · rw [e3, List.map_append, show ((pre.map Prod.fst).filter f ++ [x.1]).length = ((pre.map Prod.fst).filter f).length + 1 from List.length_append]
              exact hown4
          case measure => simp [intOf]; omega
        | false =>
          rw [hfb] at d1
          have HB : Hid _ := hfb
          clear hfb
          go_wp2
          go_roundw
          case rel =>
            obtain ⟨rfl, rfl⟩ := HS.out
            have e3 : ((pre ++ [x]).map Prod.fst).filter f = (pre.map Prod.fst).filter f := by have := HB.out; simp [this]
            refine ⟨pre ++ [x], rest, by rw [e1], by have := HR.out; simpa using this, ?_, ?_, hBr⟩
            · rw [e3]
            · rw [e3]; exact hro
          case measure => simp [intOf]; omega
  · have H1' : Calls Tryz.prog 24 #[.pointer (some ⟨br, 0, none⟩), .slice p vs.length c] w fun e w' => e = .returned (.bool false) ∧ Below w.heap.size w w' := by
      refine H1.mono ?_
      rintro e w' ⟨⟨hn, _⟩ | ⟨_, he⟩, hB⟩
      · exact (hmay hn).elim
      · exact ⟨he, hB⟩
    have HM : Hid _ := hmay
    clear H1 hmay
    go_enter Tryz.func8, Tryz.ntmps8
    go_wp2_with (first
      | (go_at_call 24; refine H1'.mono ?_; clear H1'; rintro e w1 ⟨rfl, hB1⟩))
    go_ret3
    exact ⟨hB1, .inl ⟨HM.out, rfl⟩⟩

end Go.Proofs.YtampilfebmfhaaaGreatDoor
