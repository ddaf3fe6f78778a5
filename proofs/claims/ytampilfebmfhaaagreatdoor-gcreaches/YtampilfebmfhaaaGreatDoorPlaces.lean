/- Places. -/
import Derived.Test.YtampilfebmfhaaaGreatDoorRev
import Derived.Maps.AppendAt
namespace Go.Proofs.YtampilfebmfhaaaGreatDoor
open Go.RowKit Go.Shelf

attribute [local go_sem] Oper.semAt_some

variable {n₀ bh b : Nat} {vw vb : Value} {w : World} {A : Ar}

theorem info2 : (Tryz.prog.info? 2).map (fun i => (i.zero, i.size, i.bytes)) = some (some (.int .i64 0), 1, 8) := by kernel_rfl

def pv (x : Nat) : Value := .int .i64 x

theorem row_mono {w : World} {base base' : Nat} {e : TypeId} {v : Value} {n : Nat} {xs : List Value} (h : w.ownsRow base e 1 v n xs) (hb : base' ≤ base) : w.ownsRow base' e 1 v n xs := by
  refine ⟨h.1, ?_⟩
  rcases h.2 with hn | ⟨g, cap, cur, hv, hg, rest⟩
  · exact .inl hn
  · exact .inr ⟨g, cap, cur, hv, Nat.le_trans hb hg, rest⟩

theorem boxed_appended {W w1 : World} {m₀ B : Nat} {t e : TypeId} {v v' : Value} {k m : Nat} {xs ys : List Value} {tmp : Obj}
    (hv : Boxed W B t v) (hrow : W.ownsRow m₀ e 1 v k xs) (hm₀ : m₀ ≤ W.heap.size) (hB : B < m₀)
    (hown' : w1.ownsRow m₀ e 1 v' m ys) (hgrow : (W.alloc tmp).grownBy w1 v.ownBlock) :
    Boxed w1 B t v ∧ Boxed (w1.setCell ⟨B, 0, none⟩ v') B t v' ∧ (w1.setCell ⟨B, 0, none⟩ v').ownsRow m₀ e 1 v' m ys ∧ KeepsOthers W (w1.setCell ⟨B, 0, none⟩ v') ∧
      (∀ q, q < m₀ → q ≠ B → (w1.setCell ⟨B, 0, none⟩ v').heap[q]? = W.heap[q]?) ∧ (w1.setCell ⟨B, 0, none⟩ v').os = W.os ∧ (w1.setCell ⟨B, 0, none⟩ v').tape = W.tape ∧ (w1.setCell ⟨B, 0, none⟩ v').output = W.output := by
  have hne : ∀ q, q < m₀ → some q ≠ v.ownBlock := fun q hq e => by have := (hrow.lt q e.symm).1; omega
  have hne' : ∀ q, q < m₀ → v'.ownBlock ≠ some q := fun q hq e => by have := (hown'.lt q e).1; omega
  have hv1 : Boxed w1 B t v := (hv.alloc tmp).kept hgrow (hne B hB)
  refine ⟨hv1, hv1.set v', hown'.kept (grownBy_setCell' w1 B v') (.inr (hne' B hB)), ?_, ?_, hgrow.os, hgrow.tape, hgrow.output⟩
  · refine ((KeepsOthers.alloc W tmp).trans (KeepsOthers.of_grownBy hgrow fun j o ej hj => ?_)).trans (KeepsOthers.setCell _ _ _)
    rcases (hrow.alloc tmp).2 with ⟨rfl, _⟩ | ⟨g, cap, cur, rfl, _, hgb, _⟩
    · simp [Value.ownBlock] at ej
    · obtain rfl : g = j := by simpa [Value.ownBlock] using ej
      rw [hgb] at hj; cases hj; rfl
  · intro q hq hqB
    rw [heap_setCell_other w1 ⟨B, 0, none⟩ q _ hqB, hgrow.block q (by simp; omega) (hne q hq)]
    exact Below.heap_alloc _ _ _ (by omega)

set_option maxRecDepth 100000 in
set_option maxHeartbeats 2000000 in
theorem places_in (h : IsHp n₀ bh b vw vb w A) (L : List Nat) (hL : BackOf A.ws A.last L) (hLl : L.length ≤ 1048576) :
    Calls Tryz.prog 30 #[.pointer (some ⟨bh, 0, none⟩)] w fun e W' => ∃ p c, e = .returned (.slice p L.length c) ∧
      W'.ownsRow w.heap.size 2 1 (.slice p L.length c) L.length (L.reverse.map pv) ∧ Below w.heap.size w W' := by
  obtain ⟨xs, rfl⟩ := fins (M := A.ws.length) L hL.lt
  have hth := there_in h
  have hc3 := cell_alloc_l (.cells #[.slice none 0 0] 29) h.ar.c3
  obtain ⟨i0, hi, hz0, hz1, hz2⟩ := info_parts info2
  refine (callsIn_wide (n := 3)).1 ?_
  have h1 : 1 ≤ 3 := by omega
  refine callsIn_of_wp_marks Tryz.func30 rfl trivial ?_ rfl
  simp only [Tryz.ntmps30, List.size_toArray, List.length_cons, List.length_nil, Nat.reduceAdd, Nat.reduceSub, Array.replicate_succ, Array.replicate_zero, List.push_toArray, List.append_toArray, List.nil_append, List.cons_append]
  gi_wp2_with (first
    | (refine ⟨trivial, ?_⟩; gi_at_call 125; refine (callsIn_wide.2 hth).mono ?_; clear hth; rintro e w' ⟨rfl, rfl⟩)
    | (refine ⟨trivial, ?_⟩; gi_at_call 127; refine (callsIn_wide.2 (back_in _ _)).mono ?_; rintro e w' ⟨rfl, rfl⟩))
  obtain ⟨w, hw⟩ : ∃ w, w = w' := ⟨_, rfl⟩
  subst hw
  have bO := Boxed.new w 29 (.slice none 0 0)
  have c1 := cell_new_l (w.alloc (.cells #[.slice none 0 0] 29)) (.pointer (some ⟨b, 0, none⟩)) 111
  have c2 := cell_new_l ((w.alloc (.cells #[.slice none 0 0] 29)).alloc (.cells #[.pointer (some ⟨b, 0, none⟩)] 111)) (.int .i64 (optI A.last)) 2
  simp only [World.size_alloc] at c1 c2
  have hB0 : Below w.heap.size w (((w.alloc (.cells #[.slice none 0 0] 29)).alloc (.cells #[.pointer (some ⟨b, 0, none⟩)] 111)).alloc (.cells #[.int .i64 (optI A.last)] 2)) :=
    (((Below.refl _ w).alloc (Nat.le_refl _) _).alloc (by simp) _).alloc (by simp; omega) _
  have hA0 := h.ar.below hB0
  have hbl := h.ar.lt
  have hvl := fun k e => (h.ar.rw.lt k e).2
  refine wpIn_rangeFunc_ownF rfl h1 (gf := 187) (lb := #[.pointer (some ⟨w.heap.size + 1 + 1, 0, none⟩), .pointer (some ⟨w.heap.size + 1, 0, none⟩)]) rfl trivial (enters_of Tryz.func187 (by kernel_rfl) rfl)
    (back1_stops 2 (w.heap.size + 1) (w.heap.size + 1 + 1) A.ws.length (by omega) A.last xs hL hA0.toW (by simp; omega) c2.1 (cell_alloc_l _ c1.1)) (fun h k => h.trans k) (fun W l o o' hl _ _ _ => KpW.putObj (S := w.heap.size + 1 + 1 + 1) (by omega) (fun k e => by have := hvl k e; omega) (by omega) (by omega) W l o' (by simpa using hl)) (Below.refl _ _) (fun _ => rfl)
    (fun pre W => (∃ v, Boxed W w.heap.size 29 v ∧ W.ownsRow (w.heap.size + 3) 2 1 v pre.length (pre.map (fun x => pv x.val)) ∧ True) ∧ (Below w.heap.size w W ∧ w.heap.size + 3 ≤ W.heap.size))
    (fun _ _ _ => False)
    (OwnFrom.and (Own.from (holdsRow_own (w.heap.size + 3) w.heap.size 29 2 1 (fun pre : List (Fin A.ws.length) => pre.length) (fun pre : List (Fin A.ws.length) => pre.map (fun x => pv x.val)) (fun _ _ => True)) _) (OwnFrom.and (ownFrom_below (Nat.le_refl _) (by simp; omega)) (fun s W W' row hs hg hr => Nat.le_trans hs hg.size)))
    (fun _ _ _ _ _ hs _ _ => hs)
    ⟨⟨_, (bO.alloc _).alloc _, World.ownsRow_nil _ _ _ _, trivial⟩, hB0, by simp⟩
    (fun x => { tmps := #[.pointer (some ⟨bh, 0, none⟩), undef, .slice none 0 0, .pointer (some ⟨b, 0, none⟩), .pointer (some ⟨w.heap.size, 0, none⟩), .int .i64 x.val, .pointer (some ⟨bh, 0, none⟩), .pointer (some ⟨b, 0, none⟩), .pointer (some ⟨b, 0, none⟩), .bool false, .pointer (some ⟨b, 0, none⟩), .pointer (some ⟨b, 0, none⟩), .pointer (some ⟨b, 0, none⟩), .pointer (some ⟨b, 3, none⟩), .int .i64 (optI A.last), .func (.func 187) #[] #[.pointer (some ⟨w.heap.size + 1 + 1, 0, none⟩), .pointer (some ⟨w.heap.size + 1, 0, none⟩)], .int .i64 x.val, undef, undef, undef, undef, undef, undef, undef], defers := [] }) ?assign ?body ?done ?stop
  case assign =>
    intro l x W K hK
    gi_wp2
    exact hK
  case body =>
    rintro l pre x W ⟨⟨v, hv, hrow, -⟩, hB, hsz⟩ hlt
    have hc := hv.cell
    have hpl : pre.length < 1048576 := by simp at hLl; omega
    gi_wp2_with (gi_at_builtin; refine wpListIn_append_own _ rfl _ _ 29 rfl (w.heap.size + 3) 2 i0 (.int .i64 0) 1 8 Tryz.underlying29 hi hz0 hz1 hz2 rfl (by decide) _ _ _ rfl (hrow.alloc _) ⟨W.heap.size, 0, none⟩ 1 1 [.int .i64 x.val] rfl rfl (cell_one_new _ _ _) (by simp [Value.oneCell']) (by unfold maxLen; omega) (by omega) (by simp; omega) ?_; intro v' w1 hown' hgrow _; obtain ⟨g', cap', rfl⟩ := ownsRow_succ hown'; obtain ⟨hv1, hv2, hr2, hk2, hb2, ho1, ho2, ho3⟩ := boxed_appended hv hrow hsz (by omega) hown' hgrow; have hc1 := hv1.cell; have hf1 := hv1.frozen)
    have hbw : Below w.heap.size W (w1.setCell ⟨w.heap.size, 0, none⟩ (.slice (some ⟨g', 0, none⟩) (pre.length + 1) cap')) := ⟨ho1, ho2, ho3, hk2.size, fun k hk => hb2 k (by omega) (by omega)⟩
    exact ⟨hk2, ⟨hb2 b (by omega) (by omega), fun k e => hb2 k (by have := hvl k e; omega) (by have := hvl k e; omega), hb2 _ (by omega) (by omega), hb2 _ (by omega) (by omega)⟩, ⟨_, hv2, by simpa [pv] using hr2, trivial⟩, hB.trans hbw, Nat.le_trans hsz hk2.size⟩
  case done =>
    rintro D ys W hD rfl ⟨⟨v, hv, hrow, -⟩, hB, hsz⟩ hK
    have hc := hv.cell
    obtain ⟨p, c, rfl, _, _⟩ := IsAr.row_form hrow
    have hrev := reverse_in (w.heap.size + 3) ys.length c p (ys.map (fun x => (x.val : Int))) W (by simpa [pv, iv, Function.comp_def] using hrow) (by simpa using hLl)
    gi_wp2_with (refine ⟨trivial, ?_⟩; gi_at_call 128; refine (callsIn_wide.2 hrev).mono ?_; clear hrev; rintro e W2 ⟨rfl, hrow2, hg2⟩
                 have hv2 := hv.kept hg2 (fun e => by have := (hrow.lt _ e.symm).1; omega)
                 have hc2 := hv2.cell)
    have hKW : W2.heap[D]? = some (.deferred (some [])) := (hg2.block D (Array.getElem?_eq_some_iff.1 hK).1 (fun e => by obtain ⟨cur, hcur⟩ := IsAr.row_type hrow e.symm; rw [hK] at hcur; cases hcur)).trans hK
    have hB2 : Below w.heap.size w W2 := hB.grown hg2 hB.size (fun k e => by have := (hrow.lt k e).1; omega)
    refine ⟨by simp, .inl ⟨_, _, rfl, run_takeDeferred hKW, ?_⟩⟩
    refine ⟨_, results_tmp rfl _ _ _, p, c, by simp, ?_, hB2.trans (belowK_b (w := w) (Nat.le_refl _) W2 D _ _ (by simp at hD; omega) hKW rfl rfl)⟩
    have hr3 := row_mono (ownsRow_putObj hrow2 (.deferred none) hKW rfl) (base' := w.heap.size) (by omega)
    simpa [pv, iv, Function.comp_def, List.map_reverse] using hr3
  case stop =>
    rintro D c pre W _ _ h _
    exact h.elim

end Go.Proofs.YtampilfebmfhaaaGreatDoor
