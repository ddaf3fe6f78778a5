/- The document's operations on values: its store; a text is made. -/
import Derived.Test.YtgokofomoachaaaGreatDoorPoRef
import Derived.Deep.RegionLaw
import Derived.Deep.AppendLies
namespace Go.Proofs.YtgokofomoachaaaGreatDoor
set_option linter.unusedVariables false
set_option linter.unusedSimpArgs false
open Go.RowKit

variable {w : World}

/-- The document's heap, whole. -/
structure Rh (base : Nat) (w : World) (H : Nat) (S : List Om) (p : Option Addr) (c : Nat) (ts : List Po) : Prop where
  at_ : RhAt w H p S.length c
  low : base ≤ H
  mp : ts.map Po.o = S
  row : w.ownsRow base 96 5 (.slice p S.length c) S.length (pcells ts)
  lst : ∀ x ∈ ts, ∃ q cq, x.lv = .slice q x.o.l.length cq ∧ (q = none → cq = 0) ∧ VT w q x.o.l

theorem Rh.below {base H : Nat} {S : List Om} {p : Option Addr} {c : Nat} {ts : List Po} (h : Rh base w H S p c ts) {w' : World} (hB : Below w.heap.size w w') : Rh base w' H S p c ts :=
  ⟨h.at_.below hB, h.low, h.mp, row_below h.row hB, fun x hx => by obtain ⟨q, cq, e, hq, hv⟩ := h.lst x hx; exact ⟨q, cq, e, hq, hv.below hB⟩⟩

theorem Rh.kept {base H : Nat} {S : List Om} {p : Option Addr} {c : Nat} {ts : List Po} (h : Rh base w H S p c ts) {w' : World} (hk : ∀ (k : Nat) (cur : Array Value) (T : TypeId), w.heap[k]? = some (.cells cur T (0, 0)) → (T = 96 ∨ T = 27 ∨ T = 106) → w'.heap[k]? = w.heap[k]?) : Rh base w' H S p c ts :=
  ⟨(hk H _ _ h.at_ (.inr (.inr rfl))).trans h.at_, h.low, h.mp, row_kept h.row (fun k e => by obtain ⟨cur, hc⟩ := row_obj h.row e; exact hk k cur _ hc (.inl rfl)), fun x hx => by
    obtain ⟨q, cq, e, hq, hv⟩ := h.lst x hx
    have hb : ∀ ad, q = some ad → w'.heap[ad.block]? = w.heap[ad.block]? := fun ad ea => by obtain ⟨cs, hcs⟩ := hv.2 ad ea; exact hk _ cs _ hcs (.inr (.inl rfl))
    exact ⟨q, cq, e, hq, hv.1.kept_at hb, fun ad ea => by rw [hb ad ea]; exact hv.2 ad ea⟩⟩

theorem Rh.isSt {base H : Nat} {S : List Om} {p : Option Addr} {c : Nat} {ts : List Po} (h : Rh base w H S p c ts) : IsSt w p S := by
  have hl : ts.length = S.length := by rw [← h.mp]; simp
  obtain ⟨p', c', hv, hp, hg, -⟩ := own_slice h.row
  cases hv
  intro j o hj
  rw [← h.mp, List.getElem?_map] at hj
  cases hx : ts[j]? with
  | none => rw [hx] at hj; simp at hj
  | some x =>
    rw [hx] at hj; simp at hj; subst hj
    have hlt := (List.getElem?_eq_some_iff.1 hx).1
    obtain ⟨g, rfl⟩ := hg (by omega)
    obtain ⟨q, cq, hq, hqn, hvq⟩ := h.lst x (List.mem_of_getElem? hx)
    have hgt := pcells_get ts j x hx
    refine ⟨g, 0, rfl, ?_, ?_, ⟨q, cq, ?_, hvq.1, hqn⟩, ?_, ?_⟩
    · rw [h.row.cellAt _ (by omega)]; have := hgt 0 (by omega); simpa [pcell] using this
    · rw [h.row.cellAt _ (by omega), Nat.zero_add, hgt 1 (by omega)]; rfl
    · rw [h.row.cellAt _ (by omega), Nat.zero_add, hgt 2 (by omega)]; simp [pcell, hq]
    · rw [h.row.cellAt _ (by omega), Nat.zero_add, hgt 3 (by omega)]; rfl
    · rw [h.row.cellAt _ (by omega), Nat.zero_add, hgt 4 (by omega)]; rfl

theorem ownsRow_less {w : World} {base e k n g c : Nat} {xs ys : List Value} (h : w.ownsRow base e k (.slice (some ⟨g, 0, none⟩) (n + 1) c) (n + 1) (xs ++ ys)) (hx : xs.length = n * k) : w.ownsRow base e k (.slice (some ⟨g, 0, none⟩) n c) n xs := by
  rcases h.2 with ⟨e, -⟩ | ⟨g', cap, cur, e, hb, hg, hnc, hm, hsz, ht⟩
  · cases e
  · cases e
    refine ⟨hx, .inr ⟨g, c, cur, rfl, hb, hg, by omega, hm, hsz, ?_⟩⟩
    have : (cur.toList.take ((n + 1) * k)).take (n * k) = xs := by rw [ht, ← hx, List.take_left']; rfl
    rw [List.take_take, Nat.min_eq_left (Nat.mul_le_mul_right k (by omega))] at this
    exact this

def poOf (x : Ot) : Po := ⟨x.o, .slice (some ⟨x.g, 0, none⟩) x.o.l.length x.c⟩

theorem pcells_of : ∀ (ts : List Ot), pcells (ts.map poOf) = ocells ts
  | [] => rfl
  | x :: r => by
    show pcell (poOf x) ++ pcells (r.map poOf) = ocell x ++ ocells r
    rw [pcells_of r]; rfl

theorem twin_rh {base G C H : Nat} {ts : List Ot} {S : List Om} (h : TwinSt base G C ts w) (hm : ts.map Ot.o = S) (hH : RhAt w H (some ⟨G, 0, none⟩) S.length C) (hl : base ≤ H) : Rh base w H S (some ⟨G, 0, none⟩) C (ts.map poOf) := by
  have hn : ts.length = S.length := by rw [← hm]; simp
  refine ⟨hH, hl, by rw [List.map_map]; exact hm, ?_, ?_⟩
  · have := ownsRow_less h.row (by rw [ocells_len])
    rw [pcells_of, ← hn]
    exact this
  · intro x hx
    rw [List.mem_map] at hx
    obtain ⟨y, hy, rfl⟩ := hx
    exact ⟨_, _, rfl, (fun e => by cases e), (h.vals y hy).vals, (fun ad e => by cases e; exact (h.vals y hy).obj)⟩

set_option maxHeartbeats 1000000 in
theorem heap_in {p : Option Addr} {S : List Om} (c : Nat) (hs : IsSt w p S) (hlen : S.length ≤ 1048576) (hls : ∀ o ∈ S, o.l.length ≤ 1000000) :
    Calls Tryz.prog 12 #[.slice p S.length c] w fun e w' => ∃ H p' c' ts, e = .returned (.pointer (some ⟨H, 0, none⟩)) ∧ Rh w.heap.size w' H S p' c' ts ∧ Below w.heap.size w w' := by
  have HT := twinStore_in c hs hlen hls
  go_enter Tryz.func12, Tryz.ntmps12
  go_wp2_with (first
    | (go_at_call 10; (with_reducible refine HT.mono ?_); clear HT; rintro e w1 ⟨G, C, rfl, ts, hm, htw, hB⟩))
  go_ret
  have hBA := below1 w1 (.cells #[.slice (some ⟨G, 0, none⟩) S.length C] 106)
  exact ⟨w1.heap.size, _, C, _, rfl, twin_rh (htw.below hBA) hm (heap_alloc_new w1 _) hB.size, hB.trans (hBA.mono hB.size)⟩

set_option maxHeartbeats 1000000 in
theorem Size_txt (t : ByteArray) (w : World) (ht : t.size ≤ 4096) : Calls Tryz.prog 179 #[.agg #[.int .u8 3, .string t, .slice none 0 0, .int .i64 0, .int .i64 0]] w fun e w' => e = .returned (.int .i64 (wordsO (txtO t) : Nat)) ∧ Below w.heap.size w w' := by
  obtain ⟨⟨x0, x1, x2, x3, x4⟩, -⟩ := cell_row5 (heap_alloc_new w (.cells #[.int .u8 3, .string t, .slice none 0 0, .int .i64 0, .int .i64 0] 96))
  have hw : (wordsO (txtO t) : Nat) = 2 + (t.size + 7) / 8 := by
    unfold wordsO
    rw [if_pos (show (txtO t).k = 3 from rfl)]
    rfl
  rw [hw]
  have e : (((2 + (t.size + 7) / 8 : Nat)) : Int) = 2 + ((t.size : Int) + 7) / 8 := by omega
  rw [e]
  have h0 : (0 : Int) ≤ (t.size : Int) := by omega
  have h1 : (t.size : Int) ≤ 4096 := by omega
  clear hw e
  go_enter Tryz.func179, Tryz.ntmps179
  go_wp2
  go_ret
  exact ⟨rfl, below1 _ _⟩

set_option maxRecDepth 20000 in
set_option maxHeartbeats 4000000 in
theorem made_txt {base H : Nat} {S : List Om} {p : Option Addr} {c : Nat} {ts : List Po} (hR : Rh base w H S p c ts) (hbw : base ≤ w.heap.size) (hSl : S.length ≤ 1048576) (t : ByteArray) (ht : t.size ≤ 4096) :
    Calls Tryz.prog 68 #[.pointer (some ⟨H, 0, none⟩), .agg #[.int .u8 3, .string t, .slice none 0 0, .int .i64 0, .int .i64 0], .bool false] w fun e w' => e = .returned (.agg #[.int .u8 3, .int .i64 ((S.length : Int) + 1), .string ⟨#[]⟩, .int .i64 (wordsO (txtO t) : Nat)]) ∧ (∃ p' c' ts', Rh base w' H (S ++ [txtO t]) p' c' ts') ∧ Below base w w' ∧ ∀ (k : Nat) (cur : Array Value), k < w.heap.size → w.heap[k]? = some (.cells cur 38 (0, 0)) → w'.heap[k]? = w.heap[k]? := by
  have hB := below2' w (.cells #[.int .u8 3, .string t, .slice none 0 0, .int .i64 0, .int .i64 0] 96) (.cells #[.int .u8 0, .int .i64 0, .string ⟨#[]⟩, .int .i64 0] 38)
  have e0 := (Below.heap_alloc _ (.cells #[.int .u8 0, .int .i64 0, .string ⟨#[]⟩, .int .i64 0] 38) w.heap.size (by simp)).trans (heap_alloc_new w (.cells #[.int .u8 3, .string t, .slice none 0 0, .int .i64 0, .int .i64 0] 96))
  have e1 := heap_two w (.cells #[.int .u8 3, .string t, .slice none 0 0, .int .i64 0, .int .i64 0] 96) (.cells #[.int .u8 0, .int .i64 0, .string ⟨#[]⟩, .int .i64 0] 38)
  have HS := Size_txt t ((w.alloc (.cells #[.int .u8 3, .string t, .slice none 0 0, .int .i64 0, .int .i64 0] 96)).alloc (.cells #[.int .u8 0, .int .i64 0, .string ⟨#[]⟩, .int .i64 0] 38)) ht
  obtain ⟨⟨x0, x1, x2, x3, x4⟩, -⟩ := cell_row5 e0
  obtain ⟨i0, hi, hz0, hz1, hz2⟩ := info_parts infoO5
  have hHlt := (Array.getElem?_eq_some_iff.1 hR.at_).1
  have hlt0 := fun g e => hR.row.lt g e
  generalize (wordsO (txtO t) : Nat) = wo at HS ⊢
  go_enter Tryz.func68, Tryz.ntmps68
  go_wp2_with (first
    | (go_at_call 179; (with_reducible refine HS.mono ?_); clear HS; rintro e w1 ⟨rfl, hB1⟩; refine halt_here ?_))
  unfold Halted
  have hBw := hB.trans (hB1.mono hB.size)
  have hBb : Below base w w1 := hBw.mono hbw
  have f0 := (hB1.block _ (Array.getElem?_eq_some_iff.1 e0).1).trans e0
  have f1 := (hB1.block _ (Array.getElem?_eq_some_iff.1 e1).1).trans e1
  have hR1 := hR.below hBw
  have hsz : w.heap.size + 2 ≤ w1.heap.size := by have := hB1.size; simp at this; omega
  clear x0 x1 x2 x3 x4 e0 e1 hR
  obtain ⟨⟨x0, x1, x2, x3, x4⟩, -⟩ := cell_row5 f0
  go_upto_region 4 with fail
  have hBX := below1 w1 (.cells #[.int .u8 3, .string t, .slice none 0 0, .int .i64 0, .int .i64 0] 96)
  have hcH := hR1.at_.cell
  have hcX := (hR1.at_.below hBX).cell
  obtain ⟨⟨u0, u1, u2, u3, u4⟩, -⟩ := cell_row5 ((hBX.block _ (Array.getElem?_eq_some_iff.1 f0).1).trans f0)
  have hrowX := row_below hR1.row hBX
  have hnews := pcell_news (x := ⟨txtO t, .slice none 0 0⟩) (heap_alloc_new w1 (.cells #[.int .u8 3, .string t, .slice none 0 0, .int .i64 0, .int .i64 0] 96))
  have hgne : ∀ g, (Value.slice p S.length c).ownBlock = some g → base ≤ g ∧ g < w.heap.size ∧ g ≠ H := fun g e => by
    obtain ⟨cur, hcur⟩ := row_obj hR1.row e
    exact ⟨(hlt0 g e).1, (hlt0 g e).2, fun e2 => by subst e2; rw [hR1.at_] at hcur; cases hcur⟩
  have HK : ∀ w4, (w1.alloc (.cells #[.int .u8 3, .string t, .slice none 0 0, .int .i64 0, .int .i64 0] 96)).drew.grownBy w4 (Value.slice p S.length c).ownBlock → ∀ k, k < w1.heap.size + 1 → (Value.slice p S.length c).ownBlock ≠ some k → w4.heap[k]? = (w1.alloc (.cells #[.int .u8 3, .string t, .slice none 0 0, .int .i64 0, .int .i64 0] 96)).heap[k]? := fun w4 hg k hk hne => hg.block k (by show k < (w1.alloc (.cells #[.int .u8 3, .string t, .slice none 0 0, .int .i64 0, .int .i64 0] 96)).heap.size; simpa using hk) (fun e => hne e.symm)
  have HK4 : ∀ w4, (w1.alloc (.cells #[.int .u8 3, .string t, .slice none 0 0, .int .i64 0, .int .i64 0] 96)).drew.grownBy w4 (Value.slice p S.length c).ownBlock → w4.cell? ⟨H, 0, none⟩ = some (.slice p S.length c) ∧ w4.frozen? ⟨H, 0, none⟩ = false := fun w4 hg => by
    have h1 : w4.heap[H]? = _ := (HK w4 hg H (by omega) (fun e => (hgne H e).2.2 rfl)).trans (hR1.at_.below hBX)
    exact ⟨by rw [cell_of_row w4 H 0 _ _ _ h1]; rfl, frozen_of_row w4 H 0 _ _ h1⟩
  have hrowd : (w1.alloc (.cells #[.int .u8 3, .string t, .slice none 0 0, .int .i64 0, .int .i64 0] 96)).drew.ownsRow base 96 5 (.slice p S.length c) S.length (pcells ts) := row_kept hrowX (fun _ _ => rfl)
  have hnewd : ∀ j u, (pcell ⟨txtO t, .slice none 0 0⟩)[j]? = some u → (w1.alloc (.cells #[.int .u8 3, .string t, .slice none 0 0, .int .i64 0, .int .i64 0] 96)).drew.cell? ((⟨w1.heap.size, 0, none⟩ : Addr).add j) = some u := fun j u hj => hnews j u hj
  have hbd : base ≤ (w1.alloc (.cells #[.int .u8 3, .string t, .slice none 0 0, .int .i64 0, .int .i64 0] 96)).drew.heap.size := by show base ≤ (w1.alloc (.cells #[.int .u8 3, .string t, .slice none 0 0, .int .i64 0, .int .i64 0] 96)).heap.size; simp; omega
  have HH : Hid _ := And.intro hR1 (And.intro hgne (And.intro hbw (And.intro hHlt (And.intro hBb hBw))))
  have HF01 : Hid _ := And.intro f0 f1
  clear hR1 hgne hlt0 hrowX hnews f0 f1 hB hB1 hBw hBb
  go_cut [7] from 13 (fun s7 W2 => s7 = .int .i64 wo ∧ ∃ w4 g4 c4, W2 = w4.setCell ⟨H, 0, none⟩ (.slice (some ⟨g4, 0, none⟩) (S.length + 1) c4) ∧ w4.ownsRow base 96 5 (.slice (some ⟨g4, 0, none⟩) (S.length + 1) c4) (S.length + 1) (pcells ts ++ pcell ⟨txtO t, .slice none 0 0⟩) ∧ (w1.alloc (.cells #[.int .u8 3, .string t, .slice none 0 0, .int .i64 0, .int .i64 0] 96)).drew.grownBy w4 (Value.slice p S.length c).ownBlock ∧ ((Value.slice p S.length c).ownBlock = some g4 ∨ g4 = w1.heap.size + 1))
  case first =>
    go_region_law (first
      | (refine step_append_lies _ (by rfl) _ _ _ (by rfl) base 96 i0 (.agg #[.int .u8 0, .string ⟨#[]⟩, .slice none 0 0, .int .i64 0, .int .i64 0]) 5 64 Tryz.underlying23 hi hz0 hz1 hz2 rfl (by omega) (.slice p S.length c) S.length (pcells ts) (by rfl) hrowd ⟨w1.heap.size, 0, none⟩ 1 1 (pcell ⟨txtO t, .slice none 0 0⟩) (by rfl) rfl hnewd (pcell_one _ _) (by omega) (by unfold maxLen; omega) (by omega) hbd (w1.heap.size + 1) (by show (w1.alloc (.cells #[.int .u8 3, .string t, .slice none 0 0, .int .i64 0, .int .i64 0] 96)).heap.size = _; simp) ?_; intro g4 c4 w4 ho4 hg4 hat4 hlt4; obtain ⟨k0, k1⟩ := HK4 w4 hg4))
    all_goals
      go_wp2_with fail
      go_meet
      case rel => exact ⟨rfl, w4, g4, c4, rfl, ho4, hg4, hat4⟩
  case rest =>
    obtain ⟨rfl, w4, g4, c4, rfl, ho4, hg4, hat4⟩ := hcut
    obtain ⟨hR1, hgne, hbw, hHlt, hBb, hBW1⟩ := HH.out
    obtain ⟨f0, f1⟩ := HF01.out
    have h4 := HK w4 hg4
    have hbx : ∀ k, k < w1.heap.size + 1 → k ≠ H → (Value.slice p S.length c).ownBlock ≠ some k → (w4.setCell ⟨H, 0, none⟩ (.slice (some ⟨g4, 0, none⟩) (S.length + 1) c4)).heap[k]? = (w1.alloc (.cells #[.int .u8 3, .string t, .slice none 0 0, .int .i64 0, .int .i64 0] 96)).heap[k]? := fun k hk hne ho => (heap_setCell_other w4 ⟨H, 0, none⟩ k _ hne).trans (h4 k hk ho)
    have F0 := (hbx w.heap.size (by omega) (by omega) (fun e => by have := (hgne _ e).2.1; omega)).trans ((hBX.block _ (Array.getElem?_eq_some_iff.1 f0).1).trans f0)
    have F1 := (hbx (w.heap.size + 1) (by omega) (by omega) (fun e => by have := (hgne _ e).2.1; omega)).trans ((hBX.block _ (Array.getElem?_eq_some_iff.1 f1).1).trans f1)
    have hH4 : w4.heap[H]? = some (.cells #[.slice p S.length c] 106 (0, 0)) := (h4 H (by omega) (fun e => (hgne H e).2.2 rfl)).trans (hR1.at_.below hBX)
    have hH5 : RhAt (w4.setCell ⟨H, 0, none⟩ (.slice (some ⟨g4, 0, none⟩) (S.length + 1) c4)) H (some ⟨g4, 0, none⟩) (S.length + 1) c4 := by
      have := heap_setCell_same w4 H 0 _ _ (.slice (some ⟨g4, 0, none⟩) (S.length + 1) c4) hH4
      simpa [RhAt] using this
    have hg4H : g4 ≠ H := fun e => by
      obtain ⟨cur, hcur⟩ := row_obj ho4 (k := g4) rfl
      rw [e, hH4] at hcur; cases hcur
    have hrow5 : (w4.setCell ⟨H, 0, none⟩ (.slice (some ⟨g4, 0, none⟩) (S.length + 1) c4)).ownsRow base 96 5 (.slice (some ⟨g4, 0, none⟩) (S.length + 1) c4) (S.length + 1) (pcells ts ++ pcell ⟨txtO t, .slice none 0 0⟩) := row_kept ho4 (fun k e => by cases e; exact heap_setCell_other w4 ⟨H, 0, none⟩ _ _ hg4H)
    have hR5 : Rh base (w4.setCell ⟨H, 0, none⟩ (.slice (some ⟨g4, 0, none⟩) (S.length + 1) c4)) H (S ++ [txtO t]) (some ⟨g4, 0, none⟩) c4 (ts ++ [⟨txtO t, .slice none 0 0⟩]) := by
      refine ⟨by simpa using hH5, hR1.low, by simp [hR1.mp], ?_, ?_⟩
      · rw [pcells_append]
        simpa [pcells] using hrow5
      · intro x hx
        rcases List.mem_append.1 hx with hx | hx
        · obtain ⟨q, cq, e, hq, hvt⟩ := hR1.lst x hx
          refine ⟨q, cq, e, hq, ?_⟩
          have hk : ∀ ad, q = some ad → (w4.setCell ⟨H, 0, none⟩ (.slice (some ⟨g4, 0, none⟩) (S.length + 1) c4)).heap[ad.block]? = w1.heap[ad.block]? := fun ad ea => by
            obtain ⟨cs, hcs⟩ := hvt.2 ad ea
            have hlt := (Array.getElem?_eq_some_iff.1 hcs).1
            rw [hbx ad.block (by omega) (fun e2 => by rw [e2, hR1.at_] at hcs; cases hcs) (fun e2 => by obtain ⟨cur, hcur⟩ := row_obj hR1.row e2; rw [hcs] at hcur; cases hcur)]
            exact hBX.block _ hlt
          exact ⟨hvt.1.kept_at hk, fun ad ea => by rw [hk ad ea]; exact hvt.2 ad ea⟩
        · simp at hx; subst hx
          exact ⟨none, 0, rfl, fun _ => rfl, VT.none _⟩
    have hB5 : Below base w (w4.setCell ⟨H, 0, none⟩ (.slice (some ⟨g4, 0, none⟩) (S.length + 1) c4)) := by
      have hBX' : Below base w (w1.alloc (.cells #[.int .u8 3, .string t, .slice none 0 0, .int .i64 0, .int .i64 0] 96)).drew := below_drew (hBb.trans (hBX.mono (by omega)))
      exact below_set (hBX'.trans (rbelow_grown hg4 (fun k e => (hgne k e).1) hbd)) hR1.low _
    have hfr : ∀ (k : Nat) (cur : Array Value), k < w.heap.size → w.heap[k]? = some (.cells cur 38 (0, 0)) → (w4.setCell ⟨H, 0, none⟩ (.slice (some ⟨g4, 0, none⟩) (S.length + 1) c4)).heap[k]? = w.heap[k]? := fun k cur hk hc => by
      have hc1 : w1.heap[k]? = _ := (hBW1.block k hk).trans hc
      rw [hbx k (by omega) (fun e2 => by rw [e2, hR1.at_] at hc1; cases hc1) (fun e2 => by obtain ⟨cur', hcur⟩ := row_obj hR1.row e2; rw [hc1] at hcur; cases hcur)]
      exact (hBX.block _ (by omega)).trans (hBW1.block k hk)
    generalize w4.setCell ⟨H, 0, none⟩ (.slice (some ⟨g4, 0, none⟩) (S.length + 1) c4) = W5 at *
    clear hcX hcH u0 u1 u2 u3 u4 x0 x1 x2 x3 x4 HK HK4 hrowd hnewd hbx h4 hH4 hrow5 ho4 hg4 hat4 HH HF01 hgne
    obtain ⟨⟨x0, x1, x2, x3, x4⟩, -⟩ := cell_row5 F0
    obtain ⟨⟨z0, z1, z2, z3⟩, y0, y1, y2, y3⟩ := cell_row4D F1
    have hc5 := hH5.cell
    have HFIN : Hid _ := And.intro hR5 (And.intro hB5 hfr)
    clear hR5 hB5 hfr
    go_wp2_with fail
    go_region
    go_wp2
    refine bodyPost_ret (results_cell_row (by rfl) _ _ (w.heap.size + 1) 38 _ _ _ (by rfl) (show _ from set4_rowD F1) Tryz.underlying38 (by rfl) infoRd) (by rfl) ?_
    have hk5 : ∀ (k : Nat) (cur : Array Value) (T : TypeId), W5.heap[k]? = some (.cells cur T (0, 0)) → (T = 96 ∨ T = 27 ∨ T = 106) → ((((W5.setCell ⟨w.heap.size + 1, 0, none⟩ (.int .u8 3)).setCell ⟨w.heap.size + 1, 1, none⟩ (.int .i64 ((S.length : Int) + 1))).setCell ⟨w.heap.size + 1, 2, none⟩ (.string ⟨#[]⟩)).setCell ⟨w.heap.size + 1, 3, none⟩ (.int .i64 wo)).drew.heap[k]? = W5.heap[k]? := fun k cur T h1 h2 => by
      have hne : k ≠ w.heap.size + 1 := fun e => by
        rw [e, F1] at h1
        cases h1
        rcases h2 with h | h | h <;> cases h
      show ((((W5.setCell ⟨w.heap.size + 1, 0, none⟩ _).setCell ⟨w.heap.size + 1, 1, none⟩ _).setCell ⟨w.heap.size + 1, 2, none⟩ _).setCell ⟨w.heap.size + 1, 3, none⟩ _).heap[k]? = _
      rw [heap_setCell_other _ ⟨w.heap.size + 1, 3, none⟩ _ _ hne, heap_setCell_other _ ⟨w.heap.size + 1, 2, none⟩ _ _ hne, heap_setCell_other _ ⟨w.heap.size + 1, 1, none⟩ _ _ hne, heap_setCell_other _ ⟨w.heap.size + 1, 0, none⟩ _ _ hne]
    refine ⟨rfl, ⟨_, _, _, HFIN.out.1.kept hk5⟩, below_drew (below_set4 HFIN.out.2.1 (by omega) _ _ _ _), fun k cur hk hc => ?_⟩
    have hne : k ≠ w.heap.size + 1 := by omega
    show ((((W5.setCell ⟨w.heap.size + 1, 0, none⟩ _).setCell ⟨w.heap.size + 1, 1, none⟩ _).setCell ⟨w.heap.size + 1, 2, none⟩ _).setCell ⟨w.heap.size + 1, 3, none⟩ _).heap[k]? = _
    rw [heap_setCell_other _ ⟨w.heap.size + 1, 3, none⟩ _ _ hne, heap_setCell_other _ ⟨w.heap.size + 1, 2, none⟩ _ _ hne, heap_setCell_other _ ⟨w.heap.size + 1, 1, none⟩ _ _ hne, heap_setCell_other _ ⟨w.heap.size + 1, 0, none⟩ _ _ hne]
    exact HFIN.out.2.2 k cur hk hc

/-- Four cells of a Did are set: the heap stays. -/
theorem Rh.set4 {base H r : Nat} {S : List Om} {p : Option Addr} {c : Nat} {ts : List Po} {W : World} {a0 a1 a2 a3 : Value} (h : Rh base W H S p c ts) (hr : W.heap[r]? = some (.cells #[a0, a1, a2, a3] 38 (0, 0))) (x0 x1 x2 x3 : Value) : Rh base ((((W.setCell ⟨r, 0, none⟩ x0).setCell ⟨r, 1, none⟩ x1).setCell ⟨r, 2, none⟩ x2).setCell ⟨r, 3, none⟩ x3) H S p c ts :=
  h.kept (fun k cur T h1 h2 => by
    have hne : k ≠ r := fun e => by
      rw [e, hr] at h1
      cases h1
      rcases h2 with h | h | h <;> cases h
    rw [heap_setCell_other _ ⟨r, 3, none⟩ _ _ hne, heap_setCell_other _ ⟨r, 2, none⟩ _ _ hne, heap_setCell_other _ ⟨r, 1, none⟩ _ _ hne, heap_setCell_other _ ⟨r, 0, none⟩ _ _ hne])

set_option maxRecDepth 20000 in
set_option maxHeartbeats 1000000 in
theorem rText_far (H : Nat) (t : ByteArray) (ht : 4096 < t.size) (w : World) : Calls Tryz.prog 25 #[.pointer (some ⟨H, 0, none⟩), .string t, .bool false] w (RdR w { t := tGreat }) := by
  have hB := below1 w (.cells #[.int .u8 0, .int .i64 0, .string ⟨#[]⟩, .int .i64 0] 38)
  have hb := heap_alloc_new w (.cells #[.int .u8 0, .int .i64 0, .string ⟨#[]⟩, .int .i64 0] 38)
  obtain ⟨d, hd⟩ : ∃ d : Rd, d = { t := tGreat } := ⟨_, rfl⟩
  rw [← hd]
  have H1 := thrown_in tGreat (w.alloc (.cells #[.int .u8 0, .int .i64 0, .string ⟨#[]⟩, .int .i64 0] 38)) hd
  unfold tGreat at H1
  have ht' : (4096 : Int) < (t.size : Int) := by omega
  clear hd
  go_enter Tryz.func25, Tryz.ntmps25
  go_wp2_with (first
    | (go_at_call 55; (with_reducible refine H1.mono ?_); clear H1; rintro e w1 ⟨rfl, hB1⟩; have hr := (hB1.block _ (Array.getElem?_eq_some_iff.1 hb).1).trans hb; obtain ⟨⟨z0, z1, z2, z3⟩, y0, y1, y2, y3⟩ := cell_row4D hr))
  refine bodyPost_ret (results_cell_row (by rfl) _ _ (w.heap.size) 38 _ _ _ (by rfl) (set4_rowD hr) Tryz.underlying38 (by rfl) infoRd) (by rfl) ?_
  exact ⟨rfl, below_set4 (hB.trans (hB1.mono hB.size)) (by omega) _ _ _ _⟩

set_option maxRecDepth 20000 in
set_option maxHeartbeats 1000000 in
theorem rText_ok {base H : Nat} {S : List Om} {p : Option Addr} {c : Nat} {ts : List Po} (hR : Rh base w H S p c ts) (hbw : base ≤ w.heap.size) (hSl : S.length ≤ 1048576) (t : ByteArray) (ht : t.size ≤ 4096) :
    Calls Tryz.prog 25 #[.pointer (some ⟨H, 0, none⟩), .string t, .bool false] w fun e w' => e = .returned (.agg #[.int .u8 3, .int .i64 ((S.length : Int) + 1), .string ⟨#[]⟩, .int .i64 (wordsO (txtO t) : Nat)]) ∧ (∃ p' c' ts', Rh base w' H (S ++ [txtO t]) p' c' ts') ∧ Below base w w' ∧ ∀ (k : Nat) (cur : Array Value), k < w.heap.size → w.heap[k]? = some (.cells cur 38 (0, 0)) → w'.heap[k]? = w.heap[k]? := by
  have hB := below1 w (.cells #[.int .u8 0, .int .i64 0, .string ⟨#[]⟩, .int .i64 0] 38)
  have hb := heap_alloc_new w (.cells #[.int .u8 0, .int .i64 0, .string ⟨#[]⟩, .int .i64 0] 38)
  have hbs : base ≤ (w.alloc (.cells #[.int .u8 0, .int .i64 0, .string ⟨#[]⟩, .int .i64 0] 38)).heap.size := by simp; omega
  have H1 := made_txt (hR.below hB) hbs hSl t ht
  have hHlt := (Array.getElem?_eq_some_iff.1 hR.at_).1
  have ht' : ¬ ((4096 : Int) < (t.size : Int)) := by omega
  generalize (wordsO (txtO t) : Nat) = wo at H1 ⊢
  clear hR
  go_enter Tryz.func25, Tryz.ntmps25
  go_wp2_with (first
    | (go_at_call 68; (with_reducible refine H1.mono ?_); clear H1; rintro e w1 ⟨rfl, hR1, hB1, hfr⟩; have hr := (hfr w.heap.size _ (by simp) hb).trans hb; obtain ⟨⟨z0, z1, z2, z3⟩, y0, y1, y2, y3⟩ := cell_row4D hr))
  refine bodyPost_ret (results_cell_row (by rfl) _ _ (w.heap.size) 38 _ _ _ (by rfl) (set4_rowD hr) Tryz.underlying38 (by rfl) infoRd) (by rfl) ?_
  obtain ⟨p', c', ts', hR1⟩ := hR1
  refine ⟨rfl, ⟨p', c', ts', hR1.set4 hr _ _ _ _⟩, below_set4 ((hB.mono hbw).trans hB1) (by omega) _ _ _ _, fun k cur hk hc => ?_⟩
  have hne : k ≠ w.heap.size := by omega
  rw [heap_setCell_other _ ⟨w.heap.size, 3, none⟩ _ _ hne, heap_setCell_other _ ⟨w.heap.size, 2, none⟩ _ _ hne, heap_setCell_other _ ⟨w.heap.size, 1, none⟩ _ _ hne, heap_setCell_other _ ⟨w.heap.size, 0, none⟩ _ _ hne]
  exact (hfr k cur (by simp; omega) ((hB.block k hk).trans hc)).trans (hB.block k hk)


end Go.Proofs.YtgokofomoachaaaGreatDoor
