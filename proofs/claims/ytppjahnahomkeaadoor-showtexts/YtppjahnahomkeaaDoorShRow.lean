/- show's page.row; a value put behind, so deep within others. -/
import Derived.Test.YtppjahnahomkeaaDoorShPairs
namespace Go.Proofs.YtppjahnahomkeaaDoor
set_option linter.unusedVariables false
set_option linter.unusedSimpArgs false
open Go.RowKit

variable {w : World}

section
variable {w0 : World} {bp c : Nat} {p : Option Addr} {S : List Om} {d : Int} {g : Vl → List UInt8}

set_option maxHeartbeats 1000000 in
theorem row_dots (hd : 8 < d) : RowC w0 bp c p S d (fun _ => [46, 46]) := by
  intro w l o qo co hoS hk hv hB hp hl
  unfold objV
  have hA := below1 w (.cells #[.int .u8 o.k, .string o.s, .slice qo o.l.length co, .int .i64 o.room, .int .i64 o.fn] 39)
  have hsz := hB.size
  have hn : w0.heap.size ≤ (w.alloc (.cells #[.int .u8 o.k, .string o.s, .slice qo o.l.length co, .int .i64 o.room, .int .i64 o.fn] 39)).heap.size := by simp; omega
  have H := put_in (hp.below hA) hn ⟨#[46, 46]⟩ hl (by decide)
  have hPA := PStep.of_below (bp := bp) hA hsz
  go_enter Tryd.func38, Tryd.ntmps38
  go_wp2_with (first
    | (go_at_call 34; refine H.mono ?_; clear H; rintro e w2 ⟨b, rfl, h1, h2, h3⟩))
  go_ret
  exact ⟨b, rfl, hPA.trans h1, h2, h3⟩

set_option maxRecDepth 20000 in
set_option maxHeartbeats 4000000 in
theorem row_of (G : Given w0 p S) (hll : ∀ o ∈ S, o.l.length ≤ 1048576) (hd0 : 0 ≤ d) (hd : d ≤ 8) (HV : ValueC w0 bp c p S (d + 1) g) : RowC w0 bp c p S d (rowT g) := by
  intro w l o qo co hoS hk hv hB hp hl
  unfold objV
  have hsz := hB.size
  have hd' : ¬ (8 < d) := by omega
  have hfo := (G.fit o hoS).2.1
  have hvl := hll o hoS
  rcases hk with hk | hk
  · have e1 : rowT g o = [91] ++ (itemsT g o.l ++ [93]) := by unfold rowT; simp [hk]
    have E1 : Hid _ := e1
    rw [hk]
    clear e1 hk
    have hA := below1 w (.cells #[.int .u8 4, .string o.s, .slice qo o.l.length co, .int .i64 o.room, .int .i64 o.fn] 39)
    have hA1 := heap_alloc_new w (.cells #[.int .u8 4, .string o.s, .slice qo o.l.length co, .int .i64 o.room, .int .i64 o.fn] 39)
    have hn : w0.heap.size ≤ (w.alloc (.cells #[.int .u8 4, .string o.s, .slice qo o.l.length co, .int .i64 o.room, .int .i64 o.fn] 39)).heap.size := by simp; omega
    have hBA := hB.trans (hA.mono hsz)
    have hPA := hp.below hA
    have hSA : PStep w0.heap.size bp w (w.alloc (.cells #[.int .u8 4, .string o.s, .slice qo o.l.length co, .int .i64 o.room, .int .i64 o.fn] 39)) := PStep.of_below hA hsz
    have hnx : bp ≠ w.heap.size := by have := hp.lt; omega
    obtain ⟨⟨d0, d1, d2, d3, d4⟩, -⟩ := cell_row5 hA1
    have HT := fun (W : World) (m : List UInt8) (hW : Below w0.heap.size w0 W) (h : IsPg w0.heap.size bp (.slice p S.length c) m W) (hm : m.length + (itemsT g o.l).length ≤ 4096) => puts_fit (items_of HV W m o.l qo co hv hfo hW h (by omega) hvl) hm
    have HTL := fun (W : World) (m : List UInt8) (hW : Below w0.heap.size w0 W) (h : IsPg w0.heap.size bp (.slice p S.length c) m W) (hm : m.length ≤ 4096) (hm2 : 4096 < m.length + (itemsT g o.l).length) => puts_long (items_of HV W m o.l qo co hv hfo hW h hm hvl) hm2
    clear hv hfo hvl hll
    by_cases hc0 : l.length + 1 ≤ 4096
    · by_cases hc1 : l.length + 1 + (itemsT g o.l).length ≤ 4096
      · by_cases hc2 : l.length + 1 + (itemsT g o.l).length + 1 ≤ 4096
        · have K0 := put_fits hPA hn ⟨#[91]⟩ (by show _ + 1 ≤ 4096; omega)
          have K1 := fun (W : World) (hW : Below w0.heap.size w0 W) (h : IsPg w0.heap.size bp (.slice p S.length c) (l ++ (⟨#[91]⟩ : ByteArray).data.toList) W) => HT W _ hW h (by simp; omega)
          have K2 := fun (W : World) (hW : Below w0.heap.size w0 W) (h : IsPg w0.heap.size bp (.slice p S.length c) (l ++ (⟨#[91]⟩ : ByteArray).data.toList ++ itemsT g o.l) W) => put_fits h hW.size ⟨#[93]⟩ (by show _ + 1 ≤ 4096; simp; omega)
          have HFit : Hid (l.length + (rowT g o).length ≤ 4096) := hid (by rw [E1.out]; simp; omega)
          have HEs : Hid (l ++ rowT g o = l ++ (⟨#[91]⟩ : ByteArray).data.toList ++ itemsT g o.l ++ (⟨#[93]⟩ : ByteArray).data.toList) := hid (by rw [E1.out]; simp)
          clear HT HTL hc0 hc1 hc2
          go_enter Tryd.func38, Tryd.ntmps38
          go_wp2_with (first
            | (go_at_call 34; (with_reducible refine K0.mono ?_); clear K0; rintro e w2 ⟨rfl, k0, m0⟩; have hB_0 := (m0.box _ _ _ _ hA1 (by decide) (Ne.symm hnx)).trans hA1; obtain ⟨⟨p00, p01, p02, p03, p04⟩, -⟩ := cell_row5 hB_0; have hW1 := hBA.trans m0.bel)
            | (go_at_call 52; (with_reducible refine (K1 _ hW1 k0).mono ?_); clear K1; rintro e w3 ⟨rfl, k1, m1⟩; have hB_1 := (m1.box _ _ _ _ hB_0 (by decide) (Ne.symm hnx)).trans hB_0; obtain ⟨⟨p10, p11, p12, p13, p14⟩, -⟩ := cell_row5 hB_1; have hW2 := hW1.trans m1.bel)
            | (go_at_call 34; (with_reducible refine (K2 _ hW2 k1).mono ?_); clear K2; rintro e w4 ⟨rfl, k2, m2⟩; have hB_2 := (m2.box _ _ _ _ hB_1 (by decide) (Ne.symm hnx)).trans hB_1; obtain ⟨⟨p20, p21, p22, p23, p24⟩, -⟩ := cell_row5 hB_2; have hW3 := hW2.trans m2.bel))
          go_ret
          exact ⟨true, rfl, (((hSA.trans m0).trans m1).trans m2), ⟨fun _ => HFit.out, fun _ => rfl⟩, fun _ => by rw [HEs.out]; exact k2⟩
        · have K0 := put_fits hPA hn ⟨#[91]⟩ (by show _ + 1 ≤ 4096; omega)
          have K1 := fun (W : World) (hW : Below w0.heap.size w0 W) (h : IsPg w0.heap.size bp (.slice p S.length c) (l ++ (⟨#[91]⟩ : ByteArray).data.toList) W) => HT W _ hW h (by simp; omega)
          have K2 := fun (W : World) (hW : Below w0.heap.size w0 W) (h : IsPg w0.heap.size bp (.slice p S.length c) (l ++ (⟨#[91]⟩ : ByteArray).data.toList ++ itemsT g o.l) W) => put_long h ⟨#[93]⟩ (by simp; omega) (by decide) (by show 4096 < _ + 1; simp; omega)
          have HBig : Hid (4096 < l.length + (rowT g o).length) := hid (by rw [E1.out]; simp; omega)
          clear HT HTL hc0 hc1 hc2
          go_enter Tryd.func38, Tryd.ntmps38
          go_wp2_with (first
            | (go_at_call 34; (with_reducible refine K0.mono ?_); clear K0; rintro e w2 ⟨rfl, k0, m0⟩; have hB_0 := (m0.box _ _ _ _ hA1 (by decide) (Ne.symm hnx)).trans hA1; obtain ⟨⟨p00, p01, p02, p03, p04⟩, -⟩ := cell_row5 hB_0; have hW1 := hBA.trans m0.bel)
            | (go_at_call 52; (with_reducible refine (K1 _ hW1 k0).mono ?_); clear K1; rintro e w3 ⟨rfl, k1, m1⟩; have hB_1 := (m1.box _ _ _ _ hB_0 (by decide) (Ne.symm hnx)).trans hB_0; obtain ⟨⟨p10, p11, p12, p13, p14⟩, -⟩ := cell_row5 hB_1; have hW2 := hW1.trans m1.bel)
            | (go_at_call 34; (with_reducible refine (K2 _ hW2 k1).mono ?_); clear K2; rintro e w4 ⟨rfl, rfl⟩))
          go_ret
          exact ⟨false, rfl, ((hSA.trans m0).trans m1), no_fit HBig.out, (fun h => by cases h)⟩
      · have K0 := put_fits hPA hn ⟨#[91]⟩ (by show _ + 1 ≤ 4096; omega)
        have K1 := fun (W : World) (hW : Below w0.heap.size w0 W) (h : IsPg w0.heap.size bp (.slice p S.length c) (l ++ (⟨#[91]⟩ : ByteArray).data.toList) W) => HTL W _ hW h (by simp; omega) (by simp; omega)
        have HBig : Hid (4096 < l.length + (rowT g o).length) := hid (by rw [E1.out]; simp; omega)
        clear HT HTL hc0 hc1
        go_enter Tryd.func38, Tryd.ntmps38
        go_wp2_with (first
          | (go_at_call 34; (with_reducible refine K0.mono ?_); clear K0; rintro e w2 ⟨rfl, k0, m0⟩; have hB_0 := (m0.box _ _ _ _ hA1 (by decide) (Ne.symm hnx)).trans hA1; obtain ⟨⟨p00, p01, p02, p03, p04⟩, -⟩ := cell_row5 hB_0; have hW1 := hBA.trans m0.bel)
          | (go_at_call 52; (with_reducible refine (K1 _ hW1 k0).mono ?_); clear K1; rintro e w3 ⟨rfl, m1⟩))
        go_ret
        exact ⟨false, rfl, ((hSA.trans m0).trans m1), no_fit HBig.out, (fun h => by cases h)⟩
    · have K0 := put_long hPA ⟨#[91]⟩ hl (by decide) (by show 4096 < _ + 1; omega)
      have HBig : Hid (4096 < l.length + (rowT g o).length) := hid (by rw [E1.out]; simp; omega)
      clear HT HTL hc0
      go_enter Tryd.func38, Tryd.ntmps38
      go_wp2_with (first
        | (go_at_call 34; (with_reducible refine K0.mono ?_); clear K0; rintro e w2 ⟨rfl, rfl⟩))
      go_ret
      exact ⟨false, rfl, hSA, no_fit HBig.out, (fun h => by cases h)⟩
  · have e1 : rowT g o = [123] ++ (pairsT g (pairsOf o.l) ++ [125]) := by unfold rowT; simp [hk]
    have E1 : Hid _ := e1
    rw [hk]
    clear e1 hk
    have hA := below1 w (.cells #[.int .u8 5, .string o.s, .slice qo o.l.length co, .int .i64 o.room, .int .i64 o.fn] 39)
    have hA1 := heap_alloc_new w (.cells #[.int .u8 5, .string o.s, .slice qo o.l.length co, .int .i64 o.room, .int .i64 o.fn] 39)
    have hn : w0.heap.size ≤ (w.alloc (.cells #[.int .u8 5, .string o.s, .slice qo o.l.length co, .int .i64 o.room, .int .i64 o.fn] 39)).heap.size := by simp; omega
    have hBA := hB.trans (hA.mono hsz)
    have hPA := hp.below hA
    have hSA : PStep w0.heap.size bp w (w.alloc (.cells #[.int .u8 5, .string o.s, .slice qo o.l.length co, .int .i64 o.room, .int .i64 o.fn] 39)) := PStep.of_below hA hsz
    have hnx : bp ≠ w.heap.size := by have := hp.lt; omega
    obtain ⟨⟨d0, d1, d2, d3, d4⟩, -⟩ := cell_row5 hA1
    have HT := fun (W : World) (m : List UInt8) (hW : Below w0.heap.size w0 W) (h : IsPg w0.heap.size bp (.slice p S.length c) m W) (hm : m.length + (pairsT g (pairsOf o.l)).length ≤ 4096) => puts_fit (pairs_of HV W m o.l qo co hv hfo hW h (by omega) hvl) hm
    have HTL := fun (W : World) (m : List UInt8) (hW : Below w0.heap.size w0 W) (h : IsPg w0.heap.size bp (.slice p S.length c) m W) (hm : m.length ≤ 4096) (hm2 : 4096 < m.length + (pairsT g (pairsOf o.l)).length) => puts_long (pairs_of HV W m o.l qo co hv hfo hW h hm hvl) hm2
    clear hv hfo hvl hll
    by_cases hc0 : l.length + 1 ≤ 4096
    · by_cases hc1 : l.length + 1 + (pairsT g (pairsOf o.l)).length ≤ 4096
      · by_cases hc2 : l.length + 1 + (pairsT g (pairsOf o.l)).length + 1 ≤ 4096
        · have K0 := put_fits hPA hn ⟨#[123]⟩ (by show _ + 1 ≤ 4096; omega)
          have K1 := fun (W : World) (hW : Below w0.heap.size w0 W) (h : IsPg w0.heap.size bp (.slice p S.length c) (l ++ (⟨#[123]⟩ : ByteArray).data.toList) W) => HT W _ hW h (by simp; omega)
          have K2 := fun (W : World) (hW : Below w0.heap.size w0 W) (h : IsPg w0.heap.size bp (.slice p S.length c) (l ++ (⟨#[123]⟩ : ByteArray).data.toList ++ pairsT g (pairsOf o.l)) W) => put_fits h hW.size ⟨#[125]⟩ (by show _ + 1 ≤ 4096; simp; omega)
          have HFit : Hid (l.length + (rowT g o).length ≤ 4096) := hid (by rw [E1.out]; simp; omega)
          have HEs : Hid (l ++ rowT g o = l ++ (⟨#[123]⟩ : ByteArray).data.toList ++ pairsT g (pairsOf o.l) ++ (⟨#[125]⟩ : ByteArray).data.toList) := hid (by rw [E1.out]; simp)
          clear HT HTL hc0 hc1 hc2
          go_enter Tryd.func38, Tryd.ntmps38
          go_wp2_with (first
            | (go_at_call 34; (with_reducible refine K0.mono ?_); clear K0; rintro e w2 ⟨rfl, k0, m0⟩; have hB_0 := (m0.box _ _ _ _ hA1 (by decide) (Ne.symm hnx)).trans hA1; obtain ⟨⟨p00, p01, p02, p03, p04⟩, -⟩ := cell_row5 hB_0; have hW1 := hBA.trans m0.bel)
            | (go_at_call 53; (with_reducible refine (K1 _ hW1 k0).mono ?_); clear K1; rintro e w3 ⟨rfl, k1, m1⟩; have hB_1 := (m1.box _ _ _ _ hB_0 (by decide) (Ne.symm hnx)).trans hB_0; obtain ⟨⟨p10, p11, p12, p13, p14⟩, -⟩ := cell_row5 hB_1; have hW2 := hW1.trans m1.bel)
            | (go_at_call 34; (with_reducible refine (K2 _ hW2 k1).mono ?_); clear K2; rintro e w4 ⟨rfl, k2, m2⟩; have hB_2 := (m2.box _ _ _ _ hB_1 (by decide) (Ne.symm hnx)).trans hB_1; obtain ⟨⟨p20, p21, p22, p23, p24⟩, -⟩ := cell_row5 hB_2; have hW3 := hW2.trans m2.bel))
          go_ret
          exact ⟨true, rfl, (((hSA.trans m0).trans m1).trans m2), ⟨fun _ => HFit.out, fun _ => rfl⟩, fun _ => by rw [HEs.out]; exact k2⟩
        · have K0 := put_fits hPA hn ⟨#[123]⟩ (by show _ + 1 ≤ 4096; omega)
          have K1 := fun (W : World) (hW : Below w0.heap.size w0 W) (h : IsPg w0.heap.size bp (.slice p S.length c) (l ++ (⟨#[123]⟩ : ByteArray).data.toList) W) => HT W _ hW h (by simp; omega)
          have K2 := fun (W : World) (hW : Below w0.heap.size w0 W) (h : IsPg w0.heap.size bp (.slice p S.length c) (l ++ (⟨#[123]⟩ : ByteArray).data.toList ++ pairsT g (pairsOf o.l)) W) => put_long h ⟨#[125]⟩ (by simp; omega) (by decide) (by show 4096 < _ + 1; simp; omega)
          have HBig : Hid (4096 < l.length + (rowT g o).length) := hid (by rw [E1.out]; simp; omega)
          clear HT HTL hc0 hc1 hc2
          go_enter Tryd.func38, Tryd.ntmps38
          go_wp2_with (first
            | (go_at_call 34; (with_reducible refine K0.mono ?_); clear K0; rintro e w2 ⟨rfl, k0, m0⟩; have hB_0 := (m0.box _ _ _ _ hA1 (by decide) (Ne.symm hnx)).trans hA1; obtain ⟨⟨p00, p01, p02, p03, p04⟩, -⟩ := cell_row5 hB_0; have hW1 := hBA.trans m0.bel)
            | (go_at_call 53; (with_reducible refine (K1 _ hW1 k0).mono ?_); clear K1; rintro e w3 ⟨rfl, k1, m1⟩; have hB_1 := (m1.box _ _ _ _ hB_0 (by decide) (Ne.symm hnx)).trans hB_0; obtain ⟨⟨p10, p11, p12, p13, p14⟩, -⟩ := cell_row5 hB_1; have hW2 := hW1.trans m1.bel)
            | (go_at_call 34; (with_reducible refine (K2 _ hW2 k1).mono ?_); clear K2; rintro e w4 ⟨rfl, rfl⟩))
          go_ret
          exact ⟨false, rfl, ((hSA.trans m0).trans m1), no_fit HBig.out, (fun h => by cases h)⟩
      · have K0 := put_fits hPA hn ⟨#[123]⟩ (by show _ + 1 ≤ 4096; omega)
        have K1 := fun (W : World) (hW : Below w0.heap.size w0 W) (h : IsPg w0.heap.size bp (.slice p S.length c) (l ++ (⟨#[123]⟩ : ByteArray).data.toList) W) => HTL W _ hW h (by simp; omega) (by simp; omega)
        have HBig : Hid (4096 < l.length + (rowT g o).length) := hid (by rw [E1.out]; simp; omega)
        clear HT HTL hc0 hc1
        go_enter Tryd.func38, Tryd.ntmps38
        go_wp2_with (first
          | (go_at_call 34; (with_reducible refine K0.mono ?_); clear K0; rintro e w2 ⟨rfl, k0, m0⟩; have hB_0 := (m0.box _ _ _ _ hA1 (by decide) (Ne.symm hnx)).trans hA1; obtain ⟨⟨p00, p01, p02, p03, p04⟩, -⟩ := cell_row5 hB_0; have hW1 := hBA.trans m0.bel)
          | (go_at_call 53; (with_reducible refine (K1 _ hW1 k0).mono ?_); clear K1; rintro e w3 ⟨rfl, m1⟩))
        go_ret
        exact ⟨false, rfl, ((hSA.trans m0).trans m1), no_fit HBig.out, (fun h => by cases h)⟩
    · have K0 := put_long hPA ⟨#[123]⟩ hl (by decide) (by show 4096 < _ + 1; omega)
      have HBig : Hid (4096 < l.length + (rowT g o).length) := hid (by rw [E1.out]; simp; omega)
      clear HT HTL hc0
      go_enter Tryd.func38, Tryd.ntmps38
      go_wp2_with (first
        | (go_at_call 34; (with_reducible refine K0.mono ?_); clear K0; rintro e w2 ⟨rfl, rfl⟩))
      go_ret
      exact ⟨false, rfl, hSA, no_fit HBig.out, (fun h => by cases h)⟩

end

theorem value_deep {w0 : World} {bp c : Nat} {p : Option Addr} {S : List Om} (G : Given w0 p S) (hll : ∀ o ∈ S, o.l.length ≤ 1048576) : ∀ f : Nat, f ≤ 9 → ValueC w0 bp c p S (9 - (f : Int)) (txtV S f)
  | 0, _ => value_of G (row_dots (by omega))
  | f + 1, h => by
    have ih := value_deep (bp := bp) (c := c) G hll f (by omega)
    have : ((9 : Int) - ((f + 1 : Nat) : Int)) + 1 = 9 - (f : Int) := by omega
    exact value_of G (row_of G hll (by omega) (by omega) (by rw [this]; exact ih))

theorem value_in {w0 : World} {bp c : Nat} {p : Option Addr} {S : List Om} (G : Given w0 p S) (hll : ∀ o ∈ S, o.l.length ≤ 1048576) : ValueC w0 bp c p S 0 (txtV S 9) := by
  have := value_deep (bp := bp) (c := c) G hll 9 (by omega)
  simpa using this

end Go.Proofs.YtppjahnahomkeaaDoor
