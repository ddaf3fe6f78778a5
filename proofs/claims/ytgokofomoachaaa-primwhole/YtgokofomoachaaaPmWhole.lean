/- PrimWhole: the walk. -/
import Derived.Test.YtgokofomoachaaaPmLives2
namespace Go.Proofs.Ytgokofomoachaaa
set_option linter.unusedVariables false
set_option linter.unusedSimpArgs false
open Go.RowKit

variable {w : World}

def sE : List Om := []

/-- A number of 64 bits. -/
def I6 (a : Int) : Prop := -9223372036854775808 ≤ a ∧ a ≤ 9223372036854775807

theorem wrap_sub {a b : Int} (ha : I6 a) : wrap64 (wrap64 (a + b) - b) = a := by
  unfold I6 at ha
  unfold wrap64
  omega

theorem wrap_div {a b : Int} (ha : I6 a) : wrap64 (wrap64 (wrap64 (Int.tdiv a b) * b) + Int.tmod a b) = a := by
  unfold I6 at ha
  have h1 := Int.mul_tdiv_add_tmod a b
  have e : ∃ k : Int, wrap64 (Int.tdiv a b) = Int.tdiv a b + 18446744073709551616 * k := by
    unfold wrap64
    exact ⟨-((Int.tdiv a b + 9223372036854775808) / 18446744073709551616), by omega⟩
  obtain ⟨k, hk⟩ := e
  rw [hk, Int.add_mul, Int.mul_assoc, Int.mul_comm (Int.tdiv a b) b]
  generalize b * Int.tdiv a b = m at *
  generalize k * b = j at *
  generalize Int.tmod a b = r at *
  unfold wrap64
  omega

theorem fldD1 (W : World) (a d e : Value) (k n : Int) : (Instr.field 28 (.agg #[a, .int .u8 k, .int .i64 n, d, e]) 1).run Try.prog W = .ok (.agg #[.int .u8 k, .int .i64 n]) W := by kernel_rfl

theorem fldV1 (W : World) (k n : Int) : (Instr.field 26 (.agg #[.int .u8 k, .int .i64 n]) 1).run Try.prog W = .ok (.int .i64 n) W := by kernel_rfl

theorem neqVal (w : World) (a : Int) : (binOp .neq 26 (.agg #[.int .u8 2, .int .i64 a]) (.agg #[.int .u8 2, .int .i64 a])).run Try.prog w = .ok (.bool false) w := by
  go_simp

theorem eqlValI (w : World) (a : Int) : (binOp .eql 26 (.agg #[.int .u8 2, .int .i64 a]) (.agg #[.int .u8 2, .int .i64 a])).run Try.prog w = .ok (.bool true) w := by
  go_simp

set_option maxRecDepth 20000 in
set_option maxHeartbeats 4000000 in
theorem primWhole_walk (a b : Int) (ha : I6 a) (hb : I6 b) (w : World) : Calls Try.prog 3 #[.int .i64 a, .int .i64 b] w fun e w' => e = .returned (.bool true) ∧ Below w.heap.size w w' := by
  have HW := fun (n : Int) (W : World) => lwhole_in n W
  have HLV := fun (W : World) => lives_in W
  have HAdd : ∀ (x y : Int) (W : World), Calls Try.prog 4 #[.slice none 0 0, .int .u8 1, .agg #[.int .u8 2, .int .i64 x], .agg #[.int .u8 2, .int .i64 y]] W (DidR W sE ⟨2, wrap64 (x + y)⟩ ⟨#[]⟩ 0) := fun x y W => Bin_Add (ask_nil W) 0 x y ⟨sE, ⟨2, wrap64 (x + y)⟩, ⟨#[]⟩, 0⟩ rfl
  have HSub : ∀ (x y : Int) (W : World), Calls Try.prog 4 #[.slice none 0 0, .int .u8 2, .agg #[.int .u8 2, .int .i64 x], .agg #[.int .u8 2, .int .i64 y]] W (DidR W sE ⟨2, wrap64 (x - y)⟩ ⟨#[]⟩ 0) := fun x y W => Bin_Sub (ask_nil W) 0 x y ⟨sE, ⟨2, wrap64 (x - y)⟩, ⟨#[]⟩, 0⟩ rfl
  have HMul : ∀ (x y : Int) (W : World), Calls Try.prog 4 #[.slice none 0 0, .int .u8 3, .agg #[.int .u8 2, .int .i64 x], .agg #[.int .u8 2, .int .i64 y]] W (DidR W sE ⟨2, wrap64 (x * y)⟩ ⟨#[]⟩ 0) := fun x y W => Bin_Mul (ask_nil W) 0 x y ⟨sE, ⟨2, wrap64 (x * y)⟩, ⟨#[]⟩, 0⟩ rfl
  have HLess : ∀ (x y : Int) (W : World), Calls Try.prog 4 #[.slice none 0 0, .int .u8 6, .agg #[.int .u8 2, .int .i64 x], .agg #[.int .u8 2, .int .i64 y]] W (DidR W sE (tru (decide (x < y))) ⟨#[]⟩ 0) := fun x y W => Bin_Less (ask_nil W) 0 x y ⟨sE, tru (decide (x < y)), ⟨#[]⟩, 0⟩ rfl
  have HMost : ∀ (x y : Int) (W : World), Calls Try.prog 4 #[.slice none 0 0, .int .u8 7, .agg #[.int .u8 2, .int .i64 x], .agg #[.int .u8 2, .int .i64 y]] W (DidR W sE (tru (decide (x ≤ y))) ⟨#[]⟩ 0) := fun x y W => Bin_Most (ask_nil W) 0 x y ⟨sE, tru (decide (x ≤ y)), ⟨#[]⟩, 0⟩ rfl
  go_enter Try.func3, Try.ntmps3
  go_wp2_with (first
    | (go_at_call 5; (with_reducible refine (HW a w).mono ?_); rintro e w1 ⟨rfl, hB1⟩)
    | (go_at_call 5; (with_reducible refine (HW b w1).mono ?_); rintro e w2 ⟨rfl, hB2⟩)
    | (go_at_call 4; (with_reducible refine (HAdd a b w2).mono ?_); rintro e w3 ⟨p1, c1, rfl, ⟨ts, hm, hO⟩, hB3⟩; refine halt_here ?_))
  unfold Halted
  go_wp2_with fail
  have hA1 := did_nw (v := ⟨2, wrap64 (a + b)⟩) (t := ⟨#[]⟩) (n := 0) hm hO
  have hBw3 := hB1.trans ((hB2.trans (hB3.mono hB2.size)).mono hB1.size)
  have hBW := hBw3.trans ((below1 w3 (.cells #[.slice p1 sE.length c1, .int .u8 2, .int .i64 (wrap64 (a + b)), .string ⟨#[]⟩, .int .i64 0] 28)).mono hBw3.size)
  simp only [show ((2 : Nat) : Int) = 2 from rfl] at hA1
  generalize hWA : w3.alloc (.cells #[.slice p1 sE.length c1, .int .u8 2, .int .i64 (wrap64 (a + b)), .string ⟨#[]⟩, .int .i64 0] 28) = WA at hA1 hBW ⊢
  generalize w3.heap.size = B1 at *
  clear hWA hm hO hB1 hB2 hB3 hBw3
  have lB1 := (Array.getElem?_eq_some_iff.1 hA1.blk).1
  have HS1 : ∀ W', Below WA.heap.size WA W' → Calls Try.prog 4 #[.slice none 0 0, .int .u8 2, .agg #[.int .u8 2, .int .i64 (wrap64 (a + b))], .agg #[.int .u8 2, .int .i64 b]] W' (DidR W' sE ⟨2, a⟩ ⟨#[]⟩ 0) := fun W' _ => by
    have := HSub (wrap64 (a + b)) b W'
    rw [wrap_sub ha] at this
    exact this
  generalize hsum : wrap64 (a + b) = sab at hA1 HS1
  have FCS : ∀ W', Below WA.heap.size WA W' → W'.cell? ⟨B1, 1, none⟩ = some (.int .u8 2) ∧ W'.cell? ⟨B1, 2, none⟩ = some (.int .i64 sab) := fun W' hb => by
    obtain ⟨⟨-, a1, a2, -, -⟩, -⟩ := cell_row5 (hA1.below hb).blk
    exact ⟨a1, a2⟩
  have FSET : ∀ (W' : World) (r : Nat), Below WA.heap.size WA W' → WA.heap.size ≤ r → ∀ x0 x1 x2 x3 x4, (fun W' => W'.cell? ⟨B1, 1, none⟩ = some (.int .u8 2) ∧ W'.cell? ⟨B1, 2, none⟩ = some (.int .i64 sab)) (((((W'.setCell ⟨r, 0, none⟩ x0).setCell ⟨r, 1, none⟩ x1).setCell ⟨r, 2, none⟩ x2).setCell ⟨r, 3, none⟩ x3).setCell ⟨r, 4, none⟩ x4) := fun W' r hb hr x0 x1 x2 x3 x4 => by
    have hB1 : B1 ≠ r := by have := lB1; omega
    obtain ⟨a0, a1⟩ := FCS _ hb
    exact ⟨(cell_set5 hB1).trans a0, (cell_set5 hB1).trans a1⟩
  go_cut [6] from 18 (fun s2 W => ∃ B2 p2 c2, s2 = .pointer (some ⟨B2, 0, none⟩) ∧ DidAt W B2 sE ⟨2, a⟩ ⟨#[]⟩ 0 p2 c2 ∧ Below WA.heap.size WA W)
  case first =>
    have SW := FCS _ (Below.refl _ _)
    have hD0 := below_drew (Below.refl WA.heap.size WA)
    have hDa := below_drew (below1 WA (.cells #[.slice none 0 0, .int .u8 0, .int .i64 0, .string ⟨#[]⟩, .int .i64 0] 28))
    have hza : (WA.alloc (.cells #[.slice none 0 0, .int .u8 0, .int .i64 0, .string ⟨#[]⟩, .int .i64 0] 28)).drew.heap[WA.heap.size]? = _ := heap_alloc_new WA (.cells #[.slice none 0 0, .int .u8 0, .int .i64 0, .string ⟨#[]⟩, .int .i64 0] 28)
    have S0 := FCS _ hD0
    have Sa := FCS _ hDa
    go_region_held3 (fun W' => W'.cell? ⟨B1, 1, none⟩ = some (.int .u8 2) ∧ W'.cell? ⟨B1, 2, none⟩ = some (.int .i64 sab)) (first | with_reducible exact SW | with_reducible exact S0 | with_reducible exact Sa | with_reducible exact S10 | with_reducible exact T10 | with_reducible exact SF | with_reducible exact TF | with_reducible exact UF | with_reducible exact VA _ _ _ _ _ | with_reducible exact V0 _ _ _ _ _ | go_keep)
      (first
        | (go_at_call 5; (with_reducible refine (HW b WA.drew).mono ?_); rintro e y0 ⟨rfl, hB0⟩; have hC0 := hD0.trans (hB0.mono hD0.size); have S10 := FCS _ hC0; have T10 := FCS _ (hC0.alloc hC0.size (.cells #[.slice none 0 0, .int .u8 0, .int .i64 0, .string ⟨#[]⟩, .int .i64 0] 28)))
        | (go_at_call 5; (with_reducible refine (HW b (WA.alloc (.cells #[.slice none 0 0, .int .u8 0, .int .i64 0, .string ⟨#[]⟩, .int .i64 0] 28)).drew).mono ?_); rintro e y0 ⟨rfl, hB0⟩; have hC0 := hDa.trans (hB0.mono hDa.size); have S10 := FCS _ hC0; have T10 := FCS _ (hC0.alloc hC0.size (.cells #[.slice none 0 0, .int .u8 0, .int .i64 0, .string ⟨#[]⟩, .int .i64 0] 28)); have hz0 := (hB0.block _ (Array.getElem?_eq_some_iff.1 hza).1).trans hza)
        | (go_at_call 4; (with_reducible refine (HS1 y0 hC0).mono ?_); rintro e yF ⟨p2, c2, rfl, ⟨ts, hm, hO⟩, hBF⟩; have hCF := hC0.trans (hBF.mono hC0.size); have SF := FCS _ hCF; have TF := FCS _ (hCF.alloc hCF.size (.cells #[.slice none 0 0, .int .u8 0, .int .i64 0, .string ⟨#[]⟩, .int .i64 0] 28)); have UF := FCS _ (hCF.alloc hCF.size (.cells #[.slice p2 sE.length c2, .int .u8 2, .int .i64 a, .string ⟨#[]⟩, .int .i64 0] 28)); have hzF := (hBF.block _ (Array.getElem?_eq_some_iff.1 hz0).1).trans hz0; obtain ⟨⟨z0, z1, z2, z3, z4⟩, t0, t1, t2, t3, t4⟩ := cell_row5 hzF; have VA := FSET _ WA.heap.size hCF (Nat.le_refl _); have V0 := FSET _ y0.heap.size hCF hC0.size)
        | (go_at_call 4; (with_reducible refine (HS1 y0 hC0).mono ?_); rintro e yF ⟨p2, c2, rfl, ⟨ts, hm, hO⟩, hBF⟩; have hCF := hC0.trans (hBF.mono hC0.size); have SF := FCS _ hCF; have TF := FCS _ (hCF.alloc hCF.size (.cells #[.slice none 0 0, .int .u8 0, .int .i64 0, .string ⟨#[]⟩, .int .i64 0] 28)); have UF := FCS _ (hCF.alloc hCF.size (.cells #[.slice p2 sE.length c2, .int .u8 2, .int .i64 a, .string ⟨#[]⟩, .int .i64 0] 28)))
        | (go_at_call 4; (with_reducible refine (HS1 (y0.alloc (.cells #[.slice none 0 0, .int .u8 0, .int .i64 0, .string ⟨#[]⟩, .int .i64 0] 28)) (hC0.alloc hC0.size (.cells #[.slice none 0 0, .int .u8 0, .int .i64 0, .string ⟨#[]⟩, .int .i64 0] 28))).mono ?_); rintro e yF ⟨p2, c2, rfl, ⟨ts, hm, hO⟩, hBF⟩; have hCF := (hC0.alloc hC0.size (.cells #[.slice none 0 0, .int .u8 0, .int .i64 0, .string ⟨#[]⟩, .int .i64 0] 28)).trans (hBF.mono (hC0.alloc hC0.size (.cells #[.slice none 0 0, .int .u8 0, .int .i64 0, .string ⟨#[]⟩, .int .i64 0] 28)).size); have SF := FCS _ hCF; have TF := FCS _ (hCF.alloc hCF.size (.cells #[.slice none 0 0, .int .u8 0, .int .i64 0, .string ⟨#[]⟩, .int .i64 0] 28)); have UF := FCS _ (hCF.alloc hCF.size (.cells #[.slice p2 sE.length c2, .int .u8 2, .int .i64 a, .string ⟨#[]⟩, .int .i64 0] 28)); have hzF := (hBF.block _ (Array.getElem?_eq_some_iff.1 (heap_alloc_new y0 (.cells #[.slice none 0 0, .int .u8 0, .int .i64 0, .string ⟨#[]⟩, .int .i64 0] 28))).1).trans (heap_alloc_new y0 (.cells #[.slice none 0 0, .int .u8 0, .int .i64 0, .string ⟨#[]⟩, .int .i64 0] 28)); obtain ⟨⟨z0, z1, z2, z3, z4⟩, t0, t1, t2, t3, t4⟩ := cell_row5 hzF; have VA := FSET _ WA.heap.size hCF (Nat.le_refl _); have V0 := FSET _ y0.heap.size hCF hC0.size))
    all_goals
      go_wp2_with fail
      go_meet
      case rel =>
        first
        | exact ⟨_, p2, c2, rfl, did_at (v := ⟨2, a⟩) (t := ⟨#[]⟩) (n := 0) hm hO hzF, below_set5 hCF (by first | exact Nat.le_refl _ | exact hC0.size | exact hC0.size) _ _ _ _ _⟩
        | exact ⟨_, p2, c2, rfl, did_nw (v := ⟨2, a⟩) (t := ⟨#[]⟩) (n := 0) hm hO, hCF.alloc hCF.size _⟩
  case rest =>
    obtain ⟨B6, p6, c6, rfl, hA6, hBB⟩ := hcut
    rename World => WB
    clear FCS FSET HS1
    have hA1' := hA1.below hBB
    have hBWB := hBW.trans (hBB.mono hBW.size)
    clear hA1 hBB lB1
    go_wp2_with fail
    have k1 := hA1'.blk
    have k6 := hA6.blk
    have FCS : ∀ W', Below WB.heap.size WB W' → W'.cell? ⟨B6, 1, none⟩ = some (.int .u8 2) ∧ W'.cell? ⟨B6, 2, none⟩ = some (.int .i64 a) ∧ W'.cell? ⟨B1, 4, none⟩ = some (.int .i64 0) := fun W' hb => by
      obtain ⟨⟨-, -, -, -, a4⟩, -⟩ := cell_row5 ((hb.block _ (Array.getElem?_eq_some_iff.1 k1).1).trans k1)
      obtain ⟨⟨-, b1, b2, -, -⟩, -⟩ := cell_row5 ((hb.block _ (Array.getElem?_eq_some_iff.1 k6).1).trans k6)
      exact ⟨b1, b2, a4⟩
    have hD0 := below_drew (Below.refl WB.heap.size WB)
    have S0 := FCS _ hD0
    have SW := FCS _ (Below.refl _ _)
    go_cut [32] from 23 (fun s32 W => s32 = .bool false ∧ Below WB.heap.size WB W)
    case first =>
      go_region_held3 (fun W' => W'.cell? ⟨B6, 1, none⟩ = some (.int .u8 2) ∧ W'.cell? ⟨B6, 2, none⟩ = some (.int .i64 a) ∧ W'.cell? ⟨B1, 4, none⟩ = some (.int .i64 0)) (first | with_reducible exact SW | with_reducible exact S0 | with_reducible exact S1 | go_keep)
        (first
          | (go_at_call 5; (with_reducible refine (HW a WB.drew).mono ?_); rintro e y1 ⟨rfl, hB1⟩; have hC1 := hD0.trans (hB1.mono hD0.size); have S1 := FCS _ hC1; have HN1 := neqVal y1 a))
      all_goals
        go_wp2_with fail
        go_meet
        case rel => exact ⟨rfl, hC1⟩
    case rest =>
      obtain ⟨rfl, hBC⟩ := hcut
      rename World => WC
      have hBWC := hBWB.trans (hBC.mono hBWB.size)
      clear FCS S0 SW hD0 k1 k6 hA6 hA1' hBWB hBC
      obtain ⟨L, M, HLe, HMo, hLM, hL0, hL1⟩ : ∃ L M : Int, (∀ W : World, Calls Try.prog 4 #[.slice none 0 0, .int .u8 6, .agg #[.int .u8 2, .int .i64 a], .agg #[.int .u8 2, .int .i64 b]] W (DidR W sE ⟨1, L⟩ ⟨#[]⟩ 0)) ∧ (∀ W : World, Calls Try.prog 4 #[.slice none 0 0, .int .u8 7, .agg #[.int .u8 2, .int .i64 b], .agg #[.int .u8 2, .int .i64 a]] W (DidR W sE ⟨1, M⟩ ⟨#[]⟩ 0)) ∧ L + M = 1 ∧ 0 ≤ L ∧ L ≤ 1 := by
        by_cases hab : a < b
        · refine ⟨1, 0, fun W => ?_, fun W => ?_, by omega, by omega, by omega⟩
          · have := HLess a b W; rw [decide_eq_true hab] at this; exact this
          · have := HMost b a W; rw [decide_eq_false (by omega)] at this; exact this
        · refine ⟨0, 1, fun W => ?_, fun W => ?_, by omega, by omega, by omega⟩
          · have := HLess a b W; rw [decide_eq_false hab] at this; exact this
          · have := HMost b a W; rw [decide_eq_true (by omega)] at this; exact this
      clear HLess HMost
      have HFD1 := fldD1
      have HFV1 := fldV1
      go_wp2_with (first
        | (go_at_call 5; (with_reducible refine (HW a WC).mono ?_); rintro e y1 ⟨rfl, hB1⟩)
        | (go_at_call 5; (with_reducible refine (HW b y1).mono ?_); rintro e y2 ⟨rfl, hB2⟩)
        | (go_at_call 4; (with_reducible refine (HLe y2).mono ?_); rintro e y3 ⟨p3, c3, rfl, -, hB3⟩)
        | (go_at_call 5; (with_reducible refine (HW b y3).mono ?_); rintro e y4 ⟨rfl, hB4⟩)
        | (go_at_call 5; (with_reducible refine (HW a y4).mono ?_); rintro e y5 ⟨rfl, hB5⟩)
        | (go_at_call 4; (with_reducible refine (HMo y5).mono ?_); rintro e y6 ⟨p6', c6', rfl, -, hB6⟩; refine halt_here ?_))
      unfold Halted
      have hC6 := hB1.trans ((hB2.trans ((hB3.trans ((hB4.trans ((hB5.trans (hB6.mono hB5.size)).mono hB4.size)).mono hB3.size)).mono hB2.size)).mono hB1.size)
      have hBy6 := hBWC.trans (hC6.mono hBWC.size)
      clear hB1 hB2 hB3 hB4 hB5 hB6 hC6 HLe HMo
      have hLM' : M = 1 - L := by omega
      subst hLM'
      by_cases hb0 : b = 0
      · subst hb0
        have HDv : ∀ W : World, Calls Try.prog 4 #[.slice none 0 0, .int .u8 4, .agg #[.int .u8 2, .int .i64 a], .agg #[.int .u8 2, .int .i64 0]] W (DidR W sE ⟨0, 0⟩ ⟨#[122, 101, 114, 111]⟩ 0) := fun W => Bin_Div (ask_nil W) 0 a 0 ⟨sE, ⟨0, 0⟩, tZero, 0⟩ (by rw [if_pos rfl]; rfl)
        have HMd : ∀ W : World, Calls Try.prog 4 #[.slice none 0 0, .int .u8 5, .agg #[.int .u8 2, .int .i64 a], .agg #[.int .u8 2, .int .i64 0]] W (DidR W sE ⟨0, 0⟩ ⟨#[122, 101, 114, 111]⟩ 0) := fun W => Bin_Mod (ask_nil W) 0 a 0 ⟨sE, ⟨0, 0⟩, tZero, 0⟩ (by rw [if_pos rfl]; rfl)
        clear HAdd HSub HMul
        go_wp2_with (first
          | (go_at_call 5; (with_reducible refine (HW a y6).mono ?_); rintro e z1 ⟨rfl, hB1⟩)
          | (go_at_call 5; (with_reducible refine (HW 0 z1).mono ?_); rintro e z2 ⟨rfl, hB2⟩)
          | (go_at_call 4; (with_reducible refine (HDv z2).mono ?_); rintro e z3 ⟨p9, c9, rfl, -, hB3⟩; have hb9 := heap_alloc_new z3 (.cells #[.slice p9 sE.length c9, .int .u8 0, .int .i64 0, .string ⟨#[122, 101, 114, 111]⟩, .int .i64 0] 28))
          | (go_at_call 5; (with_reducible refine (HW a (z3.alloc (.cells #[.slice p9 sE.length c9, .int .u8 0, .int .i64 0, .string ⟨#[122, 101, 114, 111]⟩, .int .i64 0] 28))).mono ?_); rintro e z4 ⟨rfl, hB4⟩; have hb94 := (hB4.block _ (Array.getElem?_eq_some_iff.1 hb9).1).trans hb9)
          | (go_at_call 5; (with_reducible refine (HW 0 z4).mono ?_); rintro e z5 ⟨rfl, hB5⟩; have hb95 := (hB5.block _ (Array.getElem?_eq_some_iff.1 hb94).1).trans hb94)
          | (go_at_call 4; (with_reducible refine (HMd z5).mono ?_); rintro e z6 ⟨p10, c10, rfl, -, hB6⟩; have hb96 := (hB6.block _ (Array.getElem?_eq_some_iff.1 hb95).1).trans hb95; have hb97 := ((below1 z6 (.cells #[.slice p10 sE.length c10, .int .u8 0, .int .i64 0, .string ⟨#[122, 101, 114, 111]⟩, .int .i64 0] 28)).block _ (Array.getElem?_eq_some_iff.1 hb96).1).trans hb96; obtain ⟨⟨-, -, -, q3, -⟩, -⟩ := cell_row5 hb97; obtain ⟨⟨-, -, -, r3, -⟩, -⟩ := cell_row5 (heap_alloc_new z6 (.cells #[.slice p10 sE.length c10, .int .u8 0, .int .i64 0, .string ⟨#[122, 101, 114, 111]⟩, .int .i64 0] 28)))
          | (go_at_call 6; (with_reducible refine (HLV (z6.alloc (.cells #[.slice p10 sE.length c10, .int .u8 0, .int .i64 0, .string ⟨#[122, 101, 114, 111]⟩, .int .i64 0] 28))).mono ?_); rintro e z7 ⟨rfl, hB7⟩))
        go_ret
        have c3 := hB1.trans ((hB2.trans (hB3.mono hB2.size)).mono hB1.size)
        have c4 := c3.trans ((below1 z3 (.cells #[.slice p9 sE.length c9, .int .u8 0, .int .i64 0, .string ⟨#[122, 101, 114, 111]⟩, .int .i64 0] 28)).mono c3.size)
        have c5 := c4.trans (hB4.mono c4.size)
        have c6 := c5.trans (hB5.mono c5.size)
        have c7 := c6.trans (hB6.mono c6.size)
        have c8 := c7.trans ((below1 z6 (.cells #[.slice p10 sE.length c10, .int .u8 0, .int .i64 0, .string ⟨#[122, 101, 114, 111]⟩, .int .i64 0] 28)).mono c7.size)
        have c9 := c8.trans (hB7.mono c8.size)
        exact ⟨rfl, hBy6.trans (c9.mono hBy6.size)⟩
      · have hbn : (b == 0) = false := by simpa using hb0
        have hwd := wrap_div (b := b) ha
        have HDv : ∀ W : World, Calls Try.prog 4 #[.slice none 0 0, .int .u8 4, .agg #[.int .u8 2, .int .i64 a], .agg #[.int .u8 2, .int .i64 b]] W (DidR W sE ⟨2, wrap64 (Int.tdiv a b)⟩ ⟨#[]⟩ 0) := fun W => Bin_Div (ask_nil W) 0 a b ⟨sE, ⟨2, wrap64 (Int.tdiv a b)⟩, ⟨#[]⟩, 0⟩ (by rw [if_neg hb0]; rfl)
        have HMd : ∀ W : World, Calls Try.prog 4 #[.slice none 0 0, .int .u8 5, .agg #[.int .u8 2, .int .i64 a], .agg #[.int .u8 2, .int .i64 b]] W (DidR W sE ⟨2, Int.tmod a b⟩ ⟨#[]⟩ 0) := fun W => Bin_Mod (ask_nil W) 0 a b ⟨sE, ⟨2, Int.tmod a b⟩, ⟨#[]⟩, 0⟩ (by rw [if_neg hb0]; rfl)
        generalize wrap64 (Int.tdiv a b) = q at hwd HDv
        generalize Int.tmod a b = r at hwd HMd
        have HMu := fun (W : World) => HMul q b W
        generalize wrap64 (q * b) = m at hwd HMu
        have HAd : ∀ W : World, Calls Try.prog 4 #[.slice none 0 0, .int .u8 1, .agg #[.int .u8 2, .int .i64 m], .agg #[.int .u8 2, .int .i64 r]] W (DidR W sE ⟨2, a⟩ ⟨#[]⟩ 0) := fun W => by
          have := HAdd m r W
          rw [hwd] at this
          exact this
        clear HAdd HSub HMul hwd
        go_wp2_with (first
          | (go_at_call 5; (with_reducible refine (HW a y6).mono ?_); rintro e z1 ⟨rfl, hB1⟩)
          | (go_at_call 5; (with_reducible refine (HW b z1).mono ?_); rintro e z2 ⟨rfl, hB2⟩)
          | (go_at_call 4; (with_reducible refine (HDv z2).mono ?_); rintro e z3 ⟨p9, c9, rfl, -, hB3⟩; have hb9 := heap_alloc_new z3 (.cells #[.slice p9 sE.length c9, .int .u8 2, .int .i64 q, .string ⟨#[]⟩, .int .i64 0] 28))
          | (go_at_call 5; (with_reducible refine (HW a (z3.alloc (.cells #[.slice p9 sE.length c9, .int .u8 2, .int .i64 q, .string ⟨#[]⟩, .int .i64 0] 28))).mono ?_); rintro e z4 ⟨rfl, hB4⟩; have hb94 := (hB4.block _ (Array.getElem?_eq_some_iff.1 hb9).1).trans hb9)
          | (go_at_call 5; (with_reducible refine (HW b z4).mono ?_); rintro e z5 ⟨rfl, hB5⟩; have hb95 := (hB5.block _ (Array.getElem?_eq_some_iff.1 hb94).1).trans hb94)
          | (go_at_call 4; (with_reducible refine (HMd z5).mono ?_); rintro e z6 ⟨p10, c10, rfl, -, hB6⟩; refine halt_here ?_))
        unfold Halted
        have hb96 := (hB6.block _ (Array.getElem?_eq_some_iff.1 hb95).1).trans hb95
        have k9 := ((below1 z6 (.cells #[.slice p10 sE.length c10, .int .u8 2, .int .i64 r, .string ⟨#[]⟩, .int .i64 0] 28)).block _ (Array.getElem?_eq_some_iff.1 hb96).1).trans hb96
        have k10 := heap_alloc_new z6 (.cells #[.slice p10 sE.length c10, .int .u8 2, .int .i64 r, .string ⟨#[]⟩, .int .i64 0] 28)
        have c3 := hB1.trans ((hB2.trans (hB3.mono hB2.size)).mono hB1.size)
        have c4 := c3.trans ((below1 z3 (.cells #[.slice p9 sE.length c9, .int .u8 2, .int .i64 q, .string ⟨#[]⟩, .int .i64 0] 28)).mono c3.size)
        have c5 := c4.trans (hB4.mono c4.size)
        have c6 := c5.trans (hB5.mono c5.size)
        have c7 := c6.trans (hB6.mono c6.size)
        have c8 := c7.trans ((below1 z6 (.cells #[.slice p10 sE.length c10, .int .u8 2, .int .i64 r, .string ⟨#[]⟩, .int .i64 0] 28)).mono c7.size)
        have hBV := hBy6.trans (c8.mono hBy6.size)
        go_wp2_with fail
        generalize z3.heap.size = B9 at *
        generalize hV : z6.alloc (.cells #[.slice p10 sE.length c10, .int .u8 2, .int .i64 r, .string ⟨#[]⟩, .int .i64 0] 28) = VV at k9 k10 hBV ⊢
        generalize z6.heap.size = B10 at *
        clear hV c3 c4 c5 c6 c7 c8 hB1 hB2 hB3 hB4 hB5 hB6 hb9 hb94 hb95 hb96 HDv HMd hBy6
        have lB9 := (Array.getElem?_eq_some_iff.1 k9).1
        have HMu' := fun (W : World) (_ : Below VV.heap.size VV W) => HMu W
        have FCS : ∀ W', Below VV.heap.size VV W' → W'.cell? ⟨B9, 1, none⟩ = some (.int .u8 2) ∧ W'.cell? ⟨B9, 2, none⟩ = some (.int .i64 q) := fun W' hb => by
          obtain ⟨⟨-, a1, a2, -, -⟩, -⟩ := cell_row5 ((hb.block _ (Array.getElem?_eq_some_iff.1 k9).1).trans k9)
          exact ⟨a1, a2⟩
        have FSET : ∀ (W' : World) (r : Nat), Below VV.heap.size VV W' → VV.heap.size ≤ r → ∀ x0 x1 x2 x3 x4, (fun W' => W'.cell? ⟨B9, 1, none⟩ = some (.int .u8 2) ∧ W'.cell? ⟨B9, 2, none⟩ = some (.int .i64 q)) (((((W'.setCell ⟨r, 0, none⟩ x0).setCell ⟨r, 1, none⟩ x1).setCell ⟨r, 2, none⟩ x2).setCell ⟨r, 3, none⟩ x3).setCell ⟨r, 4, none⟩ x4) := fun W' r hb hr x0 x1 x2 x3 x4 => by
          have hB9 : B9 ≠ r := by have := lB9; omega
          obtain ⟨a0, a1⟩ := FCS _ hb
          exact ⟨(cell_set5 hB9).trans a0, (cell_set5 hB9).trans a1⟩
        go_cut [11] from 74 (fun s2 W => ∃ B2 p2 c2, s2 = .pointer (some ⟨B2, 0, none⟩) ∧ DidAt W B2 sE ⟨2, m⟩ ⟨#[]⟩ 0 p2 c2 ∧ Below VV.heap.size VV W)
        case first =>
          have SW := FCS _ (Below.refl _ _)
          have hD0 := below_drew (Below.refl VV.heap.size VV)
          have hDa := below_drew (below1 VV (.cells #[.slice none 0 0, .int .u8 0, .int .i64 0, .string ⟨#[]⟩, .int .i64 0] 28))
          have hza : (VV.alloc (.cells #[.slice none 0 0, .int .u8 0, .int .i64 0, .string ⟨#[]⟩, .int .i64 0] 28)).drew.heap[VV.heap.size]? = _ := heap_alloc_new VV (.cells #[.slice none 0 0, .int .u8 0, .int .i64 0, .string ⟨#[]⟩, .int .i64 0] 28)
          have S0 := FCS _ hD0
          have Sa := FCS _ hDa
          go_region_held3 (fun W' => W'.cell? ⟨B9, 1, none⟩ = some (.int .u8 2) ∧ W'.cell? ⟨B9, 2, none⟩ = some (.int .i64 q)) (first | with_reducible exact SW | with_reducible exact S0 | with_reducible exact Sa | with_reducible exact S10 | with_reducible exact T10 | with_reducible exact SF | with_reducible exact TF | with_reducible exact UF | with_reducible exact VA _ _ _ _ _ | with_reducible exact V0 _ _ _ _ _ | go_keep)
            (first
              | (go_at_call 5; (with_reducible refine (HW b VV.drew).mono ?_); rintro e y0 ⟨rfl, hB0⟩; have hC0 := hD0.trans (hB0.mono hD0.size); have S10 := FCS _ hC0; have T10 := FCS _ (hC0.alloc hC0.size (.cells #[.slice none 0 0, .int .u8 0, .int .i64 0, .string ⟨#[]⟩, .int .i64 0] 28)))
              | (go_at_call 5; (with_reducible refine (HW b (VV.alloc (.cells #[.slice none 0 0, .int .u8 0, .int .i64 0, .string ⟨#[]⟩, .int .i64 0] 28)).drew).mono ?_); rintro e y0 ⟨rfl, hB0⟩; have hC0 := hDa.trans (hB0.mono hDa.size); have S10 := FCS _ hC0; have T10 := FCS _ (hC0.alloc hC0.size (.cells #[.slice none 0 0, .int .u8 0, .int .i64 0, .string ⟨#[]⟩, .int .i64 0] 28)); have hz0 := (hB0.block _ (Array.getElem?_eq_some_iff.1 hza).1).trans hza)
              | (go_at_call 4; (with_reducible refine (HMu' y0 hC0).mono ?_); rintro e yF ⟨p2, c2, rfl, ⟨ts, hm, hO⟩, hBF⟩; have hCF := hC0.trans (hBF.mono hC0.size); have SF := FCS _ hCF; have TF := FCS _ (hCF.alloc hCF.size (.cells #[.slice none 0 0, .int .u8 0, .int .i64 0, .string ⟨#[]⟩, .int .i64 0] 28)); have UF := FCS _ (hCF.alloc hCF.size (.cells #[.slice p2 sE.length c2, .int .u8 2, .int .i64 m, .string ⟨#[]⟩, .int .i64 0] 28)); have hzF := (hBF.block _ (Array.getElem?_eq_some_iff.1 hz0).1).trans hz0; obtain ⟨⟨z0, z1, z2, z3, z4⟩, t0, t1, t2, t3, t4⟩ := cell_row5 hzF; have VA := FSET _ VV.heap.size hCF (Nat.le_refl _); have V0 := FSET _ y0.heap.size hCF hC0.size)
              | (go_at_call 4; (with_reducible refine (HMu' y0 hC0).mono ?_); rintro e yF ⟨p2, c2, rfl, ⟨ts, hm, hO⟩, hBF⟩; have hCF := hC0.trans (hBF.mono hC0.size); have SF := FCS _ hCF; have TF := FCS _ (hCF.alloc hCF.size (.cells #[.slice none 0 0, .int .u8 0, .int .i64 0, .string ⟨#[]⟩, .int .i64 0] 28)); have UF := FCS _ (hCF.alloc hCF.size (.cells #[.slice p2 sE.length c2, .int .u8 2, .int .i64 m, .string ⟨#[]⟩, .int .i64 0] 28)))
              | (go_at_call 4; (with_reducible refine (HMu' (y0.alloc (.cells #[.slice none 0 0, .int .u8 0, .int .i64 0, .string ⟨#[]⟩, .int .i64 0] 28)) (hC0.alloc hC0.size (.cells #[.slice none 0 0, .int .u8 0, .int .i64 0, .string ⟨#[]⟩, .int .i64 0] 28))).mono ?_); rintro e yF ⟨p2, c2, rfl, ⟨ts, hm, hO⟩, hBF⟩; have hCF := (hC0.alloc hC0.size (.cells #[.slice none 0 0, .int .u8 0, .int .i64 0, .string ⟨#[]⟩, .int .i64 0] 28)).trans (hBF.mono (hC0.alloc hC0.size (.cells #[.slice none 0 0, .int .u8 0, .int .i64 0, .string ⟨#[]⟩, .int .i64 0] 28)).size); have SF := FCS _ hCF; have TF := FCS _ (hCF.alloc hCF.size (.cells #[.slice none 0 0, .int .u8 0, .int .i64 0, .string ⟨#[]⟩, .int .i64 0] 28)); have UF := FCS _ (hCF.alloc hCF.size (.cells #[.slice p2 sE.length c2, .int .u8 2, .int .i64 m, .string ⟨#[]⟩, .int .i64 0] 28)); have hzF := (hBF.block _ (Array.getElem?_eq_some_iff.1 (heap_alloc_new y0 (.cells #[.slice none 0 0, .int .u8 0, .int .i64 0, .string ⟨#[]⟩, .int .i64 0] 28))).1).trans (heap_alloc_new y0 (.cells #[.slice none 0 0, .int .u8 0, .int .i64 0, .string ⟨#[]⟩, .int .i64 0] 28)); obtain ⟨⟨z0, z1, z2, z3, z4⟩, t0, t1, t2, t3, t4⟩ := cell_row5 hzF; have VA := FSET _ VV.heap.size hCF (Nat.le_refl _); have V0 := FSET _ y0.heap.size hCF hC0.size))
          all_goals
            go_wp2_with fail
            go_meet
            case rel =>
              first
              | exact ⟨_, p2, c2, rfl, did_at (v := ⟨2, m⟩) (t := ⟨#[]⟩) (n := 0) hm hO hzF, below_set5 hCF (by first | exact Nat.le_refl _ | exact hC0.size | exact hC0.size) _ _ _ _ _⟩
              | exact ⟨_, p2, c2, rfl, did_nw (v := ⟨2, m⟩) (t := ⟨#[]⟩) (n := 0) hm hO, hCF.alloc hCF.size _⟩
        case rest =>
          obtain ⟨B11, p11, c11, rfl, hA11, hBB11⟩ := hcut
          rename World => VB
          clear FCS FSET HMu HMu'
          have j10 := (hBB11.block _ (Array.getElem?_eq_some_iff.1 k10).1).trans k10
          have hBVB := hBV.trans (hBB11.mono hBV.size)
          obtain ⟨⟨-, u1, u2, -, -⟩, -⟩ := cell_row5 hA11.blk
          obtain ⟨⟨-, v1, v2, -, -⟩, -⟩ := cell_row5 j10
          clear k9 k10 hBB11
          go_wp2_with (first
            | (go_at_call 4; (with_reducible refine (HAd VB).mono ?_); rintro e x1 ⟨p12, c12, rfl, -, hB1⟩; refine halt_here ?_))
          unfold Halted
          go_wp2_with fail
          have k12 := heap_alloc_new x1 (.cells #[.slice p12 sE.length c12, .int .u8 2, .int .i64 a, .string ⟨#[]⟩, .int .i64 0] 28)
          have d1 := hB1.trans ((below1 x1 (.cells #[.slice p12 sE.length c12, .int .u8 2, .int .i64 a, .string ⟨#[]⟩, .int .i64 0] 28)).mono hB1.size)
          have hBX := hBVB.trans (d1.mono hBVB.size)
          generalize hX : x1.alloc (.cells #[.slice p12 sE.length c12, .int .u8 2, .int .i64 a, .string ⟨#[]⟩, .int .i64 0] 28) = XX at k12 hBX d1 ⊢
          generalize x1.heap.size = B12 at *
          clear hX d1 hB1 u1 u2 v1 v2 j10 hA11 HAd
          have FCS : ∀ W', Below XX.heap.size XX W' → W'.cell? ⟨B12, 1, none⟩ = some (.int .u8 2) ∧ W'.cell? ⟨B12, 2, none⟩ = some (.int .i64 a) := fun W' hb => by
            obtain ⟨⟨-, b1, b2, -, -⟩, -⟩ := cell_row5 ((hb.block _ (Array.getElem?_eq_some_iff.1 k12).1).trans k12)
            exact ⟨b1, b2⟩
          have hD0 := below_drew (Below.refl XX.heap.size XX)
          have S0 := FCS _ hD0
          have SW := FCS _ (Below.refl _ _)
          go_region_held3 (fun W' => W'.cell? ⟨B12, 1, none⟩ = some (.int .u8 2) ∧ W'.cell? ⟨B12, 2, none⟩ = some (.int .i64 a)) (first | with_reducible exact SW | with_reducible exact S0 | with_reducible exact S1 | with_reducible exact S2 | go_keep)
            (first
              | (go_at_call 5; (with_reducible refine (HW a XX.drew).mono ?_); rintro e y1 ⟨rfl, hB1⟩; have hC1 := hD0.trans (hB1.mono hD0.size); have S1 := FCS _ hC1; have HN1 := eqlValI y1 a)
              | (go_at_call 6; (with_reducible refine (HLV y1).mono ?_); rintro e y2 ⟨rfl, hB2⟩; have hC2 := hC1.trans (hB2.mono hC1.size); have S2 := FCS _ hC2))
          all_goals
            go_wp2
            go_ret
            exact ⟨rfl, hBX.trans (hC2.mono hBX.size)⟩

end Go.Proofs.Ytgokofomoachaaa
