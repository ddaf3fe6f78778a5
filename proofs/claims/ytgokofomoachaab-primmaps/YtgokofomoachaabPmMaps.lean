/- PrimMaps: the walk. -/
import Derived.Test.YtgokofomoachaabPmSeen
import Derived.Deep.CutRange
namespace Go.Proofs.Ytgokofomoachaab
set_option linter.unusedVariables false
set_option linter.unusedSimpArgs false
open Go.RowKit Go.Maps

variable {w : World}

theorem conv8 {x : Int} (h : -128 ≤ x ∧ x ≤ 127) : IntKind.i64.wrap x = x := by
  have key : ∀ (b : Bool) (m : Int), (b = true ↔ m ≥ 2 ^ 63) → m = x % 2 ^ 64 → (if b = true then m - 2 ^ 64 else m) = x := by
    intro b m hb hm
    by_cases e : b = true
    · rw [if_pos e]; have := hb.1 e; omega
    · rw [if_neg e]; have : ¬ m ≥ 2 ^ 63 := fun h => e (hb.2 h); omega
  exact key (true && decide (x % 2 ^ 64 ≥ 2 ^ 63)) (x % 2 ^ 64) (by simp) rfl

theorem pset2_row {W : World} {g : Nat} {a b x y : Value} {t : TypeId} (h : W.heap[g]? = some (.cells #[a, b] t (0, 0))) : ((W.setCell ⟨g, 0, none⟩ x).setCell ⟨g, 1, none⟩ y).heap[g]? = some (.cells #[x, y] t (0, 0)) := by
  have h1 := heap_setCell_same W g 0 _ t x h
  have h2 := heap_setCell_same _ g 1 _ t y h1
  simpa using h2

theorem pcell_row2f {W : World} {g : Nat} {a b : Value} {t : TypeId} (h : W.heap[g]? = some (.cells #[a, b] t (0, 0))) :
    (W.cell? ⟨g, 0, none⟩ = some a ∧ W.cell? ⟨g, 1, none⟩ = some b) ∧ W.frozen? ⟨g, 0, none⟩ = false ∧ W.frozen? ⟨g, 1, none⟩ = false :=
  ⟨⟨by rw [cell_of_row W g 0 _ _ _ h]; rfl, by rw [cell_of_row W g 1 _ _ _ h]; rfl⟩, frozen_of_row W g 0 _ _ h, frozen_of_row W g 1 _ _ h⟩

theorem pcell_set2 {W : World} {g : Nat} {x y : Value} {a : Addr} (h : a.block ≠ g) : ((W.setCell ⟨g, 0, none⟩ x).setCell ⟨g, 1, none⟩ y).cell? a = W.cell? a :=
  (World.cell?_setCell_other _ _ _ _ (fun e => h (by cases e; rfl))).trans (World.cell?_setCell_other _ _ _ _ (fun e => h (by cases e; rfl)))

theorem pbelow_set {n : Nat} {w W : World} (h : Below n w W) {g i : Nat} (hg : n ≤ g) (v : Value) : Below n w (W.setCell ⟨g, i, none⟩ v) :=
  ⟨h.os, h.tape, h.output, by simpa [World.setCell] using h.size, fun k hk => (heap_setCell_other W ⟨g, i, none⟩ k v (by intro e; simp only at e; omega)).trans (h.block k hk)⟩

theorem pbelow_set2 {n : Nat} {w W : World} (h : Below n w W) {g : Nat} (hg : n ≤ g) (x y : Value) : Below n w ((W.setCell ⟨g, 0, none⟩ x).setCell ⟨g, 1, none⟩ y) := pbelow_set (pbelow_set h hg x) hg y

/-- Between the rounds of the first loop. -/
def L1 (w wr : World) (xs : List Int) (B7 bM : Nat) (p1 : Option Addr) (c1 : Nat) (s8 s10 : Value) : Prop :=
  ∃ (i : Nat) (p : Option Addr) (c : Nat) (r : Int), s8 = .slice p (sM (mfold xs i) r).length c ∧ s10 = .int .i64 i ∧ i ≤ xs.length ∧ IsSt wr p (sM (mfold xs i) r) ∧ MapOk (mfold xs i) r ∧ IsSeen wr bM i (mfold xs i) ∧ wr.heap[B7]? = some (.cells #[.slice p1 1 c1, .int .u8 5, .int .i64 1, .string ⟨#[]⟩, .int .i64 3] 30 (0, 0)) ∧ Below w.heap.size w wr

/-- How many rounds are left. -/
def left (n : Nat) : Value → Nat
  | .int _ i => n - i.toNat
  | _ => 0

set_option maxRecDepth 20000 in
set_option maxHeartbeats 4000000 in
theorem primMaps_walk (xs : List Int) (q : Option Addr) (cap : Nat) (k v : Int) (hx : I8s w q xs) (hk : I6 k) (hv : I6 v) : Calls Try.prog 3 #[.slice q xs.length cap, .int .i64 k, .int .i64 v] w fun e w' => e = .returned (.bool true) ∧ Below w.heap.size w w' := by
  have HW := fun (n : Int) (W : World) => lwhole_in n W
  have HLV := fun (W : World) => lives_in W
  have HM := mapNil_in w
  have hmm := @run_makeMap Try.prog
  go_enter Try.func3, Try.ntmps3
  by_cases h300 : 300 < xs.length
  · have hd : decide ((300 : Int) < (xs.length : Int)) = true := by simp; omega
    have hd2 : (300 : Int) < (xs.length : Int) := by omega
    go_wp2_with (first
      | (go_at_call 4; (with_reducible refine (HLV w).mono ?_); rintro e w1 ⟨rfl, hB1⟩))
    go_ret
    exact ⟨rfl, hB1⟩
  · have hd2 : ¬ (300 : Int) < (xs.length : Int) := by omega
    have hd : decide ((300 : Int) < (xs.length : Int)) = false := by simp; omega
    go_wp2_with (first
      | (go_at_call 5; (with_reducible refine HM.mono ?_); rintro e w1 ⟨p1, c1, rfl, ⟨ts, hm, hO⟩, hB1⟩; obtain ⟨⟨q0, q1, q2, q3, q4⟩, -⟩ := cell_row5 (heap_alloc_new w1 (.cells #[.slice p1 [mapO [] 0].length c1, .int .u8 5, .int .i64 1, .string ⟨#[]⟩, .int .i64 3] 30))))
    have hA1 := did_nw (v := ⟨5, 1⟩) (t := ⟨#[]⟩) (n := 3) hm hO
    have hBW := hB1.trans ((below1 w1 (.cells #[.slice p1 [mapO [] 0].length c1, .int .u8 5, .int .i64 1, .string ⟨#[]⟩, .int .i64 3] 30)).mono hB1.size)
    simp only [show ((5 : Nat) : Int) = 5 from rfl] at hA1
    have hsz : (w1.alloc (.cells #[.slice p1 [mapO [] 0].length c1, .int .u8 5, .int .i64 1, .string ⟨#[]⟩, .int .i64 3] 30)).heap.size = w1.heap.size + 1 := by simp
    generalize hWA : w1.alloc (.cells #[.slice p1 [mapO [] 0].length c1, .int .u8 5, .int .i64 1, .string ⟨#[]⟩, .int .i64 3] 30) = WA at hA1 hBW hsz q0 q1 q2 q3 q4 ⊢
    generalize w1.heap.size = B7 at *
    clear hWA hm hO hB1 HM q0 q1 q2 q3 q4
    have lB7 := (Array.getElem?_eq_some_iff.1 hA1.blk).1
    have hS0 := IsSeen.made WA
    have hA2 := hA1.below (below1 WA (.map #[] 0))
    have hB2 := hBW.trans ((below1 WA (.map #[] 0)).mono hBW.size)
    have hBM : w.heap.size ≤ WA.heap.size := hBW.size
    generalize hWM : WA.alloc (.map #[] 0) = WM at hS0 hA2 hB2 ⊢
    rw [hsz] at hS0 hBM
    generalize hbM : B7 + 1 = bM at hS0 hBM ⊢
    clear hWM hbM hsz hA1 hBW lB7
    go_loopw [8, 10] (fun s8 s10 wr => L1 w wr xs B7 bM p1 c1 s8 s10) (fun s8 s10 wr => left xs.length s10)
    case atStart => exact ⟨0, p1, c1, 0, rfl, rfl, Nat.zero_le _, hA2.st, ⟨by simp [mfold], by simp [mfold, mkeys], by simp [mfold, mflat], by simp [mfold, mflat], by simp [mfold]⟩, hS0, hA2.blk, hB2⟩
    case round =>
      clear hA2 hB2 hS0
      rename_i wr
      obtain ⟨i, p, c, r, rfl, rfl, hi, hst, hok, hse, hb7, hB⟩ := hrel
      have lB7 := (Array.getElem?_eq_some_iff.1 hb7).1
      by_cases hlt : i < xs.length
      · have hd3 : decide ((i : Int) < (xs.length : Int)) = true := by simp; omega
        have hd4 : ((i : Int) < (xs.length : Int)) := by omega
        have hd5 : (0 : Int) ≤ (i : Int) := by omega
        have hxi : xs[i]? = some xs[i] := List.getElem?_eq_getElem hlt
        obtain ⟨b0, off, rfl, lb0, hcx⟩ := hx.at_ hB hxi
        have hrg := (hx i _ hxi).2
        have hfi : mfold xs (i + 1) = mput (mfold xs i) xs[i] i := by rw [mfold]; simp [List.getD, hxi]
        generalize hxg : xs[i] = x at hcx hrg hfi
        have lb0' : b0 < wr.heap.size := Nat.lt_of_lt_of_le lb0 hB.size
        have hcv := conv8 hrg
        obtain ⟨n, hn⟩ := putPair_ints hok x i
        have HP : ∀ W', Below wr.heap.size wr W' → Calls Try.prog 6 #[.slice p (sM (mfold xs i) r).length c, .agg #[.int .u8 5, .int .i64 1], .agg #[.int .u8 2, .int .i64 x], .agg #[.int .u8 2, .int .i64 (i : Int)]] W' (DidR W' (sM (mput (mfold xs i) x i) (mroom (mfold xs i) r x)) ⟨0, 0⟩ ⟨#[]⟩ n) := fun W' hb => mPut_in hok (hst.below hb) c x i n hn
        go_wp2_with fail
        have FCS : ∀ W', Below wr.heap.size wr W' → W'.cell? ⟨B7, 1, none⟩ = some (.int .u8 5) ∧ W'.cell? ⟨B7, 2, none⟩ = some (.int .i64 1) ∧ W'.cell? ⟨b0, off + i, none⟩ = some (.int .i8 x) := fun W' hb => by
          obtain ⟨⟨-, a1, a2, -, -⟩, -⟩ := cell_row5 ((hb.block _ lB7).trans hb7)
          exact ⟨a1, a2, (hb.cell (p := ⟨b0, off + i, none⟩) lb0').trans hcx⟩
        have FSET : ∀ (W' : World) (r : Nat), Below wr.heap.size wr W' → wr.heap.size ≤ r → ∀ x0 x1 x2 x3 x4, (fun W' => W'.cell? ⟨B7, 1, none⟩ = some (.int .u8 5) ∧ W'.cell? ⟨B7, 2, none⟩ = some (.int .i64 1) ∧ W'.cell? ⟨b0, off + i, none⟩ = some (.int .i8 x)) (((((W'.setCell ⟨r, 0, none⟩ x0).setCell ⟨r, 1, none⟩ x1).setCell ⟨r, 2, none⟩ x2).setCell ⟨r, 3, none⟩ x3).setCell ⟨r, 4, none⟩ x4) := fun W' r hb hr x0 x1 x2 x3 x4 => by
          have hB7 : B7 ≠ r := by omega
          have hb0 : b0 ≠ r := by omega
          obtain ⟨a1, a2, a3⟩ := FCS _ hb
          exact ⟨(cell_set5 hB7).trans a1, (cell_set5 hB7).trans a2, (cell_set5 hb0).trans a3⟩
        go_cut [11] from 28 to 56 (fun s2 W => ∃ B2 p2 c2, s2 = .pointer (some ⟨B2, 0, none⟩) ∧ DidAt W B2 (sM (mput (mfold xs i) x i) (mroom (mfold xs i) r x)) ⟨0, 0⟩ ⟨#[]⟩ n p2 c2 ∧ Below wr.heap.size wr W)
        case first =>
          have SW := FCS _ (Below.refl _ _)
          have hD0 := below_drew (Below.refl wr.heap.size wr)
          have hDa := below_drew (below1 wr (.cells #[.slice none 0 0, .int .u8 0, .int .i64 0, .string ⟨#[]⟩, .int .i64 0] 30))
          have hza : (wr.alloc (.cells #[.slice none 0 0, .int .u8 0, .int .i64 0, .string ⟨#[]⟩, .int .i64 0] 30)).drew.heap[wr.heap.size]? = _ := heap_alloc_new wr (.cells #[.slice none 0 0, .int .u8 0, .int .i64 0, .string ⟨#[]⟩, .int .i64 0] 30)
          have S0 := FCS _ hD0
          have Sa := FCS _ hDa
          go_region_held3 (fun W' => W'.cell? ⟨B7, 1, none⟩ = some (.int .u8 5) ∧ W'.cell? ⟨B7, 2, none⟩ = some (.int .i64 1) ∧ W'.cell? ⟨b0, off + i, none⟩ = some (.int .i8 x)) (first | with_reducible exact SW | with_reducible exact S0 | with_reducible exact Sa | with_reducible exact S10 | with_reducible exact T10 | with_reducible exact S11 | with_reducible exact T11 | with_reducible exact SF | with_reducible exact TF | with_reducible exact UF | with_reducible exact VA _ _ _ _ _ | with_reducible exact V0 _ _ _ _ _ | with_reducible exact V1 _ _ _ _ _ | go_keep)
            (first
              | (go_at_call 7; (with_reducible refine (HW x wr.drew).mono ?_); rintro e y0 ⟨rfl, hB0⟩; have hC0 := hD0.trans (hB0.mono hD0.size); have S10 := FCS _ hC0; have T10 := FCS _ (hC0.alloc hC0.size (.cells #[.slice none 0 0, .int .u8 0, .int .i64 0, .string ⟨#[]⟩, .int .i64 0] 30)))
              | (go_at_call 7; (with_reducible refine (HW x (wr.alloc (.cells #[.slice none 0 0, .int .u8 0, .int .i64 0, .string ⟨#[]⟩, .int .i64 0] 30)).drew).mono ?_); rintro e y0 ⟨rfl, hB0⟩; have hC0 := hDa.trans (hB0.mono hDa.size); have S10 := FCS _ hC0; have T10 := FCS _ (hC0.alloc hC0.size (.cells #[.slice none 0 0, .int .u8 0, .int .i64 0, .string ⟨#[]⟩, .int .i64 0] 30)); have hz0 := (hB0.block _ (Array.getElem?_eq_some_iff.1 hza).1).trans hza)
              | (go_at_call 7; (with_reducible refine (HW (i : Int) y0).mono ?_); rintro e y1 ⟨rfl, hB1⟩; have hC1 := hC0.trans (hB1.mono hC0.size); have S11 := FCS _ hC1; have T11 := FCS _ (hC1.alloc hC1.size (.cells #[.slice none 0 0, .int .u8 0, .int .i64 0, .string ⟨#[]⟩, .int .i64 0] 30)); have hz1 := (hB1.block _ (Array.getElem?_eq_some_iff.1 hz0).1).trans hz0)
              | (go_at_call 7; (with_reducible refine (HW (i : Int) y0).mono ?_); rintro e y1 ⟨rfl, hB1⟩; have hC1 := hC0.trans (hB1.mono hC0.size); have S11 := FCS _ hC1; have T11 := FCS _ (hC1.alloc hC1.size (.cells #[.slice none 0 0, .int .u8 0, .int .i64 0, .string ⟨#[]⟩, .int .i64 0] 30)))
              | (go_at_call 7; (with_reducible refine (HW (i : Int) (y0.alloc (.cells #[.slice none 0 0, .int .u8 0, .int .i64 0, .string ⟨#[]⟩, .int .i64 0] 30))).mono ?_); rintro e y1 ⟨rfl, hB1⟩; have hC1 := (hC0.alloc hC0.size (.cells #[.slice none 0 0, .int .u8 0, .int .i64 0, .string ⟨#[]⟩, .int .i64 0] 30)).trans (hB1.mono (hC0.alloc hC0.size (.cells #[.slice none 0 0, .int .u8 0, .int .i64 0, .string ⟨#[]⟩, .int .i64 0] 30)).size); have S11 := FCS _ hC1; have T11 := FCS _ (hC1.alloc hC1.size (.cells #[.slice none 0 0, .int .u8 0, .int .i64 0, .string ⟨#[]⟩, .int .i64 0] 30)); have hz1 := (hB1.block _ (Array.getElem?_eq_some_iff.1 (heap_alloc_new y0 (.cells #[.slice none 0 0, .int .u8 0, .int .i64 0, .string ⟨#[]⟩, .int .i64 0] 30))).1).trans (heap_alloc_new y0 (.cells #[.slice none 0 0, .int .u8 0, .int .i64 0, .string ⟨#[]⟩, .int .i64 0] 30)))
              | (go_at_call 6; (with_reducible refine (HP y1 hC1).mono ?_); rintro e yF ⟨p2, c2, rfl, ⟨ts, hm, hO⟩, hBF⟩; have hCF := hC1.trans (hBF.mono hC1.size); have SF := FCS _ hCF; have TF := FCS _ (hCF.alloc hCF.size (.cells #[.slice none 0 0, .int .u8 0, .int .i64 0, .string ⟨#[]⟩, .int .i64 0] 30)); have UF := FCS _ (hCF.alloc hCF.size (.cells #[.slice p2 (sM (mput (mfold xs i) x i) (mroom (mfold xs i) r x)).length c2, .int .u8 0, .int .i64 0, .string ⟨#[]⟩, .int .i64 n] 30)); have hzF := (hBF.block _ (Array.getElem?_eq_some_iff.1 hz1).1).trans hz1; obtain ⟨⟨z0, z1, z2, z3, z4⟩, t0, t1, t2, t3, t4⟩ := cell_row5 hzF; have VA := FSET _ wr.heap.size hCF (Nat.le_refl _); have V0 := FSET _ y0.heap.size hCF hC0.size; have V1 := FSET _ y1.heap.size hCF hC1.size)
              | (go_at_call 6; (with_reducible refine (HP y1 hC1).mono ?_); rintro e yF ⟨p2, c2, rfl, ⟨ts, hm, hO⟩, hBF⟩; have hCF := hC1.trans (hBF.mono hC1.size); have SF := FCS _ hCF; have TF := FCS _ (hCF.alloc hCF.size (.cells #[.slice none 0 0, .int .u8 0, .int .i64 0, .string ⟨#[]⟩, .int .i64 0] 30)); have UF := FCS _ (hCF.alloc hCF.size (.cells #[.slice p2 (sM (mput (mfold xs i) x i) (mroom (mfold xs i) r x)).length c2, .int .u8 0, .int .i64 0, .string ⟨#[]⟩, .int .i64 n] 30)))
              | (go_at_call 6; (with_reducible refine (HP (y1.alloc (.cells #[.slice none 0 0, .int .u8 0, .int .i64 0, .string ⟨#[]⟩, .int .i64 0] 30)) (hC1.alloc hC1.size (.cells #[.slice none 0 0, .int .u8 0, .int .i64 0, .string ⟨#[]⟩, .int .i64 0] 30))).mono ?_); rintro e yF ⟨p2, c2, rfl, ⟨ts, hm, hO⟩, hBF⟩; have hCF := (hC1.alloc hC1.size (.cells #[.slice none 0 0, .int .u8 0, .int .i64 0, .string ⟨#[]⟩, .int .i64 0] 30)).trans (hBF.mono (hC1.alloc hC1.size (.cells #[.slice none 0 0, .int .u8 0, .int .i64 0, .string ⟨#[]⟩, .int .i64 0] 30)).size); have SF := FCS _ hCF; have TF := FCS _ (hCF.alloc hCF.size (.cells #[.slice none 0 0, .int .u8 0, .int .i64 0, .string ⟨#[]⟩, .int .i64 0] 30)); have UF := FCS _ (hCF.alloc hCF.size (.cells #[.slice p2 (sM (mput (mfold xs i) x i) (mroom (mfold xs i) r x)).length c2, .int .u8 0, .int .i64 0, .string ⟨#[]⟩, .int .i64 n] 30)); have hzF := (hBF.block _ (Array.getElem?_eq_some_iff.1 (heap_alloc_new y1 (.cells #[.slice none 0 0, .int .u8 0, .int .i64 0, .string ⟨#[]⟩, .int .i64 0] 30))).1).trans (heap_alloc_new y1 (.cells #[.slice none 0 0, .int .u8 0, .int .i64 0, .string ⟨#[]⟩, .int .i64 0] 30)); obtain ⟨⟨z0, z1, z2, z3, z4⟩, t0, t1, t2, t3, t4⟩ := cell_row5 hzF; have VA := FSET _ wr.heap.size hCF (Nat.le_refl _); have V0 := FSET _ y0.heap.size hCF hC0.size; have V1 := FSET _ y1.heap.size hCF hC1.size))
          all_goals
            go_wp2_with fail
            go_meet
            case rel =>
              first
              | exact ⟨_, p2, c2, rfl, did_at (v := ⟨0, 0⟩) (t := ⟨#[]⟩) (n := n) hm hO hzF, below_set5 hCF (by first | exact Nat.le_refl _ | exact hC0.size | exact hC1.size) _ _ _ _ _⟩
              | exact ⟨_, p2, c2, rfl, did_nw (v := ⟨0, 0⟩) (t := ⟨#[]⟩) (n := n) hm hO, hCF.alloc hCF.size _⟩
        case rest =>
          obtain ⟨B2, p2, c2, rfl, hA2, hBB⟩ := hcut
          rename World => WB
          clear FCS FSET HP
          have hse' := hse.kept (hBB.block _ hse.lt)
          obtain ⟨⟨u0, u1, u2, u3, u4⟩, -⟩ := cell_row5 hA2.blk
          have hcx' := (hBB.cell (p := ⟨b0, off + i, none⟩) lb0').trans hcx
          have hb7' := (hBB.block _ lB7).trans hb7
          have hne7 := hse'.cellNe (cell_row5 hb7').1.1
          have hI6i : I6 (i : Int) := ⟨by omega, by omega⟩
          have hI6x : I6 x := ⟨by omega, by omega⟩
          obtain ⟨w3, hrun, hse3, hS3⟩ := hse'.put x i hrg hI6i (by unfold maxLen; omega)
          have hml := mfold_len xs i
          go_wp2
          go_roundw
          case rel =>
            refine ⟨i + 1, p2, c2, mroom (mfold xs i) r x, by rw [hfi], by simp, hlt, by rw [hfi]; exact hA2.st.mstep hS3 (fun h => hse'.cellNe h), by rw [hfi]; exact hok.put hI6x hI6i (by omega), by rw [hfi]; exact hse3, (hS3.block _ (Array.getElem?_eq_some_iff.1 hb7').1 hne7).trans hb7', ?_⟩
            have h1 := hB.trans (hBB.mono hB.size)
            exact h1.trans (hS3.below hBM h1.size)
          case measure => simp [left]; omega
      · have hi' : i = xs.length := by omega
        subst hi'
        have hd3 : decide ((xs.length : Int) < (xs.length : Int)) = false := by simp
        have hd4 : ¬ ((xs.length : Int) < (xs.length : Int)) := by omega
        have hhas : ∀ (j : Nat) (x : Int), xs[j]? = some x → ∃ u, mget (mfold xs xs.length) x = some u := fun j x hj => mfold_has hj _ (List.getElem?_eq_some_iff.1 hj).1
        have hml := mfold_len xs xs.length
        generalize hM : mfold xs xs.length = M at *
        clear hM
        obtain ⟨⟨-, q1, q2, -, -⟩, -⟩ := cell_row5 hb7
        have HL : Calls Try.prog 8 #[.slice p (sM M r).length c, .agg #[.int .u8 5, .int .i64 1]] wr (DidR wr (sM M r) ⟨2, M.length⟩ ⟨#[]⟩ 0) := mapLen_in hok hst c
        go_wp2_with (first
          | (go_at_call 8; (with_reducible refine HL.mono ?_); rintro e w2 ⟨p3, c3, rfl, -, hB2⟩; refine halt_here ?_))
        unfold Halted
        go_wp2_with fail
        have k12 := heap_alloc_new w2 (.cells #[.slice p3 (sM M r).length c3, .int .u8 2, .int .i64 M.length, .string ⟨#[]⟩, .int .i64 0] 30)
        have hBN := hB2.trans ((below1 w2 (.cells #[.slice p3 (sM M r).length c3, .int .u8 2, .int .i64 M.length, .string ⟨#[]⟩, .int .i64 0] 30)).mono hB2.size)
        generalize hWN : w2.alloc (.cells #[.slice p3 (sM M r).length c3, .int .u8 2, .int .i64 M.length, .string ⟨#[]⟩, .int .i64 0] 30) = WN at k12 hBN ⊢
        generalize w2.heap.size = B12 at *
        clear hWN hB2 HL q1 q2
        have hseN := hse.kept (hBN.block _ hse.lt)
        have hbN := (hBN.block _ lB7).trans hb7
        have hstN := hst.below hBN
        have hBwN := hB.trans (hBN.mono hB.size)
        clear hse hb7 hst hB hBN lB7
        have FCS : ∀ W', Below WN.heap.size WN W' → W'.cell? ⟨B12, 1, none⟩ = some (.int .u8 2) ∧ W'.cell? ⟨B12, 2, none⟩ = some (.int .i64 M.length) ∧ (∀ ty : TypeId, (Builtin.len_ #[32] ty #[.map (some bM)]).run Try.prog W' = .ok (.int .i64 M.length) W') := fun W' hb => by
          obtain ⟨⟨-, b1, b2, -, -⟩, -⟩ := cell_row5 ((hb.block _ (Array.getElem?_eq_some_iff.1 k12).1).trans k12)
          exact ⟨b1, b2, (hseN.kept (hb.block _ hseN.lt)).len⟩
        have hD0 := below_drew (Below.refl WN.heap.size WN)
        have S0 := FCS _ hD0
        have SW := FCS _ (Below.refl _ _)
        have HLn := (hseN.kept (hD0.block _ hseN.lt)).len
        have HLn0 := hseN.len
        go_cut [66] from 61 (fun s66 W => s66 = .bool false ∧ Below WN.heap.size WN W)
        case first =>
          go_region_held3 (fun W' => W'.cell? ⟨B12, 1, none⟩ = some (.int .u8 2) ∧ W'.cell? ⟨B12, 2, none⟩ = some (.int .i64 M.length) ∧ (∀ ty : TypeId, (Builtin.len_ #[32] ty #[.map (some bM)]).run Try.prog W' = .ok (.int .i64 M.length) W')) (first | with_reducible exact SW | with_reducible exact S0 | with_reducible exact S1 | go_keep)
            (first
              | (go_at_call 7; (with_reducible refine (HW M.length WN.drew).mono ?_); rintro e y1 ⟨rfl, hB1⟩; have hC1 := hD0.trans (hB1.mono hD0.size); have S1 := FCS _ hC1; have HN1 := neqVal y1 M.length))
          all_goals
            go_wp2_with fail
            go_meet
            case rel => exact ⟨rfl, hC1⟩
        case rest =>
          obtain ⟨rfl, hBC⟩ := hcut
          rename World => WC
          have hse := hseN.kept (hBC.block _ hseN.lt)
          have hb7 := (hBC.block _ (Array.getElem?_eq_some_iff.1 hbN).1).trans hbN
          have hst := hstN.below hBC
          have hB := hBwN.trans (hBC.mono hBwN.size)
          clear hseN hbN hstN hBwN hBC FCS SW S0 HLn HLn0 hD0 k12
          have lB7 := (Array.getElem?_eq_some_iff.1 hb7).1
          go_wp2_with fail
          obtain ⟨n, hn⟩ := putPair_ints hok k v
          have HP : ∀ W', Below WC.heap.size WC W' → Calls Try.prog 6 #[.slice p (sM M r).length c, .agg #[.int .u8 5, .int .i64 1], .agg #[.int .u8 2, .int .i64 k], .agg #[.int .u8 2, .int .i64 v]] W' (DidR W' (sM (mput M k v) (mroom M r k)) ⟨0, 0⟩ ⟨#[]⟩ n) := fun W' hb => mPut_in hok (hst.below hb) c k v n hn
          have FCS : ∀ W', Below WC.heap.size WC W' → W'.cell? ⟨B7, 1, none⟩ = some (.int .u8 5) ∧ W'.cell? ⟨B7, 2, none⟩ = some (.int .i64 1) := fun W' hb => by
            obtain ⟨⟨-, a1, a2, -, -⟩, -⟩ := cell_row5 ((hb.block _ lB7).trans hb7)
            exact ⟨a1, a2⟩
          have FSET : ∀ (W' : World) (r : Nat), Below WC.heap.size WC W' → WC.heap.size ≤ r → ∀ x0 x1 x2 x3 x4, (fun W' => W'.cell? ⟨B7, 1, none⟩ = some (.int .u8 5) ∧ W'.cell? ⟨B7, 2, none⟩ = some (.int .i64 1)) (((((W'.setCell ⟨r, 0, none⟩ x0).setCell ⟨r, 1, none⟩ x1).setCell ⟨r, 2, none⟩ x2).setCell ⟨r, 3, none⟩ x3).setCell ⟨r, 4, none⟩ x4) := fun W' r hb hr x0 x1 x2 x3 x4 => by
            have hB7 : B7 ≠ r := by have := lB7; omega
            obtain ⟨a0, a1⟩ := FCS _ hb
            exact ⟨(cell_set5 hB7).trans a0, (cell_set5 hB7).trans a1⟩
          go_cut [13] from 67 (fun s2 W => ∃ B2 p2 c2, s2 = .pointer (some ⟨B2, 0, none⟩) ∧ DidAt W B2 (sM (mput M k v) (mroom M r k)) ⟨0, 0⟩ ⟨#[]⟩ n p2 c2 ∧ Below WC.heap.size WC W)
          case first =>
            have SW := FCS _ (Below.refl _ _)
            have hD0 := below_drew (Below.refl WC.heap.size WC)
            have hDa := below_drew (below1 WC (.cells #[.slice none 0 0, .int .u8 0, .int .i64 0, .string ⟨#[]⟩, .int .i64 0] 30))
            have hza : (WC.alloc (.cells #[.slice none 0 0, .int .u8 0, .int .i64 0, .string ⟨#[]⟩, .int .i64 0] 30)).drew.heap[WC.heap.size]? = _ := heap_alloc_new WC (.cells #[.slice none 0 0, .int .u8 0, .int .i64 0, .string ⟨#[]⟩, .int .i64 0] 30)
            have S0 := FCS _ hD0
            have Sa := FCS _ hDa
            go_region_held3 (fun W' => W'.cell? ⟨B7, 1, none⟩ = some (.int .u8 5) ∧ W'.cell? ⟨B7, 2, none⟩ = some (.int .i64 1)) (first | with_reducible exact SW | with_reducible exact S0 | with_reducible exact Sa | with_reducible exact S10 | with_reducible exact T10 | with_reducible exact S11 | with_reducible exact T11 | with_reducible exact SF | with_reducible exact TF | with_reducible exact UF | with_reducible exact VA _ _ _ _ _ | with_reducible exact V0 _ _ _ _ _ | with_reducible exact V1 _ _ _ _ _ | go_keep)
              (first
                | (go_at_call 7; (with_reducible refine (HW k WC.drew).mono ?_); rintro e y0 ⟨rfl, hB0⟩; have hC0 := hD0.trans (hB0.mono hD0.size); have S10 := FCS _ hC0; have T10 := FCS _ (hC0.alloc hC0.size (.cells #[.slice none 0 0, .int .u8 0, .int .i64 0, .string ⟨#[]⟩, .int .i64 0] 30)))
                | (go_at_call 7; (with_reducible refine (HW k (WC.alloc (.cells #[.slice none 0 0, .int .u8 0, .int .i64 0, .string ⟨#[]⟩, .int .i64 0] 30)).drew).mono ?_); rintro e y0 ⟨rfl, hB0⟩; have hC0 := hDa.trans (hB0.mono hDa.size); have S10 := FCS _ hC0; have T10 := FCS _ (hC0.alloc hC0.size (.cells #[.slice none 0 0, .int .u8 0, .int .i64 0, .string ⟨#[]⟩, .int .i64 0] 30)); have hz0 := (hB0.block _ (Array.getElem?_eq_some_iff.1 hza).1).trans hza)
                | (go_at_call 7; (with_reducible refine (HW v y0).mono ?_); rintro e y1 ⟨rfl, hB1⟩; have hC1 := hC0.trans (hB1.mono hC0.size); have S11 := FCS _ hC1; have T11 := FCS _ (hC1.alloc hC1.size (.cells #[.slice none 0 0, .int .u8 0, .int .i64 0, .string ⟨#[]⟩, .int .i64 0] 30)); have hz1 := (hB1.block _ (Array.getElem?_eq_some_iff.1 hz0).1).trans hz0)
                | (go_at_call 7; (with_reducible refine (HW v y0).mono ?_); rintro e y1 ⟨rfl, hB1⟩; have hC1 := hC0.trans (hB1.mono hC0.size); have S11 := FCS _ hC1; have T11 := FCS _ (hC1.alloc hC1.size (.cells #[.slice none 0 0, .int .u8 0, .int .i64 0, .string ⟨#[]⟩, .int .i64 0] 30)))
                | (go_at_call 7; (with_reducible refine (HW v (y0.alloc (.cells #[.slice none 0 0, .int .u8 0, .int .i64 0, .string ⟨#[]⟩, .int .i64 0] 30))).mono ?_); rintro e y1 ⟨rfl, hB1⟩; have hC1 := (hC0.alloc hC0.size (.cells #[.slice none 0 0, .int .u8 0, .int .i64 0, .string ⟨#[]⟩, .int .i64 0] 30)).trans (hB1.mono (hC0.alloc hC0.size (.cells #[.slice none 0 0, .int .u8 0, .int .i64 0, .string ⟨#[]⟩, .int .i64 0] 30)).size); have S11 := FCS _ hC1; have T11 := FCS _ (hC1.alloc hC1.size (.cells #[.slice none 0 0, .int .u8 0, .int .i64 0, .string ⟨#[]⟩, .int .i64 0] 30)); have hz1 := (hB1.block _ (Array.getElem?_eq_some_iff.1 (heap_alloc_new y0 (.cells #[.slice none 0 0, .int .u8 0, .int .i64 0, .string ⟨#[]⟩, .int .i64 0] 30))).1).trans (heap_alloc_new y0 (.cells #[.slice none 0 0, .int .u8 0, .int .i64 0, .string ⟨#[]⟩, .int .i64 0] 30)))
                | (go_at_call 6; (with_reducible refine (HP y1 hC1).mono ?_); rintro e yF ⟨p2, c2, rfl, ⟨ts, hm, hO⟩, hBF⟩; have hCF := hC1.trans (hBF.mono hC1.size); have SF := FCS _ hCF; have TF := FCS _ (hCF.alloc hCF.size (.cells #[.slice none 0 0, .int .u8 0, .int .i64 0, .string ⟨#[]⟩, .int .i64 0] 30)); have UF := FCS _ (hCF.alloc hCF.size (.cells #[.slice p2 (sM (mput M k v) (mroom M r k)).length c2, .int .u8 0, .int .i64 0, .string ⟨#[]⟩, .int .i64 n] 30)); have hzF := (hBF.block _ (Array.getElem?_eq_some_iff.1 hz1).1).trans hz1; obtain ⟨⟨z0, z1, z2, z3, z4⟩, t0, t1, t2, t3, t4⟩ := cell_row5 hzF; have VA := FSET _ WC.heap.size hCF (Nat.le_refl _); have V0 := FSET _ y0.heap.size hCF hC0.size; have V1 := FSET _ y1.heap.size hCF hC1.size)
                | (go_at_call 6; (with_reducible refine (HP y1 hC1).mono ?_); rintro e yF ⟨p2, c2, rfl, ⟨ts, hm, hO⟩, hBF⟩; have hCF := hC1.trans (hBF.mono hC1.size); have SF := FCS _ hCF; have TF := FCS _ (hCF.alloc hCF.size (.cells #[.slice none 0 0, .int .u8 0, .int .i64 0, .string ⟨#[]⟩, .int .i64 0] 30)); have UF := FCS _ (hCF.alloc hCF.size (.cells #[.slice p2 (sM (mput M k v) (mroom M r k)).length c2, .int .u8 0, .int .i64 0, .string ⟨#[]⟩, .int .i64 n] 30)))
                | (go_at_call 6; (with_reducible refine (HP (y1.alloc (.cells #[.slice none 0 0, .int .u8 0, .int .i64 0, .string ⟨#[]⟩, .int .i64 0] 30)) (hC1.alloc hC1.size (.cells #[.slice none 0 0, .int .u8 0, .int .i64 0, .string ⟨#[]⟩, .int .i64 0] 30))).mono ?_); rintro e yF ⟨p2, c2, rfl, ⟨ts, hm, hO⟩, hBF⟩; have hCF := (hC1.alloc hC1.size (.cells #[.slice none 0 0, .int .u8 0, .int .i64 0, .string ⟨#[]⟩, .int .i64 0] 30)).trans (hBF.mono (hC1.alloc hC1.size (.cells #[.slice none 0 0, .int .u8 0, .int .i64 0, .string ⟨#[]⟩, .int .i64 0] 30)).size); have SF := FCS _ hCF; have TF := FCS _ (hCF.alloc hCF.size (.cells #[.slice none 0 0, .int .u8 0, .int .i64 0, .string ⟨#[]⟩, .int .i64 0] 30)); have UF := FCS _ (hCF.alloc hCF.size (.cells #[.slice p2 (sM (mput M k v) (mroom M r k)).length c2, .int .u8 0, .int .i64 0, .string ⟨#[]⟩, .int .i64 n] 30)); have hzF := (hBF.block _ (Array.getElem?_eq_some_iff.1 (heap_alloc_new y1 (.cells #[.slice none 0 0, .int .u8 0, .int .i64 0, .string ⟨#[]⟩, .int .i64 0] 30))).1).trans (heap_alloc_new y1 (.cells #[.slice none 0 0, .int .u8 0, .int .i64 0, .string ⟨#[]⟩, .int .i64 0] 30)); obtain ⟨⟨z0, z1, z2, z3, z4⟩, t0, t1, t2, t3, t4⟩ := cell_row5 hzF; have VA := FSET _ WC.heap.size hCF (Nat.le_refl _); have V0 := FSET _ y0.heap.size hCF hC0.size; have V1 := FSET _ y1.heap.size hCF hC1.size))
            all_goals
              go_wp2_with fail
              go_meet
              case rel =>
                first
                | exact ⟨_, p2, c2, rfl, did_at (v := ⟨0, 0⟩) (t := ⟨#[]⟩) (n := n) hm hO hzF, below_set5 hCF (by first | exact Nat.le_refl _ | exact hC0.size | exact hC1.size) _ _ _ _ _⟩
                | exact ⟨_, p2, c2, rfl, did_nw (v := ⟨0, 0⟩) (t := ⟨#[]⟩) (n := n) hm hO, hCF.alloc hCF.size _⟩
          case rest =>
            obtain ⟨B13, p4, c4, rfl, hA4, hBD⟩ := hcut
            rename World => WD
            have hokP := hok.put hk hv (by omega)
            have hgm := mget_mput M k v
            generalize mroom M r k = R at *
            clear FCS FSET HP hn
            have hseD := hse.kept (hBD.block _ hse.lt)
            have hb7D := (hBD.block _ lB7).trans hb7
            have hBwD := hB.trans (hBD.mono hB.size)
            clear hse hb7 hst hB hBD lB7
            have lB7 := (Array.getElem?_eq_some_iff.1 hb7D).1
            have lB13 := (Array.getElem?_eq_some_iff.1 hA4.blk).1
            have HG : ∀ (x g : Int), mget (mput M k v) x = some g → ∀ W', Below WD.heap.size WD W' → Calls Try.prog 9 #[.slice p4 (sM (mput M k v) R).length c4, .agg #[.int .u8 5, .int .i64 1], .agg #[.int .u8 2, .int .i64 x]] W' (DidR W' (sM (mput M k v) R) ⟨2, g⟩ ⟨#[]⟩ 0) := fun x g hg W' hb => mapGet_in hokP (hA4.st.below hb) c4 x g hg
            go_wp2_with fail
            go_loopw [14] (fun s14 wr => ∃ i : Nat, s14 = .int .i64 i ∧ i ≤ xs.length ∧ Below WD.heap.size WD wr) (fun s14 wr => left xs.length s14)
            case atStart => exact ⟨0, rfl, Nat.zero_le _, Below.refl _ _⟩
            case round =>
              rename_i wr
              obtain ⟨i, rfl, hi2, hBr⟩ := hrel
              have FS0 : ∀ W', Below wr.heap.size wr W' → W'.cell? ⟨B13, 0, none⟩ = some (.slice p4 (sM (mput M k v) R).length c4) ∧ W'.cell? ⟨B7, 1, none⟩ = some (.int .u8 5) ∧ W'.cell? ⟨B7, 2, none⟩ = some (.int .i64 1) := fun W' hb => by
                have hb' := hBr.trans (hb.mono hBr.size)
                obtain ⟨⟨-, a1, a2, -, -⟩, -⟩ := cell_row5 ((hb'.block _ lB7).trans hb7D)
                obtain ⟨⟨d0, -, -, -, -⟩, -⟩ := cell_row5 ((hb'.block _ lB13).trans hA4.blk)
                exact ⟨d0, a1, a2⟩
              have HFD1 := fldD1
              by_cases hlt : i < xs.length
              · have hd3 : decide ((i : Int) < (xs.length : Int)) = true := by simp; omega
                have hd4 : ((i : Int) < (xs.length : Int)) := by omega
                have hd5 : (0 : Int) ≤ (i : Int) := by omega
                have hxi : xs[i]? = some xs[i] := List.getElem?_eq_getElem hlt
                have hBwr := hBwD.trans (hBr.mono hBwD.size)
                obtain ⟨b0, off, rfl, lb0, hcx⟩ := hx.at_ hBwr hxi
                have hrg := (hx i _ hxi).2
                obtain ⟨u, hu⟩ := hhas i _ hxi
                generalize hxg : xs[i] = x at hcx hrg hu
                have lb0' : b0 < wr.heap.size := Nat.lt_of_lt_of_le lb0 hBwr.size
                have hcv := conv8 hrg
                obtain ⟨g, hg, hg1, hg2⟩ : ∃ g, mget (mput M k v) x = some g ∧ (x = k → g = v) ∧ (x ≠ k → g = u) := by
                  rw [hgm]
                  by_cases e : x = k
                  · exact ⟨v, by rw [if_pos e], fun _ => rfl, fun h => (h e).elim⟩
                  · exact ⟨u, by rw [if_neg e]; exact hu, fun h => (e h).elim, fun _ => rfl⟩
                have HGx : ∀ W', Below wr.heap.size wr W' → _ := fun W' hb => HG x g hg W' (hBr.trans (hb.mono hBr.size))
                go_wp2_with fail
                have FCS : ∀ W', Below wr.heap.size wr W' → W'.cell? ⟨B13, 0, none⟩ = some (.slice p4 (sM (mput M k v) R).length c4) ∧ W'.cell? ⟨B7, 1, none⟩ = some (.int .u8 5) ∧ W'.cell? ⟨B7, 2, none⟩ = some (.int .i64 1) ∧ W'.cell? ⟨b0, off + i, none⟩ = some (.int .i8 x) := fun W' hb => by
                  obtain ⟨a0, a1, a2⟩ := FS0 _ hb
                  exact ⟨a0, a1, a2, (hb.cell (p := ⟨b0, off + i, none⟩) lb0').trans hcx⟩
                have FSET : ∀ (W' : World) (r : Nat), Below wr.heap.size wr W' → wr.heap.size ≤ r → ∀ x0 x1, (fun W' => W'.cell? ⟨B13, 0, none⟩ = some (.slice p4 (sM (mput M k v) R).length c4) ∧ W'.cell? ⟨B7, 1, none⟩ = some (.int .u8 5) ∧ W'.cell? ⟨B7, 2, none⟩ = some (.int .i64 1) ∧ W'.cell? ⟨b0, off + i, none⟩ = some (.int .i8 x)) ((W'.setCell ⟨r, 0, none⟩ x0).setCell ⟨r, 1, none⟩ x1) := fun W' r hb hr x0 x1 => FCS _ (pbelow_set2 hb hr x0 x1)
                have SW := FCS _ (Below.refl _ _)
                have hD0 := below_drew (Below.refl wr.heap.size wr)
                have hDa := below_drew (below1 wr (.cells #[.int .u8 0, .int .i64 0] 28))
                have hza : (wr.alloc (.cells #[.int .u8 0, .int .i64 0] 28)).drew.heap[wr.heap.size]? = _ := heap_alloc_new wr (.cells #[.int .u8 0, .int .i64 0] 28)
                have S0 := FCS _ hD0
                have Sa := FCS _ hDa
                go_cut [15] from 75 to 111 (fun s2 W => ∃ B2, s2 = .pointer (some ⟨B2, 0, none⟩) ∧ W.heap[B2]? = some (.cells #[.int .u8 2, .int .i64 g] 28 (0, 0)) ∧ Below wr.heap.size wr W)
                case first =>
                  go_region_held3 (fun W' => W'.cell? ⟨B13, 0, none⟩ = some (.slice p4 (sM (mput M k v) R).length c4) ∧ W'.cell? ⟨B7, 1, none⟩ = some (.int .u8 5) ∧ W'.cell? ⟨B7, 2, none⟩ = some (.int .i64 1) ∧ W'.cell? ⟨b0, off + i, none⟩ = some (.int .i8 x)) (first | with_reducible exact SW | with_reducible exact S0 | with_reducible exact Sa | with_reducible exact S10 | with_reducible exact T10 | with_reducible exact SF | with_reducible exact TF | with_reducible exact UF | with_reducible exact VA _ _ | with_reducible exact V0 _ _ | go_keep)
                    (first
                      | (go_at_call 7; (with_reducible refine (HW x wr.drew).mono ?_); rintro e y0 ⟨rfl, hB0⟩; have hC0 := hD0.trans (hB0.mono hD0.size); have S10 := FCS _ hC0; have T10 := FCS _ (hC0.alloc hC0.size (.cells #[.int .u8 0, .int .i64 0] 28)))
                      | (go_at_call 7; (with_reducible refine (HW x (wr.alloc (.cells #[.int .u8 0, .int .i64 0] 28)).drew).mono ?_); rintro e y0 ⟨rfl, hB0⟩; have hC0 := hDa.trans (hB0.mono hDa.size); have S10 := FCS _ hC0; have T10 := FCS _ (hC0.alloc hC0.size (.cells #[.int .u8 0, .int .i64 0] 28)); have hz0 := (hB0.block _ (Array.getElem?_eq_some_iff.1 hza).1).trans hza)
                      | (go_at_call 9; (with_reducible refine (HGx y0 hC0).mono ?_); rintro e yF ⟨p5, c5, rfl, -, hBF⟩; have hCF := hC0.trans (hBF.mono hC0.size); have SF := FCS _ hCF; have TF := FCS _ (hCF.alloc hCF.size (.cells #[.int .u8 0, .int .i64 0] 28)); have UF := FCS _ (hCF.alloc hCF.size (.cells #[.int .u8 2, .int .i64 g] 28)); have hzF := (hBF.block _ (Array.getElem?_eq_some_iff.1 hz0).1).trans hz0; obtain ⟨⟨z0, z1⟩, t0, t1⟩ := pcell_row2f hzF; have VA := FSET _ wr.heap.size hCF (Nat.le_refl _))
                      | (go_at_call 9; (with_reducible refine (HGx y0 hC0).mono ?_); rintro e yF ⟨p5, c5, rfl, -, hBF⟩; have hCF := hC0.trans (hBF.mono hC0.size); have SF := FCS _ hCF; have TF := FCS _ (hCF.alloc hCF.size (.cells #[.int .u8 0, .int .i64 0] 28)); have UF := FCS _ (hCF.alloc hCF.size (.cells #[.int .u8 2, .int .i64 g] 28)))
                      | (go_at_call 9; (with_reducible refine (HGx (y0.alloc (.cells #[.int .u8 0, .int .i64 0] 28)) (hC0.alloc hC0.size (.cells #[.int .u8 0, .int .i64 0] 28))).mono ?_); rintro e yF ⟨p5, c5, rfl, -, hBF⟩; have hCF := (hC0.alloc hC0.size (.cells #[.int .u8 0, .int .i64 0] 28)).trans (hBF.mono (hC0.alloc hC0.size (.cells #[.int .u8 0, .int .i64 0] 28)).size); have SF := FCS _ hCF; have TF := FCS _ (hCF.alloc hCF.size (.cells #[.int .u8 0, .int .i64 0] 28)); have UF := FCS _ (hCF.alloc hCF.size (.cells #[.int .u8 2, .int .i64 g] 28)); have hzF := (hBF.block _ (Array.getElem?_eq_some_iff.1 (heap_alloc_new y0 (.cells #[.int .u8 0, .int .i64 0] 28))).1).trans (heap_alloc_new y0 (.cells #[.int .u8 0, .int .i64 0] 28)); obtain ⟨⟨z0, z1⟩, t0, t1⟩ := pcell_row2f hzF; have V0 := FSET _ y0.heap.size hCF hC0.size))
                  all_goals
                    go_wp2_with fail
                    go_meet
                    case rel =>
                      first
                      | exact ⟨_, rfl, pset2_row hzF, pbelow_set2 hCF (by first | exact Nat.le_refl _ | exact hC0.size) _ _⟩
                      | exact ⟨_, rfl, heap_alloc_new _ _, hCF.alloc hCF.size _⟩
                case rest =>
                  obtain ⟨B15, rfl, hb15, hBE⟩ := hcut
                  rename World => WE
                  obtain ⟨-, -, -, hcE⟩ := FCS _ hBE
                  have hBrE := hBr.trans (hBE.mono hBr.size)
                  clear FCS FSET SW S0 Sa hza hDa hD0 HG HGx FS0
                  have hlook := (hseD.kept (hBrE.block _ hseD.lt)).look x hrg
                  rw [hu, Option.getD_some] at hlook
                  have l15 := (Array.getElem?_eq_some_iff.1 hb15).1
                  by_cases hxk : x = k
                  · have hgv := hg1 hxk
                    subst hgv
                    subst hxk
                    go_wp2_with (first
                      | (go_at_call 7; (with_reducible refine (HW u WE).mono ?_); rintro e y1 ⟨rfl, hB1⟩; have hA1 := hB1.trans ((below1 y1 (.cells #[.int .u8 2, .int .i64 u] 28)).mono hB1.size); have c1' := (hA1.cell (p := ⟨b0, off + i, none⟩) (Nat.lt_of_lt_of_le lb0' hBE.size)).trans hcE)
                      | (go_at_call 7; (with_reducible refine (HW g (y1.alloc (.cells #[.int .u8 2, .int .i64 u] 28))).mono ?_); rintro e y2 ⟨rfl, hB2⟩; have hr16 := (hB2.block _ (Array.getElem?_eq_some_iff.1 (heap_alloc_new y1 (.cells #[.int .u8 2, .int .i64 u] 28))).1).trans (heap_alloc_new y1 (.cells #[.int .u8 2, .int .i64 u] 28)); obtain ⟨⟨z0, z1⟩, t0, t1⟩ := pcell_row2f hr16; have hA2 := hA1.trans (hB2.mono hA1.size); obtain ⟨f0, f1⟩ := (pcell_row2f (pset2_row (x := .int .u8 2) (y := .int .i64 g) hr16)).1; have hne15 : B15 ≠ y1.heap.size := by { have := hB1.size; omega }; obtain ⟨e0', e1'⟩ := (pcell_row2f ((hA2.block _ l15).trans hb15)).1; have e0 := (pcell_set2 (W := y2) (x := .int .u8 2) (y := .int .i64 g) (a := ⟨B15, 0, none⟩) hne15).trans e0'; have e1 := (pcell_set2 (W := y2) (x := .int .u8 2) (y := .int .i64 g) (a := ⟨B15, 1, none⟩) hne15).trans e1'; have HN1 := neqVal ((y2.setCell ⟨y1.heap.size, 0, none⟩ (.int .u8 2)).setCell ⟨y1.heap.size, 1, none⟩ (.int .i64 g)) g))
                    go_roundw
                    case rel => exact ⟨i + 1, by simp, hlt, pbelow_set2 (hBrE.trans (hA2.mono hBrE.size)) (Nat.le_trans hBrE.size hB1.size) _ _⟩
                    case measure => simp [left]; omega
                  · have hgu := hg2 hxk
                    subst hgu
                    have hxn : (x == k) = false := by simpa using hxk
                    go_wp2_with (first
                      | (go_at_call 7; (with_reducible refine (HW g WE).mono ?_); rintro e y1 ⟨rfl, hB1⟩; have hA1 := hB1.trans ((below1 y1 (.cells #[.int .u8 2, .int .i64 g] 28)).mono hB1.size); have c1' := (hA1.cell (p := ⟨b0, off + i, none⟩) (Nat.lt_of_lt_of_le lb0' hBE.size)).trans hcE; obtain ⟨e0, e1⟩ := (pcell_row2f ((hA1.block _ l15).trans hb15)).1; obtain ⟨f0, f1⟩ := (pcell_row2f (heap_alloc_new y1 (.cells #[.int .u8 2, .int .i64 g] 28))).1; have HN1 := neqVal (y1.alloc (.cells #[.int .u8 2, .int .i64 g] 28)) g))
                    go_roundw
                    case rel => exact ⟨i + 1, by simp, hlt, hBrE.trans (hA1.mono hBrE.size)⟩
                    case measure => simp [left]; omega
              · have hi3 : i = xs.length := by omega
                subst hi3
                have hd3 : decide ((xs.length : Int) < (xs.length : Int)) = false := by simp
                have hd4 : ¬ ((xs.length : Int) < (xs.length : Int)) := by omega
                have hgk : mget (mput M k v) k = some v := by rw [hgm, if_pos rfl]
                have HGk : ∀ W', Below wr.heap.size wr W' → _ := fun W' hb => HG k v hgk W' (hBr.trans (hb.mono hBr.size))
                clear HG
                have SW := FS0 _ (Below.refl _ _)
                have hD0 := below_drew (Below.refl wr.heap.size wr)
                have S0 := FS0 _ hD0
                go_wp2_with fail
                go_region_held3 (fun W' => W'.cell? ⟨B13, 0, none⟩ = some (.slice p4 (sM (mput M k v) R).length c4) ∧ W'.cell? ⟨B7, 1, none⟩ = some (.int .u8 5) ∧ W'.cell? ⟨B7, 2, none⟩ = some (.int .i64 1)) (first | with_reducible exact SW | with_reducible exact S0 | with_reducible exact Sk | with_reducible exact Sv | with_reducible exact Sg | with_reducible exact Sl | go_keep)
                  (first
                    | (go_at_call 7; (with_reducible refine (HW k wr.drew).mono ?_); rintro e yk ⟨rfl, hBk⟩; have hCk := hD0.trans (hBk.mono hD0.size); have Sk := FS0 _ hCk)
                    | (go_at_call 7; (with_reducible refine (HW v wr.drew).mono ?_); rintro e yv ⟨rfl, hBv⟩; have hCv := hD0.trans (hBv.mono hD0.size); have Sv := FS0 _ hCv)
                    | (go_at_call 7; (with_reducible refine (HW k yv).mono ?_); rintro e yk ⟨rfl, hBk⟩; have hCk := hCv.trans (hBk.mono hCv.size); have Sk := FS0 _ hCk)
                    | (go_at_call 7; (with_reducible refine (HW v yk).mono ?_); rintro e yv ⟨rfl, hBv⟩; have hCv := hCk.trans (hBv.mono hCk.size); have Sv := FS0 _ hCv)
                    | (go_at_call 9; (with_reducible refine (HGk yk hCk).mono ?_); rintro e yg ⟨p6, c6, rfl, -, hBg⟩; have hCg := hCk.trans (hBg.mono hCk.size); have Sg := FS0 _ hCg; have HNg := eqlValI yg v)
                    | (go_at_call 9; (with_reducible refine (HGk yv hCv).mono ?_); rintro e yg ⟨p6, c6, rfl, -, hBg⟩; have hCg := hCv.trans (hBg.mono hCv.size); have Sg := FS0 _ hCg; have HNg := eqlValI yg v)
                    | (go_at_call 7; (with_reducible refine (HW v yg).mono ?_); rintro e yv ⟨rfl, hBv⟩; have hCv := hCg.trans (hBv.mono hCg.size); have Sv := FS0 _ hCv; have HNv := eqlValI yv v)
                    | (go_at_call 4; (with_reducible refine (HLV yg).mono ?_); rintro e yl ⟨rfl, hBl⟩; have hCl := hCg.trans (hBl.mono hCg.size); have Sl := FS0 _ hCl)
                    | (go_at_call 4; (with_reducible refine (HLV yv).mono ?_); rintro e yl ⟨rfl, hBl⟩; have hCl := hCv.trans (hBl.mono hCv.size); have Sl := FS0 _ hCl))
                all_goals
                  have hZ := hBr.trans (hCl.mono hBr.size)
                  go_wp2
                  go_ret
                  exact ⟨rfl, hBwD.trans (hZ.mono hBwD.size)⟩

end Go.Proofs.Ytgokofomoachaab
