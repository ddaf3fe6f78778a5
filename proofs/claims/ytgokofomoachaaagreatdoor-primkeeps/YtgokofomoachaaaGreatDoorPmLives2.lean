/- law11's lives. -/
import Derived.Test.YtgokofomoachaaaGreatDoorPnBin2
import Derived.Test.YtgokofomoachaaaGreatDoorPnList
import Derived.Deep.Cut
namespace Go.Proofs.YtgokofomoachaaaGreatDoor
set_option linter.unusedVariables false
set_option linter.unusedSimpArgs false
open Go.RowKit

variable {w : World}

def l12 : List Vl := [⟨2, 1⟩, ⟨2, 2⟩]

def sA : List Om := [lstO l12]

def sB : List Om := [⟨4, ⟨#[]⟩, [⟨2, 1⟩, ⟨2, 2⟩, ⟨2, 9⟩], 4, 0⟩]

/-- A Did in a block: with its store. -/
structure DidAt (W : World) (B : Nat) (S : List Om) (v : Vl) (t : ByteArray) (n : Int) (p : Option Addr) (c : Nat) : Prop where
  blk : W.heap[B]? = some (.cells #[.slice p S.length c, .int .u8 v.k, .int .i64 v.n, .string t, .int .i64 n] 33 (0, 0))
  st : IsSt W p S

theorem DidAt.below {W W' : World} {B : Nat} {S : List Om} {v : Vl} {t : ByteArray} {n : Int} {p : Option Addr} {c : Nat} (h : DidAt W B S v t n p c) (hB : Below W.heap.size W W') : DidAt W' B S v t n p c :=
  ⟨(hB.block _ (Array.getElem?_eq_some_iff.1 h.blk).1).trans h.blk, h.st.below hB⟩

theorem lwhole_in (n : Int) (w : World) : Calls Tryz.prog 47 #[.int .i64 n] w fun e w' => e = .returned (.agg #[.int .u8 2, .int .i64 n]) ∧ Below w.heap.size w w' := by
  go_enter Tryz.func47, Tryz.ntmps47
  go_wp2
  refine bodyPost_ret (results_cell_row (by rfl) _ _ w.heap.size 27 _ _ _ (by rfl) (heap_alloc_new w _) Tryz.underlying27 (by rfl) infoVal2) (by rfl) ?_
  exact ⟨rfl, below1 _ _⟩

theorem ask_nil (w : World) : Ask w none [] := ⟨fun j o hj => by simp at hj, by simp, by simp, by simp, by simp⟩

theorem fine_int (S : List Om) (n : Int) : checkP S ⟨2, n⟩ := (may_ints S n n) ⟨2, n⟩ (by simp)

/-- Two more store cells beside a Did. -/
theorem ask_of {W : World} {p : Option Addr} {S : List Om} (h : IsSt W p S) (h1 : S.length ≤ 5) (h2 : ∀ o ∈ S, o.l.length ≤ 1000 ∧ o.s.size ≤ 1000 ∧ o.fits) : Ask W p S :=
  ⟨h, by omega, fun o ho => by have := (h2 o ho).1; omega, fun o ho => by have := (h2 o ho).2.1; omega, fun o ho => (h2 o ho).2.2⟩

theorem sA_ok : ∀ o ∈ sA, o.l.length ≤ 1000 ∧ o.s.size ≤ 1000 ∧ o.fits := by
  intro o ho
  simp [sA] at ho
  subst ho
  refine ⟨by simp [lstO, l12], by show (0 : Nat) ≤ 1000; omega, by simp [lstO], ?_, by simp [lstO, l12], by simp [lstO]⟩
  intro v hv
  simp [lstO, l12] at hv
  rcases hv with rfl | rfl <;> simp [Vl.fits]

theorem sB_ok : ∀ o ∈ sB, o.l.length ≤ 1000 ∧ o.s.size ≤ 1000 ∧ o.fits := by
  intro o ho
  simp [sB] at ho
  subst ho
  refine ⟨by simp, by show (0 : Nat) ≤ 1000; omega, by simp, ?_, by simp, by simp⟩
  intro v hv
  simp at hv
  rcases hv with rfl | rfl | rfl <;> simp [Vl.fits]

theorem fineL_ints {S : List Om} {l : List Vl} (h : ∀ v ∈ l, v.k = 2) : fineP S l := fun v hv => by
  obtain ⟨k, n⟩ := v
  have hk := h _ hv
  simp only at hk
  subst hk
  exact ⟨by simp, fine_int S n⟩

/-- A list of whole numbers may be. -/
theorem check_lst {l : List Vl} (hl : l.length ≤ 65536) (r : Int) (hr : (l.length : Int) ≤ r) (hr2 : r ≤ 262144) (h : ∀ v ∈ l, v.k = 2) : checkP [⟨4, ⟨#[]⟩, l, r, 0⟩] ⟨4, 1⟩ := by
  have hlead : leadO [(⟨4, ⟨#[]⟩, l, r, 0⟩ : Om)] ⟨4, 1⟩ = some ⟨4, ⟨#[]⟩, l, r, 0⟩ := by unfold leadO; simp
  have hno : ∀ v ∈ l, leadO [(⟨4, ⟨#[]⟩, l, r, 0⟩ : Om)] v = none := fun v hv => by
    unfold leadO
    rw [if_neg (fun hh => by have := h v hv; omega)]
  refine ⟨⟨fun e => by simp at e, fun e => by simp at e, fun _ => by rw [hlead]; simp⟩, fun x o hx ho => ?_⟩
  have hx1 : x = 1 := hx (fun y => y = 1) (fun v hv hl => by simp at hv; subst hv; rfl) (fun y o hy ho v hv hl => by
    subst hy
    simp [objAt] at ho
    subst ho
    exact (hl (hno v hv)).elim)
  subst hx1
  simp [objAt] at ho
  subst ho
  refine ⟨⟨fun e => by simp at e, fun _ => ⟨by show (l.length : Int) ≤ 65536; omega, ⟨hr, hr2⟩, rfl, rfl⟩, fun e => by simp at e, fun e => by simp at e, fun e => by simp at e⟩, fun v hv => ?_, fun e => by simp at e⟩
  have hk := h v hv
  exact ⟨⟨fun e => by omega, fun e => by omega, fun e => by omega⟩, ⟨fun e => by omega, fun e => by simp at e⟩⟩

theorem fldD2 (W : World) (a b c e : Value) (s : ByteArray) : (Instr.field 33 (.agg #[a, b, c, .string s, e]) 2).run Tryz.prog W = .ok (.string s) W := by kernel_rfl

theorem did_nw {S : List Om} {W : World} {base : Nat} {p2 : Option Addr} {c2 : Nat} {ts : List Po} (hm : ts.map Po.o = S) (hO : OwnSt base (.slice p2 S.length c2) ts W) {v : Vl} {t : ByteArray} {n : Int} : DidAt (W.alloc (.cells #[.slice p2 S.length c2, .int .u8 v.k, .int .i64 v.n, .string t, .int .i64 n] 33)) W.heap.size S v t n p2 c2 := by
  obtain ⟨p', c', hv, hst, -⟩ := hO.isSt
  rw [hm] at hst hv
  cases hv
  exact ⟨heap_alloc_new W _, hst.below (below1 _ _)⟩

theorem did_at {S : List Om} {W : World} {base r : Nat} {p2 : Option Addr} {c2 : Nat} {ts : List Po} (hm : ts.map Po.o = S) (hO : OwnSt base (.slice p2 S.length c2) ts W) {a0 a1 a2 a3 a4 : Value} (hr : W.heap[r]? = some (.cells #[a0, a1, a2, a3, a4] 33 (0, 0))) {v : Vl} {t : ByteArray} {n : Int} :
    DidAt (((((W.setCell ⟨r, 0, none⟩ (.slice p2 S.length c2)).setCell ⟨r, 1, none⟩ (.int .u8 v.k)).setCell ⟨r, 2, none⟩ (.int .i64 v.n)).setCell ⟨r, 3, none⟩ (.string t)).setCell ⟨r, 4, none⟩ (.int .i64 n)) r S v t n p2 c2 := by
  have hO2 : OwnSt base (.slice p2 S.length c2) ts (((((W.setCell ⟨r, 0, none⟩ (.slice p2 S.length c2)).setCell ⟨r, 1, none⟩ (.int .u8 v.k)).setCell ⟨r, 2, none⟩ (.int .i64 v.n)).setCell ⟨r, 3, none⟩ (.string t)).setCell ⟨r, 4, none⟩ (.int .i64 n)) := hO.keptT (fun k cur T hk hT => by
    have hne : k ≠ r := fun e => by
      subst e
      rw [hr] at hk
      cases hk
      rcases hT with h | h <;> cases h
    exact set5_other (j := 0) _ _ _ _ _ hne)
  obtain ⟨p', c', hv, hst, -⟩ := hO2.isSt
  rw [hm] at hst hv
  cases hv
  exact ⟨set5_row hr, hst⟩

set_option maxRecDepth 20000 in
set_option maxHeartbeats 4000000 in
theorem lives_in (w : World) : Calls Tryz.prog 9 #[] w fun e w' => e = .returned (.bool true) ∧ Below w.heap.size w w' := by
  have HW := fun (n : Int) (W : World) => lwhole_in n W
  have HL : ∀ (W : World) (bb : Nat), W.heap[bb]? = some (.cells #[.int .u8 2, .int .i64 1, .int .u8 2, .int .i64 2] 27 (0, 0)) → Calls Tryz.prog 29 #[.slice none 0 0, .slice (some ⟨bb, 0, none⟩) 2 2] W (DidR W sA ⟨4, 1⟩ ⟨#[]⟩ 8) := fun W bb hb => by
    have := List_in (ask_nil W) 0 (l := l12) (q := some ⟨bb, 0, none⟩) 2 (one_vals2 (u := ⟨2, 1⟩) (v := ⟨2, 2⟩) hb) (fun e => by cases e) (by intro v hv; simp [l12] at hv; rcases hv with rfl | rfl <;> simp [Vl.fits]) (by simp [l12]) (by simp [l12]) (by unfold maxLen; decide) (by simp [l12, sumL]) ⟨[] ++ [lstO l12], ⟨4, (([] : List Om).length : Int) + 1⟩, ⟨#[]⟩, (wordsO (lstO l12) : Nat)⟩ (.inr ⟨fineL_ints (by simp [l12]), rfl⟩)
    exact this
  go_enter Tryz.func9, Tryz.ntmps9
  go_wp2_with (first
    | (go_at_call 47; (with_reducible refine (HW 1 w).mono ?_); rintro e w1 ⟨rfl, hB1⟩)
    | (go_at_call 47; (with_reducible refine (HW 2 w1).mono ?_); rintro e w2 ⟨rfl, hB2⟩; have HL1 := HL _ _ (heap_alloc_new w2 (.cells #[.int .u8 2, .int .i64 1, .int .u8 2, .int .i64 2] 27)))
    | (go_at_call 29; (with_reducible refine HL1.mono ?_); clear HL1; rintro e w3 ⟨p1, c1, rfl, ⟨ts, hm, hO⟩, hB3⟩; refine halt_here ?_))
  unfold Halted
  obtain ⟨p1', c1', hv1, hst1, -⟩ := hO.isSt
  rw [hm] at hst1 hv1
  cases hv1
  have hB12 := hB1.trans (hB2.mono hB1.size)
  have hBa := hB12.trans ((below1 w2 (.cells #[.int .u8 2, .int .i64 1, .int .u8 2, .int .i64 2] 27)).mono hB12.size)
  have hBw3 := hBa.trans (hB3.mono hBa.size)
  have hA1 : DidAt (w3.alloc (.cells #[.slice p1 sA.length c1, .int .u8 4, .int .i64 1, .string ⟨#[]⟩, .int .i64 8] 33)) w3.heap.size sA ⟨4, 1⟩ ⟨#[]⟩ 8 p1 c1 := ⟨heap_alloc_new w3 _, hst1.below (below1 _ _)⟩
  have hBW := hBw3.trans ((below1 w3 (.cells #[.slice p1 sA.length c1, .int .u8 4, .int .i64 1, .string ⟨#[]⟩, .int .i64 8] 33)).mono hBw3.size)
  generalize hWA : w3.alloc (.cells #[.slice p1 sA.length c1, .int .u8 4, .int .i64 1, .string ⟨#[]⟩, .int .i64 8] 33) = WA at hA1 hBW
  go_wp2_with fail
  generalize w3.heap.size = B1 at *
  clear hWA HL hm hO hst1 hB1 hB2 hB3 hB12 hBa hBw3
  have HPut : ∀ W', Below WA.heap.size WA W' → Calls Tryz.prog 41 #[.slice p1 sA.length c1, .agg #[.int .u8 4, .int .i64 1], .agg #[.int .u8 2, .int .i64 2], .agg #[.int .u8 2, .int .i64 9]] W' (DidR W' sB ⟨0, 0⟩ ⟨#[]⟩ 9) := fun W' hb => by
    have hle : leadO sA ⟨4, 1⟩ = some (lstO l12) := by simp [leadO, sA, lstO]
    have := Put_in (ask_of (hA1.below hb).st (by simp [sA]) sA_ok) c1 ⟨4, 1⟩ ⟨2, 2⟩ ⟨2, 9⟩ (putItemP sA 0 (lstO l12) 2 ⟨2, 9⟩) (.inr ⟨?_, 0, lstO l12, none, fun _ => ⟨hle, by simp⟩, fun e => by simp at e, by simp [putP]⟩)
    · have e : putItemP sA 0 (lstO l12) 2 ⟨2, 9⟩ = ⟨sB, ⟨0, 0⟩, ⟨#[]⟩, 9⟩ := by
        unfold putItemP addedP
        simp [lstO, l12, sA, sB]
      rw [e] at this
      exact this
    · intro v hv
      simp at hv
      rcases hv with rfl | rfl | rfl
      · exact check_lst (l := l12) (by simp [l12]) _ (Int.le_refl _) (by simp [l12]) (by simp [l12])
      · exact fine_int _ _
      · exact fine_int _ _
  have lB1 := (Array.getElem?_eq_some_iff.1 hA1.blk).1
  have FCS : ∀ W', Below WA.heap.size WA W' → W'.cell? ⟨B1, 0, none⟩ = some (.slice p1 sA.length c1) ∧ W'.cell? ⟨B1, 1, none⟩ = some (.int .u8 4) ∧ W'.cell? ⟨B1, 2, none⟩ = some (.int .i64 1) := fun W' hb => by
    obtain ⟨⟨a0, a1, a2, -, -⟩, -⟩ := cell_row5 (hA1.below hb).blk
    exact ⟨a0, a1, a2⟩
  have FSET : ∀ (W' : World) (r : Nat), Below WA.heap.size WA W' → WA.heap.size ≤ r → ∀ x0 x1 x2 x3 x4, (fun W' => W'.cell? ⟨B1, 0, none⟩ = some (.slice p1 sA.length c1) ∧ W'.cell? ⟨B1, 1, none⟩ = some (.int .u8 4) ∧ W'.cell? ⟨B1, 2, none⟩ = some (.int .i64 1)) (((((W'.setCell ⟨r, 0, none⟩ x0).setCell ⟨r, 1, none⟩ x1).setCell ⟨r, 2, none⟩ x2).setCell ⟨r, 3, none⟩ x3).setCell ⟨r, 4, none⟩ x4) := fun W' r hb hr x0 x1 x2 x3 x4 => by
    have hB1 : B1 ≠ r := by have := lB1; omega
    obtain ⟨a0, a1, a2⟩ := FCS _ hb
    exact ⟨(cell_set5 hB1).trans a0, (cell_set5 hB1).trans a1, (cell_set5 hB1).trans a2⟩
  go_cut [2] from 9 (fun s2 W => ∃ B2 p2 c2, s2 = .pointer (some ⟨B2, 0, none⟩) ∧ DidAt W B2 sB ⟨0, 0⟩ ⟨#[]⟩ 9 p2 c2 ∧ Below WA.heap.size WA W)
  case first =>
    have SW := FCS _ (Below.refl _ _)
    have hD0 := below_drew (Below.refl WA.heap.size WA)
    have hDa := below_drew (below1 WA (.cells #[.slice none 0 0, .int .u8 0, .int .i64 0, .string ⟨#[]⟩, .int .i64 0] 33))
    have hza : (WA.alloc (.cells #[.slice none 0 0, .int .u8 0, .int .i64 0, .string ⟨#[]⟩, .int .i64 0] 33)).drew.heap[WA.heap.size]? = _ := heap_alloc_new WA (.cells #[.slice none 0 0, .int .u8 0, .int .i64 0, .string ⟨#[]⟩, .int .i64 0] 33)
    have S0 := FCS _ hD0
    have Sa := FCS _ hDa
    go_region_held3 (fun W' => W'.cell? ⟨B1, 0, none⟩ = some (.slice p1 sA.length c1) ∧ W'.cell? ⟨B1, 1, none⟩ = some (.int .u8 4) ∧ W'.cell? ⟨B1, 2, none⟩ = some (.int .i64 1)) (first | with_reducible exact SW | with_reducible exact S0 | with_reducible exact Sa | with_reducible exact S10 | with_reducible exact T10 | with_reducible exact S11 | with_reducible exact T11 | with_reducible exact SF | with_reducible exact TF | with_reducible exact UF | with_reducible exact VA _ _ _ _ _ | with_reducible exact V0 _ _ _ _ _ | with_reducible exact V1 _ _ _ _ _ | go_keep)
      (first
        | (go_at_call 47; (with_reducible refine (HW 2 WA.drew).mono ?_); rintro e y0 ⟨rfl, hB0⟩; have hC0 := hD0.trans (hB0.mono hD0.size); have S10 := FCS _ hC0; have T10 := FCS _ (hC0.alloc hC0.size (.cells #[.slice none 0 0, .int .u8 0, .int .i64 0, .string ⟨#[]⟩, .int .i64 0] 33)))
        | (go_at_call 47; (with_reducible refine (HW 2 (WA.alloc (.cells #[.slice none 0 0, .int .u8 0, .int .i64 0, .string ⟨#[]⟩, .int .i64 0] 33)).drew).mono ?_); rintro e y0 ⟨rfl, hB0⟩; have hC0 := hDa.trans (hB0.mono hDa.size); have S10 := FCS _ hC0; have T10 := FCS _ (hC0.alloc hC0.size (.cells #[.slice none 0 0, .int .u8 0, .int .i64 0, .string ⟨#[]⟩, .int .i64 0] 33)); have hz0 := (hB0.block _ (Array.getElem?_eq_some_iff.1 hza).1).trans hza)
        | (go_at_call 47; (with_reducible refine (HW 9 y0).mono ?_); rintro e y1 ⟨rfl, hB1⟩; have hC1 := hC0.trans (hB1.mono hC0.size); have S11 := FCS _ hC1; have T11 := FCS _ (hC1.alloc hC1.size (.cells #[.slice none 0 0, .int .u8 0, .int .i64 0, .string ⟨#[]⟩, .int .i64 0] 33)); have hz1 := (hB1.block _ (Array.getElem?_eq_some_iff.1 hz0).1).trans hz0)
        | (go_at_call 47; (with_reducible refine (HW 9 y0).mono ?_); rintro e y1 ⟨rfl, hB1⟩; have hC1 := hC0.trans (hB1.mono hC0.size); have S11 := FCS _ hC1; have T11 := FCS _ (hC1.alloc hC1.size (.cells #[.slice none 0 0, .int .u8 0, .int .i64 0, .string ⟨#[]⟩, .int .i64 0] 33)))
        | (go_at_call 47; (with_reducible refine (HW 9 (y0.alloc (.cells #[.slice none 0 0, .int .u8 0, .int .i64 0, .string ⟨#[]⟩, .int .i64 0] 33))).mono ?_); rintro e y1 ⟨rfl, hB1⟩; have hC1 := (hC0.alloc hC0.size (.cells #[.slice none 0 0, .int .u8 0, .int .i64 0, .string ⟨#[]⟩, .int .i64 0] 33)).trans (hB1.mono (hC0.alloc hC0.size (.cells #[.slice none 0 0, .int .u8 0, .int .i64 0, .string ⟨#[]⟩, .int .i64 0] 33)).size); have S11 := FCS _ hC1; have T11 := FCS _ (hC1.alloc hC1.size (.cells #[.slice none 0 0, .int .u8 0, .int .i64 0, .string ⟨#[]⟩, .int .i64 0] 33)); have hz1 := (hB1.block _ (Array.getElem?_eq_some_iff.1 (heap_alloc_new y0 (.cells #[.slice none 0 0, .int .u8 0, .int .i64 0, .string ⟨#[]⟩, .int .i64 0] 33))).1).trans (heap_alloc_new y0 (.cells #[.slice none 0 0, .int .u8 0, .int .i64 0, .string ⟨#[]⟩, .int .i64 0] 33)))
        | (go_at_call 41; (with_reducible refine (HPut y1 hC1).mono ?_); rintro e yF ⟨p2, c2, rfl, ⟨ts, hm, hO⟩, hBF⟩; have hCF := hC1.trans (hBF.mono hC1.size); have SF := FCS _ hCF; have TF := FCS _ (hCF.alloc hCF.size (.cells #[.slice none 0 0, .int .u8 0, .int .i64 0, .string ⟨#[]⟩, .int .i64 0] 33)); have UF := FCS _ (hCF.alloc hCF.size (.cells #[.slice p2 sB.length c2, .int .u8 0, .int .i64 0, .string ⟨#[]⟩, .int .i64 9] 33)); have hzF := (hBF.block _ (Array.getElem?_eq_some_iff.1 hz1).1).trans hz1; obtain ⟨⟨z0, z1, z2, z3, z4⟩, t0, t1, t2, t3, t4⟩ := cell_row5 hzF; have VA := FSET _ WA.heap.size hCF (Nat.le_refl _); have V0 := FSET _ y0.heap.size hCF hC0.size; have V1 := FSET _ y1.heap.size hCF hC1.size)
        | (go_at_call 41; (with_reducible refine (HPut y1 hC1).mono ?_); rintro e yF ⟨p2, c2, rfl, ⟨ts, hm, hO⟩, hBF⟩; have hCF := hC1.trans (hBF.mono hC1.size); have SF := FCS _ hCF; have TF := FCS _ (hCF.alloc hCF.size (.cells #[.slice none 0 0, .int .u8 0, .int .i64 0, .string ⟨#[]⟩, .int .i64 0] 33)); have UF := FCS _ (hCF.alloc hCF.size (.cells #[.slice p2 sB.length c2, .int .u8 0, .int .i64 0, .string ⟨#[]⟩, .int .i64 9] 33)))
        | (go_at_call 41; (with_reducible refine (HPut (y1.alloc (.cells #[.slice none 0 0, .int .u8 0, .int .i64 0, .string ⟨#[]⟩, .int .i64 0] 33)) (hC1.alloc hC1.size (.cells #[.slice none 0 0, .int .u8 0, .int .i64 0, .string ⟨#[]⟩, .int .i64 0] 33))).mono ?_); rintro e yF ⟨p2, c2, rfl, ⟨ts, hm, hO⟩, hBF⟩; have hCF := (hC1.alloc hC1.size (.cells #[.slice none 0 0, .int .u8 0, .int .i64 0, .string ⟨#[]⟩, .int .i64 0] 33)).trans (hBF.mono (hC1.alloc hC1.size (.cells #[.slice none 0 0, .int .u8 0, .int .i64 0, .string ⟨#[]⟩, .int .i64 0] 33)).size); have SF := FCS _ hCF; have TF := FCS _ (hCF.alloc hCF.size (.cells #[.slice none 0 0, .int .u8 0, .int .i64 0, .string ⟨#[]⟩, .int .i64 0] 33)); have UF := FCS _ (hCF.alloc hCF.size (.cells #[.slice p2 sB.length c2, .int .u8 0, .int .i64 0, .string ⟨#[]⟩, .int .i64 9] 33)); have hzF := (hBF.block _ (Array.getElem?_eq_some_iff.1 (heap_alloc_new y1 (.cells #[.slice none 0 0, .int .u8 0, .int .i64 0, .string ⟨#[]⟩, .int .i64 0] 33))).1).trans (heap_alloc_new y1 (.cells #[.slice none 0 0, .int .u8 0, .int .i64 0, .string ⟨#[]⟩, .int .i64 0] 33)); obtain ⟨⟨z0, z1, z2, z3, z4⟩, t0, t1, t2, t3, t4⟩ := cell_row5 hzF; have VA := FSET _ WA.heap.size hCF (Nat.le_refl _); have V0 := FSET _ y0.heap.size hCF hC0.size; have V1 := FSET _ y1.heap.size hCF hC1.size))
    all_goals
      go_wp2_with fail
      go_meet
      case rel =>
        first
        | exact ⟨_, p2, c2, rfl, did_at (v := ⟨0, 0⟩) (t := ⟨#[]⟩) (n := 9) hm hO hzF, below_set5 hCF (by first | exact Nat.le_refl _ | exact hC0.size | exact hC1.size) _ _ _ _ _⟩
        | exact ⟨_, p2, c2, rfl, did_nw (v := ⟨0, 0⟩) (t := ⟨#[]⟩) (n := 9) hm hO, hCF.alloc hCF.size _⟩
  case rest =>
    obtain ⟨B2, p2, c2, rfl, hA2, hBB⟩ := hcut
    rename World => WB
    clear FCS FSET HPut
    have hA1' := hA1.below hBB
    have hBWB := hBW.trans (hBB.mono hBW.size)
    clear hA1 hBB lB1
    have lB1 := (Array.getElem?_eq_some_iff.1 hA1'.blk).1
    have lB2 := (Array.getElem?_eq_some_iff.1 hA2.blk).1
    go_wp2_with fail
    have HG3 : ∀ W', Below WB.heap.size WB W' → Calls Tryz.prog 42 #[.slice p2 sB.length c2, .agg #[.int .u8 4, .int .i64 1], .agg #[.int .u8 2, .int .i64 2]] W' (DidR W' sB ⟨2, 9⟩ ⟨#[]⟩ 0) := fun W' hb => by
      have hle : leadO sB ⟨4, 1⟩ = some ⟨4, ⟨#[]⟩, [⟨2, 1⟩, ⟨2, 2⟩, ⟨2, 9⟩], 4, 0⟩ := by simp [leadO, sB]
      have := Get_in (ask_of (hA2.below hb).st (by simp [sB]) sB_ok) c2 ⟨4, 1⟩ ⟨2, 2⟩ (getP sB ⟨4, 1⟩ ⟨2, 2⟩ ⟨4, ⟨#[]⟩, [⟨2, 1⟩, ⟨2, 2⟩, ⟨2, 9⟩], 4, 0⟩ none) (.inr ⟨?_, _, none, fun _ => hle, fun e => by simp at e, rfl⟩)
      · have e : getP sB ⟨4, 1⟩ ⟨2, 2⟩ ⟨4, ⟨#[]⟩, [⟨2, 1⟩, ⟨2, 2⟩, ⟨2, 9⟩], 4, 0⟩ none = ⟨sB, ⟨2, 9⟩, ⟨#[]⟩, 0⟩ := by simp [getP]
        rw [e] at this
        exact this
      · intro v hv
        simp at hv
        rcases hv with rfl | rfl
        · exact check_lst (l := [⟨2, 1⟩, ⟨2, 2⟩, ⟨2, 9⟩]) (by simp) 4 (by simp) (by simp) (by simp)
        · exact fine_int _ _
    have FCS : ∀ W', Below WB.heap.size WB W' → W'.cell? ⟨B2, 0, none⟩ = some (.slice p2 sB.length c2) ∧ W'.cell? ⟨B1, 1, none⟩ = some (.int .u8 4) ∧ W'.cell? ⟨B1, 2, none⟩ = some (.int .i64 1) := fun W' hb => by
      obtain ⟨⟨a0, -, -, -, -⟩, -⟩ := cell_row5 (hA2.below hb).blk
      obtain ⟨⟨-, b1, b2, -, -⟩, -⟩ := cell_row5 (hA1'.below hb).blk
      exact ⟨a0, b1, b2⟩
    have FSET : ∀ (W' : World) (r : Nat), Below WB.heap.size WB W' → WB.heap.size ≤ r → ∀ x0 x1 x2 x3 x4, (fun W' => W'.cell? ⟨B2, 0, none⟩ = some (.slice p2 sB.length c2) ∧ W'.cell? ⟨B1, 1, none⟩ = some (.int .u8 4) ∧ W'.cell? ⟨B1, 2, none⟩ = some (.int .i64 1)) (((((W'.setCell ⟨r, 0, none⟩ x0).setCell ⟨r, 1, none⟩ x1).setCell ⟨r, 2, none⟩ x2).setCell ⟨r, 3, none⟩ x3).setCell ⟨r, 4, none⟩ x4) := fun W' r hb hr x0 x1 x2 x3 x4 => by
      have hB2 : B2 ≠ r := by have := lB2; omega
      have hB1 : B1 ≠ r := by have := lB1; omega
      obtain ⟨a0, a1, a2⟩ := FCS _ hb
      exact ⟨(cell_set5 hB2).trans a0, (cell_set5 hB1).trans a1, (cell_set5 hB1).trans a2⟩
    go_cut [3] from 16 (fun s2 W => ∃ B2 p5 c5, s2 = .pointer (some ⟨B2, 0, none⟩) ∧ DidAt W B2 sB ⟨2, 9⟩ ⟨#[]⟩ 0 p5 c5 ∧ Below WB.heap.size WB W)
    case first =>
      have SW := FCS _ (Below.refl _ _)
      have hD0 := below_drew (Below.refl WB.heap.size WB)
      have hDa := below_drew (below1 WB (.cells #[.slice none 0 0, .int .u8 0, .int .i64 0, .string ⟨#[]⟩, .int .i64 0] 33))
      have hza : (WB.alloc (.cells #[.slice none 0 0, .int .u8 0, .int .i64 0, .string ⟨#[]⟩, .int .i64 0] 33)).drew.heap[WB.heap.size]? = _ := heap_alloc_new WB (.cells #[.slice none 0 0, .int .u8 0, .int .i64 0, .string ⟨#[]⟩, .int .i64 0] 33)
      have S0 := FCS _ hD0
      have Sa := FCS _ hDa
      go_region_held3 (fun W' => W'.cell? ⟨B2, 0, none⟩ = some (.slice p2 sB.length c2) ∧ W'.cell? ⟨B1, 1, none⟩ = some (.int .u8 4) ∧ W'.cell? ⟨B1, 2, none⟩ = some (.int .i64 1)) (first | with_reducible exact SW | with_reducible exact S0 | with_reducible exact Sa | with_reducible exact S10 | with_reducible exact T10 | with_reducible exact SF | with_reducible exact TF | with_reducible exact UF | with_reducible exact VA _ _ _ _ _ | with_reducible exact V0 _ _ _ _ _ | go_keep)
        (first
          | (go_at_call 47; (with_reducible refine (HW 2 WB.drew).mono ?_); rintro e y0 ⟨rfl, hB0⟩; have hC0 := hD0.trans (hB0.mono hD0.size); have S10 := FCS _ hC0; have T10 := FCS _ (hC0.alloc hC0.size (.cells #[.slice none 0 0, .int .u8 0, .int .i64 0, .string ⟨#[]⟩, .int .i64 0] 33)))
          | (go_at_call 47; (with_reducible refine (HW 2 (WB.alloc (.cells #[.slice none 0 0, .int .u8 0, .int .i64 0, .string ⟨#[]⟩, .int .i64 0] 33)).drew).mono ?_); rintro e y0 ⟨rfl, hB0⟩; have hC0 := hDa.trans (hB0.mono hDa.size); have S10 := FCS _ hC0; have T10 := FCS _ (hC0.alloc hC0.size (.cells #[.slice none 0 0, .int .u8 0, .int .i64 0, .string ⟨#[]⟩, .int .i64 0] 33)); have hz0 := (hB0.block _ (Array.getElem?_eq_some_iff.1 hza).1).trans hza)
          | (go_at_call 42; (with_reducible refine (HG3 y0 hC0).mono ?_); rintro e yF ⟨p5, c5, rfl, ⟨ts, hm, hO⟩, hBF⟩; have hCF := hC0.trans (hBF.mono hC0.size); have SF := FCS _ hCF; have TF := FCS _ (hCF.alloc hCF.size (.cells #[.slice none 0 0, .int .u8 0, .int .i64 0, .string ⟨#[]⟩, .int .i64 0] 33)); have UF := FCS _ (hCF.alloc hCF.size (.cells #[.slice p5 sB.length c5, .int .u8 2, .int .i64 9, .string ⟨#[]⟩, .int .i64 0] 33)); have hzF := (hBF.block _ (Array.getElem?_eq_some_iff.1 hz0).1).trans hz0; obtain ⟨⟨z0, z1, z2, z3, z4⟩, t0, t1, t2, t3, t4⟩ := cell_row5 hzF; have VA := FSET _ WB.heap.size hCF (Nat.le_refl _); have V0 := FSET _ y0.heap.size hCF hC0.size)
          | (go_at_call 42; (with_reducible refine (HG3 y0 hC0).mono ?_); rintro e yF ⟨p5, c5, rfl, ⟨ts, hm, hO⟩, hBF⟩; have hCF := hC0.trans (hBF.mono hC0.size); have SF := FCS _ hCF; have TF := FCS _ (hCF.alloc hCF.size (.cells #[.slice none 0 0, .int .u8 0, .int .i64 0, .string ⟨#[]⟩, .int .i64 0] 33)); have UF := FCS _ (hCF.alloc hCF.size (.cells #[.slice p5 sB.length c5, .int .u8 2, .int .i64 9, .string ⟨#[]⟩, .int .i64 0] 33)))
          | (go_at_call 42; (with_reducible refine (HG3 (y0.alloc (.cells #[.slice none 0 0, .int .u8 0, .int .i64 0, .string ⟨#[]⟩, .int .i64 0] 33)) (hC0.alloc hC0.size (.cells #[.slice none 0 0, .int .u8 0, .int .i64 0, .string ⟨#[]⟩, .int .i64 0] 33))).mono ?_); rintro e yF ⟨p5, c5, rfl, ⟨ts, hm, hO⟩, hBF⟩; have hCF := (hC0.alloc hC0.size (.cells #[.slice none 0 0, .int .u8 0, .int .i64 0, .string ⟨#[]⟩, .int .i64 0] 33)).trans (hBF.mono (hC0.alloc hC0.size (.cells #[.slice none 0 0, .int .u8 0, .int .i64 0, .string ⟨#[]⟩, .int .i64 0] 33)).size); have SF := FCS _ hCF; have TF := FCS _ (hCF.alloc hCF.size (.cells #[.slice none 0 0, .int .u8 0, .int .i64 0, .string ⟨#[]⟩, .int .i64 0] 33)); have UF := FCS _ (hCF.alloc hCF.size (.cells #[.slice p5 sB.length c5, .int .u8 2, .int .i64 9, .string ⟨#[]⟩, .int .i64 0] 33)); have hzF := (hBF.block _ (Array.getElem?_eq_some_iff.1 (heap_alloc_new y0 (.cells #[.slice none 0 0, .int .u8 0, .int .i64 0, .string ⟨#[]⟩, .int .i64 0] 33))).1).trans (heap_alloc_new y0 (.cells #[.slice none 0 0, .int .u8 0, .int .i64 0, .string ⟨#[]⟩, .int .i64 0] 33)); obtain ⟨⟨z0, z1, z2, z3, z4⟩, t0, t1, t2, t3, t4⟩ := cell_row5 hzF; have VA := FSET _ WB.heap.size hCF (Nat.le_refl _); have V0 := FSET _ y0.heap.size hCF hC0.size))
      all_goals
        go_wp2_with fail
        go_meet
        case rel =>
          first
          | exact ⟨_, p5, c5, rfl, did_at (v := ⟨2, 9⟩) (t := ⟨#[]⟩) (n := 0) hm hO hzF, below_set5 hCF (by first | exact Nat.le_refl _ | exact hC0.size | exact hC0.size) _ _ _ _ _⟩
          | exact ⟨_, p5, c5, rfl, did_nw (v := ⟨2, 9⟩) (t := ⟨#[]⟩) (n := 0) hm hO, hCF.alloc hCF.size _⟩
    case rest =>
      obtain ⟨B3, p3, c3, rfl, hA3, hBC⟩ := hcut
      rename World => WC
      clear FCS FSET HG3
      have hA1'' := hA1'.below hBC
      have hA2' := hA2.below hBC
      have hBWC := hBWB.trans (hBC.mono hBWB.size)
      clear hA1' hA2 hBC lB1 lB2
      have lB1 := (Array.getElem?_eq_some_iff.1 hA1''.blk).1
      go_wp2_with fail
      have HG4 : ∀ W', Below WC.heap.size WC W' → Calls Tryz.prog 42 #[.slice p1 sA.length c1, .agg #[.int .u8 4, .int .i64 1], .agg #[.int .u8 2, .int .i64 2]] W' (DidR W' sA ⟨0, 0⟩ ⟨#[98, 111, 117, 110, 100, 115]⟩ 0) := fun W' hb => by
        have hle : leadO sA ⟨4, 1⟩ = some (lstO l12) := by simp [leadO, sA, lstO]
        have := Get_in (ask_of (hA1''.below hb).st (by simp [sA]) sA_ok) c1 ⟨4, 1⟩ ⟨2, 2⟩ (getP sA ⟨4, 1⟩ ⟨2, 2⟩ (lstO l12) none) (.inr ⟨?_, _, none, fun _ => hle, fun e => by simp at e, rfl⟩)
        · have e : getP sA ⟨4, 1⟩ ⟨2, 2⟩ (lstO l12) none = ⟨sA, ⟨0, 0⟩, tBounds, 0⟩ := by simp [getP, lstO, l12]
          rw [e] at this
          exact this
        · intro v hv
          simp at hv
          rcases hv with rfl | rfl
          · exact check_lst (l := l12) (by simp [l12]) _ (Int.le_refl _) (by simp [l12]) (by simp [l12])
          · exact fine_int _ _
      have FCS : ∀ W', Below WC.heap.size WC W' → W'.cell? ⟨B1, 0, none⟩ = some (.slice p1 sA.length c1) ∧ W'.cell? ⟨B1, 1, none⟩ = some (.int .u8 4) ∧ W'.cell? ⟨B1, 2, none⟩ = some (.int .i64 1) := fun W' hb => by
        obtain ⟨⟨a0, a1, a2, -, -⟩, -⟩ := cell_row5 (hA1''.below hb).blk
        exact ⟨a0, a1, a2⟩
      have FSET : ∀ (W' : World) (r : Nat), Below WC.heap.size WC W' → WC.heap.size ≤ r → ∀ x0 x1 x2 x3 x4, (fun W' => W'.cell? ⟨B1, 0, none⟩ = some (.slice p1 sA.length c1) ∧ W'.cell? ⟨B1, 1, none⟩ = some (.int .u8 4) ∧ W'.cell? ⟨B1, 2, none⟩ = some (.int .i64 1)) (((((W'.setCell ⟨r, 0, none⟩ x0).setCell ⟨r, 1, none⟩ x1).setCell ⟨r, 2, none⟩ x2).setCell ⟨r, 3, none⟩ x3).setCell ⟨r, 4, none⟩ x4) := fun W' r hb hr x0 x1 x2 x3 x4 => by
        have hB1 : B1 ≠ r := by have := lB1; omega
        obtain ⟨a0, a1, a2⟩ := FCS _ hb
        exact ⟨(cell_set5 hB1).trans a0, (cell_set5 hB1).trans a1, (cell_set5 hB1).trans a2⟩
      go_cut [4] from 22 (fun s2 W => ∃ B2 p2 c2, s2 = .pointer (some ⟨B2, 0, none⟩) ∧ DidAt W B2 sA ⟨0, 0⟩ ⟨#[98, 111, 117, 110, 100, 115]⟩ 0 p2 c2 ∧ Below WC.heap.size WC W)
      case first =>
        have SW := FCS _ (Below.refl _ _)
        have hD0 := below_drew (Below.refl WC.heap.size WC)
        have hDa := below_drew (below1 WC (.cells #[.slice none 0 0, .int .u8 0, .int .i64 0, .string ⟨#[]⟩, .int .i64 0] 33))
        have hza : (WC.alloc (.cells #[.slice none 0 0, .int .u8 0, .int .i64 0, .string ⟨#[]⟩, .int .i64 0] 33)).drew.heap[WC.heap.size]? = _ := heap_alloc_new WC (.cells #[.slice none 0 0, .int .u8 0, .int .i64 0, .string ⟨#[]⟩, .int .i64 0] 33)
        have S0 := FCS _ hD0
        have Sa := FCS _ hDa
        go_region_held3 (fun W' => W'.cell? ⟨B1, 0, none⟩ = some (.slice p1 sA.length c1) ∧ W'.cell? ⟨B1, 1, none⟩ = some (.int .u8 4) ∧ W'.cell? ⟨B1, 2, none⟩ = some (.int .i64 1)) (first | with_reducible exact SW | with_reducible exact S0 | with_reducible exact Sa | with_reducible exact S10 | with_reducible exact T10 | with_reducible exact SF | with_reducible exact TF | with_reducible exact UF | with_reducible exact VA _ _ _ _ _ | with_reducible exact V0 _ _ _ _ _ | go_keep)
          (first
            | (go_at_call 47; (with_reducible refine (HW 2 WC.drew).mono ?_); rintro e y0 ⟨rfl, hB0⟩; have hC0 := hD0.trans (hB0.mono hD0.size); have S10 := FCS _ hC0; have T10 := FCS _ (hC0.alloc hC0.size (.cells #[.slice none 0 0, .int .u8 0, .int .i64 0, .string ⟨#[]⟩, .int .i64 0] 33)))
            | (go_at_call 47; (with_reducible refine (HW 2 (WC.alloc (.cells #[.slice none 0 0, .int .u8 0, .int .i64 0, .string ⟨#[]⟩, .int .i64 0] 33)).drew).mono ?_); rintro e y0 ⟨rfl, hB0⟩; have hC0 := hDa.trans (hB0.mono hDa.size); have S10 := FCS _ hC0; have T10 := FCS _ (hC0.alloc hC0.size (.cells #[.slice none 0 0, .int .u8 0, .int .i64 0, .string ⟨#[]⟩, .int .i64 0] 33)); have hz0 := (hB0.block _ (Array.getElem?_eq_some_iff.1 hza).1).trans hza)
            | (go_at_call 42; (with_reducible refine (HG4 y0 hC0).mono ?_); rintro e yF ⟨p2, c2, rfl, ⟨ts, hm, hO⟩, hBF⟩; have hCF := hC0.trans (hBF.mono hC0.size); have SF := FCS _ hCF; have TF := FCS _ (hCF.alloc hCF.size (.cells #[.slice none 0 0, .int .u8 0, .int .i64 0, .string ⟨#[]⟩, .int .i64 0] 33)); have UF := FCS _ (hCF.alloc hCF.size (.cells #[.slice p2 sA.length c2, .int .u8 0, .int .i64 0, .string ⟨#[98, 111, 117, 110, 100, 115]⟩, .int .i64 0] 33)); have hzF := (hBF.block _ (Array.getElem?_eq_some_iff.1 hz0).1).trans hz0; obtain ⟨⟨z0, z1, z2, z3, z4⟩, t0, t1, t2, t3, t4⟩ := cell_row5 hzF; have VA := FSET _ WC.heap.size hCF (Nat.le_refl _); have V0 := FSET _ y0.heap.size hCF hC0.size)
            | (go_at_call 42; (with_reducible refine (HG4 y0 hC0).mono ?_); rintro e yF ⟨p2, c2, rfl, ⟨ts, hm, hO⟩, hBF⟩; have hCF := hC0.trans (hBF.mono hC0.size); have SF := FCS _ hCF; have TF := FCS _ (hCF.alloc hCF.size (.cells #[.slice none 0 0, .int .u8 0, .int .i64 0, .string ⟨#[]⟩, .int .i64 0] 33)); have UF := FCS _ (hCF.alloc hCF.size (.cells #[.slice p2 sA.length c2, .int .u8 0, .int .i64 0, .string ⟨#[98, 111, 117, 110, 100, 115]⟩, .int .i64 0] 33)))
            | (go_at_call 42; (with_reducible refine (HG4 (y0.alloc (.cells #[.slice none 0 0, .int .u8 0, .int .i64 0, .string ⟨#[]⟩, .int .i64 0] 33)) (hC0.alloc hC0.size (.cells #[.slice none 0 0, .int .u8 0, .int .i64 0, .string ⟨#[]⟩, .int .i64 0] 33))).mono ?_); rintro e yF ⟨p2, c2, rfl, ⟨ts, hm, hO⟩, hBF⟩; have hCF := (hC0.alloc hC0.size (.cells #[.slice none 0 0, .int .u8 0, .int .i64 0, .string ⟨#[]⟩, .int .i64 0] 33)).trans (hBF.mono (hC0.alloc hC0.size (.cells #[.slice none 0 0, .int .u8 0, .int .i64 0, .string ⟨#[]⟩, .int .i64 0] 33)).size); have SF := FCS _ hCF; have TF := FCS _ (hCF.alloc hCF.size (.cells #[.slice none 0 0, .int .u8 0, .int .i64 0, .string ⟨#[]⟩, .int .i64 0] 33)); have UF := FCS _ (hCF.alloc hCF.size (.cells #[.slice p2 sA.length c2, .int .u8 0, .int .i64 0, .string ⟨#[98, 111, 117, 110, 100, 115]⟩, .int .i64 0] 33)); have hzF := (hBF.block _ (Array.getElem?_eq_some_iff.1 (heap_alloc_new y0 (.cells #[.slice none 0 0, .int .u8 0, .int .i64 0, .string ⟨#[]⟩, .int .i64 0] 33))).1).trans (heap_alloc_new y0 (.cells #[.slice none 0 0, .int .u8 0, .int .i64 0, .string ⟨#[]⟩, .int .i64 0] 33)); obtain ⟨⟨z0, z1, z2, z3, z4⟩, t0, t1, t2, t3, t4⟩ := cell_row5 hzF; have VA := FSET _ WC.heap.size hCF (Nat.le_refl _); have V0 := FSET _ y0.heap.size hCF hC0.size))
        all_goals
          go_wp2_with fail
          go_meet
          case rel =>
            first
            | exact ⟨_, p2, c2, rfl, did_at (v := ⟨0, 0⟩) (t := ⟨#[98, 111, 117, 110, 100, 115]⟩) (n := 0) hm hO hzF, below_set5 hCF (by first | exact Nat.le_refl _ | exact hC0.size | exact hC0.size) _ _ _ _ _⟩
            | exact ⟨_, p2, c2, rfl, did_nw (v := ⟨0, 0⟩) (t := ⟨#[98, 111, 117, 110, 100, 115]⟩) (n := 0) hm hO, hCF.alloc hCF.size _⟩
      case rest =>
        obtain ⟨B4, p4, c4, rfl, hA4, hBD⟩ := hcut
        rename World => WD
        clear FCS FSET HG4
        obtain ⟨⟨-, -, -, -, a4⟩, -⟩ := cell_row5 (hA1''.below hBD).blk
        have k1 := (hA1''.below hBD).blk
        have k2 := (hA2'.below hBD).blk
        have k3 := (hA3.below hBD).blk
        have k4 := hA4.blk
        have hBWD := hBWC.trans (hBD.mono hBWC.size)
        clear hA1'' hA2' hA3 hA4 hBD lB1 a4
        have HBin : ∀ W, Calls Tryz.prog 11 #[.slice none 0 0, .int .u8 4, .agg #[.int .u8 2, .int .i64 1], .agg #[.int .u8 2, .int .i64 0]] W (DidR W [] ⟨0, 0⟩ ⟨#[122, 101, 114, 111]⟩ 0) := fun W => Bin_Div (ask_nil W) 0 1 0 ⟨[], ⟨0, 0⟩, tZero, 0⟩ (by simp)
        have HQ : ∀ W, (binOp .eql 27 (.agg #[.int .u8 2, .int .i64 9]) (.agg #[.int .u8 2, .int .i64 9])).run Tryz.prog W = .ok (.bool true) W := fun W => eqlVal W ⟨2, 9⟩ ⟨2, 9⟩ true (by simp)
        have HFD := fldD2
        have FCS : ∀ W', Below WD.heap.size WD W' → W'.cell? ⟨B1, 4, none⟩ = some (.int .i64 8) ∧ W'.cell? ⟨B2, 4, none⟩ = some (.int .i64 9) ∧ W'.cell? ⟨B3, 1, none⟩ = some (.int .u8 2) ∧ W'.cell? ⟨B3, 2, none⟩ = some (.int .i64 9) ∧ W'.cell? ⟨B4, 3, none⟩ = some (.string ⟨#[98, 111, 117, 110, 100, 115]⟩) := fun W' hb => by
          obtain ⟨⟨-, -, -, -, a4⟩, -⟩ := cell_row5 ((hb.block _ (Array.getElem?_eq_some_iff.1 k1).1).trans k1)
          obtain ⟨⟨-, -, -, -, b4⟩, -⟩ := cell_row5 ((hb.block _ (Array.getElem?_eq_some_iff.1 k2).1).trans k2)
          obtain ⟨⟨-, c1, c2, -, -⟩, -⟩ := cell_row5 ((hb.block _ (Array.getElem?_eq_some_iff.1 k3).1).trans k3)
          obtain ⟨⟨-, -, -, d3, -⟩, -⟩ := cell_row5 ((hb.block _ (Array.getElem?_eq_some_iff.1 k4).1).trans k4)
          exact ⟨a4, b4, c1, c2, d3⟩
        have SW := FCS _ (Below.refl _ _)
        have hD0 := below_drew (Below.refl WD.heap.size WD)
        have S0 := FCS _ hD0
        clear k1 k2 k3 k4
        go_wp2_with fail
        go_region_held3 (fun W' => W'.cell? ⟨B1, 4, none⟩ = some (.int .i64 8) ∧ W'.cell? ⟨B2, 4, none⟩ = some (.int .i64 9) ∧ W'.cell? ⟨B3, 1, none⟩ = some (.int .u8 2) ∧ W'.cell? ⟨B3, 2, none⟩ = some (.int .i64 9) ∧ W'.cell? ⟨B4, 3, none⟩ = some (.string ⟨#[98, 111, 117, 110, 100, 115]⟩)) (first | with_reducible exact SW | with_reducible exact S0 | with_reducible exact S1 | with_reducible exact S2 | with_reducible exact S3 | with_reducible exact S4 | go_keep)
          (first
            | (go_at_call 47; (with_reducible refine (HW 9 WD.drew).mono ?_); rintro e y1 ⟨rfl, hB1⟩; have hC1 := hD0.trans (hB1.mono hD0.size); have S1 := FCS _ hC1; have HQ1 := HQ y1)
            | (go_at_call 47; (with_reducible refine (HW 1 y1).mono ?_); rintro e y2 ⟨rfl, hB2⟩; have hC2 := hC1.trans (hB2.mono hC1.size); have S2 := FCS _ hC2)
            | (go_at_call 47; (with_reducible refine (HW 0 y2).mono ?_); rintro e y3 ⟨rfl, hB3⟩; have hC3 := hC2.trans (hB3.mono hC2.size); have S3 := FCS _ hC3)
            | (go_at_call 11; (with_reducible refine (HBin y3).mono ?_); rintro e y4 ⟨p5, c5, rfl, -, hB4⟩; have hC4 := hC3.trans (hB4.mono hC3.size); have S4 := FCS _ hC4; have HF4 := fun a b c e s => HFD y4 a b c e s))
        all_goals
          go_wp2
          go_ret
          exact ⟨rfl, hBWD.trans (hC4.mono hBWD.size)⟩

end Go.Proofs.YtgokofomoachaaaGreatDoor
