/- prim: getByte, Get. -/
import Derived.Test.YtlghciglofbkaaaPmPut
namespace Go.Proofs.Ytlghciglofbkaaa
set_option linter.unusedVariables false
set_option linter.unusedSimpArgs false
open Go.RowKit

variable {w : World}

set_option maxRecDepth 20000 in
set_option maxHeartbeats 1000000 in
theorem getByte_bad {p : Option Addr} {S : List Om} (h : Ask w p S) (c : Nat) (t : ByteArray) (n : Int) (hn : n < 0 ∨ (t.size : Int) ≤ n) :
    Calls Try.prog 27 #[.slice p S.length c, .string t, .int .i64 n] w (DidR w S ⟨0, 0⟩ tBounds 0) := by
  have hB := below1 w noD
  have hb := heap_alloc_new w noD
  have H1 := throws_in (h.below hB) c tBounds
  unfold noD at hB hb H1
  unfold tBounds at H1 ⊢
  by_cases h0 : n < 0
  · clear hn
    go_enter Try.func27, Try.ntmps27
    go_wp2_with (first
      | (go_at_call 14; (with_reducible refine H1.mono ?_); clear H1; rintro e w1 ⟨p1, c1, rfl, hts, hB1⟩; have hr := (hB1.block _ (Array.getElem?_eq_some_iff.1 hb).1).trans hb; obtain ⟨⟨z0, z1, z2, z3, z4⟩, y0, y1, y2, y3, y4⟩ := cell_row5 hr))
    refine bodyPost_ret (results_cell_row (by rfl) _ _ w.heap.size 28 _ _ _ (by rfl) (set5_row hr) Try.underlying28 (by rfl) infoDid) (by rfl) ?_
    exact did_fin hr (Nat.le_refl _) (hts_mono hts hB.size) (hB.trans (hB1.mono hB.size)) ⟨0, 0⟩ _ 0
  · have h1 : (t.size : Int) ≤ n := by omega
    clear hn
    go_enter Try.func27, Try.ntmps27
    go_wp2_with (first
      | (go_at_call 14; (with_reducible refine H1.mono ?_); clear H1; rintro e w1 ⟨p1, c1, rfl, hts, hB1⟩; have hr := (hB1.block _ (Array.getElem?_eq_some_iff.1 hb).1).trans hb; obtain ⟨⟨z0, z1, z2, z3, z4⟩, y0, y1, y2, y3, y4⟩ := cell_row5 hr))
    refine bodyPost_ret (results_cell_row (by rfl) _ _ w.heap.size 28 _ _ _ (by rfl) (set5_row hr) Try.underlying28 (by rfl) infoDid) (by rfl) ?_
    exact did_fin hr (Nat.le_refl _) (hts_mono hts hB.size) (hB.trans (hB1.mono hB.size)) ⟨0, 0⟩ _ 0

set_option maxRecDepth 20000 in
set_option maxHeartbeats 1000000 in
theorem getByte_ok {p : Option Addr} {S : List Om} (h : Ask w p S) (c : Nat) (t : ByteArray) (ht : t.size ≤ 1048576) {j : Nat} (hj : j < t.size) :
    Calls Try.prog 27 #[.slice p S.length c, .string t, .int .i64 j] w (DidR w (S ++ [txtO (t.extract j (j + 1))]) ⟨3, (S.length : Int) + 1⟩ ⟨#[]⟩ 3) := by
  have hB := below1 w noD
  have hb := heap_alloc_new w noD
  have hsz : (t.extract j (j + 1)).size = 1 := by rw [ByteArray.size_extract]; omega
  have H1 := ptext_ok (h.below hB) c (t.extract j (j + 1)) (by omega)
  have hwo : wordsO (txtO (t.extract j (j + 1))) = 3 := by
    unfold wordsO
    rw [if_pos (show (txtO (t.extract j (j + 1))).k = 3 from rfl)]
    show 2 + ((t.extract j (j + 1)).size + 7) / 8 = 3
    rw [hsz]
  rw [hwo] at H1
  simp only [show ((3 : Nat) : Int) = 3 from rfl] at H1
  unfold noD at hB hb H1
  have hj' : (j : Int) < (t.size : Int) := by omega
  have hj2 : (j : Int) + 1 ≤ (t.size : Int) := by omega
  clear hsz hwo
  go_enter Try.func27, Try.ntmps27
  go_wp2_with (first
    | (go_at_call 30; (with_reducible refine H1.mono ?_); clear H1; rintro e w1 ⟨p1, c1, rfl, hts, hB1⟩; have hr := (hB1.block _ (Array.getElem?_eq_some_iff.1 hb).1).trans hb; obtain ⟨⟨z0, z1, z2, z3, z4⟩, y0, y1, y2, y3, y4⟩ := cell_row5 hr))
  refine bodyPost_ret (results_cell_row (by rfl) _ _ w.heap.size 28 _ _ _ (by rfl) (set5_row hr) Try.underlying28 (by rfl) infoDid) (by rfl) ?_
  exact did_finN hr (Nat.le_refl _) (n := S.length + 1) (by simp) (hts_mono hts hB.size) (hB.trans (hB1.mono hB.size)) ⟨3, (S.length : Int) + 1⟩ ⟨#[]⟩ 3

/-- What Get comes to of values that may be: the object, and where the key stands. -/
def getP (S : List Om) (v k : Vl) (o : Om) (r : Option Nat) : Dv :=
  if v.k = 5 then ⟨S, mval o.l r, ⟨#[]⟩, 0⟩
  else if v.k = 4 ∧ k.k = 2 then (if k.n < 0 ∨ (o.l.length : Int) ≤ k.n then ⟨S, ⟨0, 0⟩, tBounds, 0⟩ else ⟨S, o.l.getD k.n.toNat ⟨0, 0⟩, ⟨#[]⟩, 0⟩)
  else if v.k = 3 ∧ k.k = 2 then (if k.n < 0 ∨ (o.s.size : Int) ≤ k.n then ⟨S, ⟨0, 0⟩, tBounds, 0⟩ else ⟨S ++ [txtO (o.s.extract k.n.toNat (k.n.toNat + 1))], ⟨3, (S.length : Int) + 1⟩, ⟨#[]⟩, 3⟩)
  else ⟨S, ⟨0, 0⟩, tKind, 0⟩

/-- An object that may be, in a store. -/
theorem fine_obj {S : List Om} {l : List Vl} (hf : fineP S l) {v : Vl} (hv : v ∈ l) (h3 : 3 ≤ v.k) : ∃ o, leadO S v = some o ∧ objP S o := by
  obtain ⟨h7, hc⟩ := hf v hv
  obtain ⟨o, ho⟩ := Option.ne_none_iff_exists'.1 (hc.1.2.2 h3)
  exact ⟨o, ho, hc.2 v.n o (Reach.root (by simp) (by rw [ho]; simp)) (leadO_at ho).1⟩

theorem fine_text {S : List Om} {l : List Vl} (hf : fineP S l) {v : Vl} (hv : v ∈ l) : v.k = 3 → leadO S v ≠ none := fun h3 => (hf v hv).2.1.2.2 (by omega)

theorem obj_text {S : List Om} {o : Om} (h : objP S o) : TextOk S o.l := fun v hv h3 => (h.2.1 v hv).1.2.2 (by omega)

theorem roomP_le {o : Om} (h : roomP o) : 0 ≤ o.room ∧ o.room ≤ 1099511627776 := by
  unfold roomP at h
  omega

/-- What Get comes to. -/
def GetR (S : List Om) (v k : Vl) (d : Dv) : Prop := (¬ fineP S [v, k] ∧ d = ⟨S, ⟨0, 0⟩, tKind, 0⟩) ∨ (fineP S [v, k] ∧ ∃ o r, (3 ≤ v.k → leadO S v = some o) ∧ (v.k = 5 → KeyAt S o.l k r) ∧ d = getP S v k o r)

theorem heap_size3 (w : World) (o1 o2 o3 : Obj) : (((w.alloc o1).alloc o2).alloc o3).heap.size = w.heap.size + 1 + 1 + 1 := by simp

set_option maxRecDepth 20000 in
set_option maxHeartbeats 4000000 in
theorem Get_in {p : Option Addr} {S : List Om} (h : Ask w p S) (c : Nat) (v k : Vl) (d : Dv) (hd : GetR S v k d) :
    Calls Try.prog 11 #[.slice p S.length c, .agg #[.int .u8 v.k, .int .i64 v.n], .agg #[.int .u8 k.k, .int .i64 k.n]] w (DidR w d.S d.v d.t d.n) := by
  have hB := below3' w (.cells #[.int .u8 v.k, .int .i64 v.n] 26) (.cells #[.int .u8 k.k, .int .i64 k.n] 26) noD
  have hb0 := heap3_0 w (.cells #[.int .u8 v.k, .int .i64 v.n] 26) (.cells #[.int .u8 k.k, .int .i64 k.n] 26) noD
  have hb1 := heap3_1 w (.cells #[.int .u8 v.k, .int .i64 v.n] 26) (.cells #[.int .u8 k.k, .int .i64 k.n] 26) noD
  have hb2 := heap3_2 w (.cells #[.int .u8 v.k, .int .i64 v.n] 26) (.cells #[.int .u8 k.k, .int .i64 k.n] 26) noD
  have hsz := heap_size3 w (.cells #[.int .u8 v.k, .int .i64 v.n] 26) (.cells #[.int .u8 k.k, .int .i64 k.n] 26) noD
  unfold noD at hB hb0 hb1 hb2 hsz
  obtain ⟨x0, x1⟩ := cell_row2 hb0
  obtain ⟨y0, y1⟩ := cell_row2 hb1
  have HD : Hid _ := hd
  have HZ : Hid _ := hsz
  clear hd hsz
  go_enter Try.func11, Try.ntmps11
  go_wp2_with (first
    | (go_at_call 13; refine halt_here ?_))
  unfold Halted
  generalize hW : ((w.alloc (.cells #[.int .u8 v.k, .int .i64 v.n] 26)).alloc (.cells #[.int .u8 k.k, .int .i64 k.n] 26)).alloc (.cells #[.slice none 0 0, .int .u8 0, .int .i64 0, .string ⟨#[]⟩, .int .i64 0] 28) = W at *
  clear hW
  have hnew := heap_alloc_new W (.cells #[.int .u8 v.k, .int .i64 v.n, .int .u8 k.k, .int .i64 k.n] 26)
  rw [HZ.out] at hnew
  have hBY := below1 W (.cells #[.int .u8 v.k, .int .i64 v.n, .int .u8 k.k, .int .i64 k.n] 26)
  have hB' := hB.trans (hBY.mono hB.size)
  obtain ⟨bf, hbf⟩ := b_of (fineP S [v, k])
  have HM := pmayBe_in (h.below hB') c (l := [v, k]) 2 (one_vals2 hnew) (by simp) bf hbf
  refine Calls.mono HM ?_
  clear HM
  rintro e w1 ⟨rfl, hB1⟩
  have hB1' := hBY.trans (hB1.mono hBY.size)
  have hBw := hB.trans (hB1'.mono hB.size)
  have e0 := (hB1'.block _ (Array.getElem?_eq_some_iff.1 hb0).1).trans hb0
  have e1 := (hB1'.block _ (Array.getElem?_eq_some_iff.1 hb1).1).trans hb1
  have e2 := (hB1'.block _ (Array.getElem?_eq_some_iff.1 hb2).1).trans hb2
  clear x0 x1 y0 y1 hb0 hb1 hb2 hnew hB1 hB1' hBY hB'
  obtain ⟨x0, x1⟩ := cell_row2 e0
  obtain ⟨y0, y1⟩ := cell_row2 e1
  have l0 := (Array.getElem?_eq_some_iff.1 e0).1
  have l1 := (Array.getElem?_eq_some_iff.1 e1).1
  have l2 := (Array.getElem?_eq_some_iff.1 e2).1
  have HT := throws_in (h.below hBw) c ⟨#[107, 105, 110, 100]⟩
  have kindEnd : d = ⟨S, ⟨0, 0⟩, tKind, 0⟩ → ∀ (p1 : Option Addr) (c1 : Nat) (w2 : World), (∃ ts, ts.map Po.o = S ∧ OwnSt w1.heap.size (.slice p1 S.length c1) ts w2) → Below w1.heap.size w1 w2 → ∀ hr : w2.heap[w.heap.size + 1 + 1]? = some (.cells #[.slice none 0 0, .int .u8 0, .int .i64 0, .string ⟨#[]⟩, .int .i64 0] 28 (0, 0)), DidR w d.S d.v d.t d.n (.returned (.agg #[.slice p1 S.length c1, .int .u8 0, .int .i64 0, .string ⟨#[107, 105, 110, 100]⟩, .int .i64 0])) (((((w2.setCell ⟨w.heap.size + 1 + 1, 0, none⟩ (.slice p1 S.length c1)).setCell ⟨w.heap.size + 1 + 1, 1, none⟩ (.int .u8 0)).setCell ⟨w.heap.size + 1 + 1, 2, none⟩ (.int .i64 0)).setCell ⟨w.heap.size + 1 + 1, 3, none⟩ (.string ⟨#[107, 105, 110, 100]⟩)).setCell ⟨w.heap.size + 1 + 1, 4, none⟩ (.int .i64 0)) := fun hde p1 c1 w2 hts hB2 hr => by
    subst hde
    exact did_fin hr (by omega) (hts_mono hts hBw.size) (hBw.trans (hB2.mono hBw.size)) ⟨0, 0⟩ _ 0
  cases bf with
  | false =>
    have hde : d = ⟨S, ⟨0, 0⟩, tKind, 0⟩ := by
      rcases HD.out with ⟨-, hh⟩ | ⟨hf, -⟩
      · exact hh
      · have := hbf.2 hf; cases this
    clear HD hbf
    go_wp2_with (first
      | (go_at_call 14; (with_reducible refine HT.mono ?_); clear HT; rintro e w2 ⟨p1, c1, rfl, hts, hB2⟩; have hr := (hB2.block _ l2).trans e2; obtain ⟨⟨z0, z1, z2, z3, z4⟩, s0, s1, s2, s3, s4⟩ := cell_row5 hr))
    refine bodyPost_ret (results_cell_row (by rfl) _ _ (w.heap.size + 1 + 1) 28 _ _ _ (by rfl) (set5_row hr) Try.underlying28 (by rfl) infoDid) (by rfl) ?_
    exact kindEnd hde _ _ _ hts hB2 hr
  | true =>
    have hf := hbf.1 rfl
    obtain ⟨o, r, hlo, hka, hde⟩ : ∃ o r, (3 ≤ v.k → leadO S v = some o) ∧ (v.k = 5 → KeyAt S o.l k r) ∧ d = getP S v k o r := by
      rcases HD.out with ⟨hn, -⟩ | ⟨-, hh⟩
      · exact (hn hf).elim
      · exact hh
    clear HD hbf
    have hD := below_drew (Below.refl w1.heap.size w1)
    have hBd := hBw.trans (hD.mono hBw.size)
    have FS : ∀ W', Below w1.heap.size w1 W' → (W'.cell? ⟨w.heap.size, 0, none⟩ = some (.int .u8 v.k) ∧ W'.cell? ⟨w.heap.size, 1, none⟩ = some (.int .i64 v.n)) ∧ W'.cell? ⟨w.heap.size + 1, 0, none⟩ = some (.int .u8 k.k) ∧ W'.cell? ⟨w.heap.size + 1, 1, none⟩ = some (.int .i64 k.n) := fun W' hb => ⟨cell_row2 ((hb.block _ l0).trans e0), cell_row2 ((hb.block _ l1).trans e1)⟩
    have S0 := FS _ hD
    have SW := FS _ (Below.refl _ _)
    have HF1 := fldO1
    have HF2 := fldO2
    have hn02 : w.heap.size ≠ w.heap.size + 1 + 1 := by omega
    have hn12 : w.heap.size + 1 ≠ w.heap.size + 1 + 1 := by omega
    by_cases h5 : v.k = 5
    · obtain ⟨vk, vn⟩ := v
      simp only at h5
      subst h5
      have hle : leadO S ⟨5, vn⟩ = some o := hlo (by simp)
      obtain ⟨o', ho', hobj⟩ := fine_obj hf (v := ⟨5, vn⟩) (by simp) (by simp)
      rw [hle] at ho'; cases ho'
      have hok : o.k = 5 := (leadO_some hle).2.2.1
      have hform := hobj.1.2.2.1 hok
      have hl2 : o.l.length % 2 = 0 := by have := hform.1; omega
      have hlen : o.l.length ≤ 1000000 := by have := hform.2.1; omega
      have HO := object_in (h.below hBd) c ⟨5, vn⟩ hle
      have HV := fun (W' : World) (q : Option Addr) (co : Nat) (hb : Below w.heap.size w W') (hq : Vals W' q o.l) => valueOf_in (h.below hb) c co hq hlen hl2 (obj_text hobj) k (fine_text hf (by simp)) r (hka rfl) _ rfl
      have hdS : d = ⟨S, mval o.l r, ⟨#[]⟩, 0⟩ := by rw [hde]; rfl
      generalize mval o.l r = x at HV hdS
      clear hde
      subst hdS
      have HC := fun (W' : World) (hb : Below w.heap.size w W') => comesTo_in (h.below hb) c x
      simp only [show ((5 : Nat) : Int) = 5 from rfl] at x0 HO S0 SW FS
      have HX : Hid _ := And.intro hf (And.intro hle hobj)
      clear hf hle hobj hlo hka hform hok kindEnd HT hl2
      go_wp2_with fail
      go_region_held3 (fun W => (W.cell? ⟨w.heap.size, 0, none⟩ = some (.int .u8 5) ∧ W.cell? ⟨w.heap.size, 1, none⟩ = some (.int .i64 vn)) ∧ W.cell? ⟨w.heap.size + 1, 0, none⟩ = some (.int .u8 k.k) ∧ W.cell? ⟨w.heap.size + 1, 1, none⟩ = some (.int .i64 k.n)) (first | with_reducible exact S0 | with_reducible exact SW | with_reducible exact S2 | with_reducible exact S3 | with_reducible exact ⟨⟨s0, s1⟩, s2, s3⟩ | with_reducible exact ⟨⟨(cell_set5 hn02).trans s0, (cell_set5 hn02).trans s1⟩, (cell_set5 hn12).trans s2, (cell_set5 hn12).trans s3⟩ | go_keep)
        (first
          | (go_at_call 24; (with_reducible refine HO.mono ?_); clear HO; rintro e w2 ⟨q, co, rfl, hvq, -, hB2⟩; have hD2 := hD.trans (hB2.mono hD.size); have S2 := FS _ hD2; have hBw2 := hBw.trans (hD2.mono hBw.size); have HV2 := HV w2 q co hBw2 (hvq.below hB2))
          | (go_at_call 25; (with_reducible refine HV2.mono ?_); clear HV2; rintro e w3 ⟨rfl, hB3⟩; have hD3 := hD2.trans (hB3.mono hD2.size); have S3 := FS _ hD3; have hBw3 := hBw.trans (hD3.mono hBw.size); have HC3 := HC w3 hBw3)
          | (go_at_call 22; (with_reducible refine HC3.mono ?_); clear HC3; rintro e w4 ⟨p1, c1, rfl, hts, hB4⟩; have hD4 := hD3.trans (hB4.mono hD3.size); obtain ⟨⟨s0, s1⟩, s2, s3⟩ := FS _ hD4; have hr := (hD4.block _ l2).trans e2; obtain ⟨⟨z0, z1, z2, z3, z4⟩, t0, t1, t2, t3, t4⟩ := cell_row5 hr))
      all_goals
        go_wp2
        refine bodyPost_ret (results_cell_row (by rfl) _ _ (w.heap.size + 1 + 1) 28 _ _ _ (by rfl) (set5_row hr) Try.underlying28 (by rfl) infoDid) (by rfl) ?_
        exact did_fin hr (by omega) (hts_mono hts hBw3.size) (hBw3.trans (hB4.mono hBw3.size)) x ⟨#[]⟩ 0
    · by_cases h4 : v.k = 4 ∧ k.k = 2
      · obtain ⟨vk, vn⟩ := v
        obtain ⟨kk, kn⟩ := k
        simp only at h4
        obtain ⟨hv_, hk_⟩ := h4
        subst hv_ hk_
        have hle : leadO S ⟨4, vn⟩ = some o := hlo (by simp)
        obtain ⟨o', ho', hobj⟩ := fine_obj hf (v := ⟨4, vn⟩) (by simp) (by simp)
        rw [hle] at ho'; cases ho'
        have hok : o.k = 4 := (leadO_some hle).2.2.1
        have hlen : o.l.length ≤ 1000000 := by have := (hobj.1.2.1 hok).1; omega
        have HO := object_in (h.below hBd) c ⟨4, vn⟩ hle
        have HV : ∀ (W' : World) (q : Option Addr) (co : Nat), Below w.heap.size w W' → Vals W' q o.l → Calls Try.prog 26 #[.slice p S.length c, .slice q o.l.length co, .int .i64 kn] W' (DidR W' d.S d.v d.t d.n) := fun W' q co hb hq => by
          rw [hde]
          unfold getP
          rw [if_neg (by simp), if_pos (by simp)]
          by_cases hn : kn < 0 ∨ (o.l.length : Int) ≤ kn
          · simp only
            rw [if_pos hn]
            exact getItem_bad (h.below hb) c co kn hn
          · simp only
            rw [if_neg hn]
            obtain ⟨j, rfl⟩ : ∃ j : Nat, kn = j := ⟨kn.toNat, by omega⟩
            exact getItem_ok (h.below hb) c co hq hlen (j := j) (by have hj : j < o.l.length := (by omega); simp [List.getD, hj])
        simp only [show ((4 : Nat) : Int) = 4 from rfl, show ((2 : Nat) : Int) = 2 from rfl] at x0 y0 HO S0 SW FS
        have HX : Hid _ := And.intro hf (And.intro hle hobj)
        clear hf hle hobj hlo hka hok kindEnd HT h5 hde
        go_wp2_with fail
        go_region_held3 (fun W => (W.cell? ⟨w.heap.size, 0, none⟩ = some (.int .u8 4) ∧ W.cell? ⟨w.heap.size, 1, none⟩ = some (.int .i64 vn)) ∧ W.cell? ⟨w.heap.size + 1, 0, none⟩ = some (.int .u8 2) ∧ W.cell? ⟨w.heap.size + 1, 1, none⟩ = some (.int .i64 kn)) (first | with_reducible exact S0 | with_reducible exact SW | with_reducible exact S2 | with_reducible exact ⟨⟨s0, s1⟩, s2, s3⟩ | with_reducible exact ⟨⟨(cell_set5 hn02).trans s0, (cell_set5 hn02).trans s1⟩, (cell_set5 hn12).trans s2, (cell_set5 hn12).trans s3⟩ | go_keep)
          (first
            | (go_at_call 24; (with_reducible refine HO.mono ?_); clear HO; rintro e w2 ⟨q, co, rfl, hvq, -, hB2⟩; have hD2 := hD.trans (hB2.mono hD.size); have S2 := FS _ hD2; have hBw2 := hBw.trans (hD2.mono hBw.size); have HV2 := HV w2 q co hBw2 (hvq.below hB2))
            | (go_at_call 26; (with_reducible refine HV2.mono ?_); clear HV2; rintro e w4 ⟨p1, c1, rfl, hts, hB4⟩; have hD4 := hD2.trans (hB4.mono hD2.size); obtain ⟨⟨s0, s1⟩, s2, s3⟩ := FS _ hD4; have hr := (hD4.block _ l2).trans e2; obtain ⟨⟨z0, z1, z2, z3, z4⟩, t0, t1, t2, t3, t4⟩ := cell_row5 hr))
        all_goals
          go_wp2
          refine bodyPost_ret (results_cell_row (by rfl) _ _ (w.heap.size + 1 + 1) 28 _ _ _ (by rfl) (set5_row hr) Try.underlying28 (by rfl) infoDid) (by rfl) ?_
          exact did_fin hr (by omega) (hts_mono hts hBw2.size) (hBw2.trans (hB4.mono hBw2.size)) d.v d.t d.n
      · by_cases h3 : v.k = 3 ∧ k.k = 2
        · obtain ⟨vk, vn⟩ := v
          obtain ⟨kk, kn⟩ := k
          simp only at h3
          obtain ⟨hv_, hk_⟩ := h3
          subst hv_ hk_
          have hle : leadO S ⟨3, vn⟩ = some o := hlo (by simp)
          obtain ⟨o', ho', hobj⟩ := fine_obj hf (v := ⟨3, vn⟩) (by simp) (by simp)
          rw [hle] at ho'; cases ho'
          have hok : o.k = 3 := (leadO_some hle).2.2.1
          have hlen : o.s.size ≤ 1048576 := by have := (hobj.1.1 hok).1; omega
          have HO := object_in (h.below hBd) c ⟨3, vn⟩ hle
          have HV : ∀ (W' : World) (q : Option Addr) (co : Nat), Below w.heap.size w W' → Vals W' q o.l → Calls Try.prog 27 #[.slice p S.length c, .string o.s, .int .i64 kn] W' (DidR W' d.S d.v d.t d.n) := fun W' q co hb hq => by
            rw [hde]
            unfold getP
            rw [if_neg (by simp), if_neg (by simp), if_pos (by simp)]
            by_cases hn : kn < 0 ∨ (o.s.size : Int) ≤ kn
            · simp only
              rw [if_pos hn]
              exact getByte_bad (h.below hb) c o.s kn hn
            · simp only
              rw [if_neg hn]
              obtain ⟨j, rfl⟩ : ∃ j : Nat, kn = j := ⟨kn.toNat, by omega⟩
              exact getByte_ok (h.below hb) c o.s hlen (j := j) (by omega)
          simp only [show ((3 : Nat) : Int) = 3 from rfl, show ((2 : Nat) : Int) = 2 from rfl] at x0 y0 HO S0 SW FS
          have HX : Hid _ := And.intro hf (And.intro hle hobj)
          clear hf hle hobj hlo hka hok kindEnd HT h5 hde h4
          go_wp2_with fail
          go_region_held3 (fun W => (W.cell? ⟨w.heap.size, 0, none⟩ = some (.int .u8 3) ∧ W.cell? ⟨w.heap.size, 1, none⟩ = some (.int .i64 vn)) ∧ W.cell? ⟨w.heap.size + 1, 0, none⟩ = some (.int .u8 2) ∧ W.cell? ⟨w.heap.size + 1, 1, none⟩ = some (.int .i64 kn)) (first | with_reducible exact S0 | with_reducible exact SW | with_reducible exact S2 | with_reducible exact ⟨⟨s0, s1⟩, s2, s3⟩ | with_reducible exact ⟨⟨(cell_set5 hn02).trans s0, (cell_set5 hn02).trans s1⟩, (cell_set5 hn12).trans s2, (cell_set5 hn12).trans s3⟩ | go_keep)
            (first
              | (go_at_call 24; (with_reducible refine HO.mono ?_); clear HO; rintro e w2 ⟨q, co, rfl, hvq, -, hB2⟩; have hD2 := hD.trans (hB2.mono hD.size); have S2 := FS _ hD2; have hBw2 := hBw.trans (hD2.mono hBw.size); have HV2 := HV w2 q co hBw2 (hvq.below hB2))
              | (go_at_call 27; (with_reducible refine HV2.mono ?_); clear HV2; rintro e w4 ⟨p1, c1, rfl, hts, hB4⟩; have hD4 := hD2.trans (hB4.mono hD2.size); obtain ⟨⟨s0, s1⟩, s2, s3⟩ := FS _ hD4; have hr := (hD4.block _ l2).trans e2; obtain ⟨⟨z0, z1, z2, z3, z4⟩, t0, t1, t2, t3, t4⟩ := cell_row5 hr))
          all_goals
            go_wp2
            refine bodyPost_ret (results_cell_row (by rfl) _ _ (w.heap.size + 1 + 1) 28 _ _ _ (by rfl) (set5_row hr) Try.underlying28 (by rfl) infoDid) (by rfl) ?_
            exact did_fin hr (by omega) (hts_mono hts hBw2.size) (hBw2.trans (hB4.mono hBw2.size)) d.v d.t d.n
        · have hde' : d = ⟨S, ⟨0, 0⟩, tKind, 0⟩ := by rw [hde]; unfold getP; rw [if_neg h5, if_neg h4, if_neg h3]
          have h5' : ((v.k : Int) == 5) = false := by simp; omega
          have h5n : ¬ ((v.k : Int) = 5) := by omega
          clear hde hlo hka HF1 HF2 FS S0 SW
          by_cases h4' : v.k = 4
          · have hk2 : ((k.k : Int) == 2) = false := by simp; omega
            have hk2n : ¬ ((k.k : Int) = 2) := by omega
            rw [h4'] at x0
            simp only [show ((4 : Nat) : Int) = 4 from rfl] at x0
            clear h5' h5n
            go_wp2_with (first
              | (go_at_call 14; (with_reducible refine HT.mono ?_); clear HT; rintro e w2 ⟨p1, c1, rfl, hts, hB2⟩; have hr := (hB2.block _ l2).trans e2; obtain ⟨⟨z0, z1, z2, z3, z4⟩, s0, s1, s2, s3, s4⟩ := cell_row5 hr))
            refine bodyPost_ret (results_cell_row (by rfl) _ _ (w.heap.size + 1 + 1) 28 _ _ _ (by rfl) (set5_row hr) Try.underlying28 (by rfl) infoDid) (by rfl) ?_
            exact kindEnd hde' _ _ _ hts hB2 hr
          · have h4f : ((v.k : Int) == 4) = false := by simp; omega
            have h4n : ¬ ((v.k : Int) = 4) := by omega
            by_cases h3' : v.k = 3
            · have hk2 : ((k.k : Int) == 2) = false := by simp; omega
              have hk2n : ¬ ((k.k : Int) = 2) := by omega
              rw [h3'] at x0
              simp only [show ((3 : Nat) : Int) = 3 from rfl] at x0
              clear h5' h5n h4f h4n
              go_wp2_with (first
                | (go_at_call 14; (with_reducible refine HT.mono ?_); clear HT; rintro e w2 ⟨p1, c1, rfl, hts, hB2⟩; have hr := (hB2.block _ l2).trans e2; obtain ⟨⟨z0, z1, z2, z3, z4⟩, s0, s1, s2, s3, s4⟩ := cell_row5 hr))
              refine bodyPost_ret (results_cell_row (by rfl) _ _ (w.heap.size + 1 + 1) 28 _ _ _ (by rfl) (set5_row hr) Try.underlying28 (by rfl) infoDid) (by rfl) ?_
              exact kindEnd hde' _ _ _ hts hB2 hr
            · have h3f : ((v.k : Int) == 3) = false := by simp; omega
              have h3n : ¬ ((v.k : Int) = 3) := by omega
              go_wp2_with (first
                | (go_at_call 14; (with_reducible refine HT.mono ?_); clear HT; rintro e w2 ⟨p1, c1, rfl, hts, hB2⟩; have hr := (hB2.block _ l2).trans e2; obtain ⟨⟨z0, z1, z2, z3, z4⟩, s0, s1, s2, s3, s4⟩ := cell_row5 hr))
              refine bodyPost_ret (results_cell_row (by rfl) _ _ (w.heap.size + 1 + 1) 28 _ _ _ (by rfl) (set5_row hr) Try.underlying28 (by rfl) infoDid) (by rfl) ?_
              exact kindEnd hde' _ _ _ hts hB2 hr

end Go.Proofs.Ytlghciglofbkaaa
