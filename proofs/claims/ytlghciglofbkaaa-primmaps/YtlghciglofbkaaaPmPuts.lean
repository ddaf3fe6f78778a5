/- prim: Put. -/
import Derived.Test.YtlghciglofbkaaaPmGet
namespace Go.Proofs.Ytlghciglofbkaaa
set_option linter.unusedVariables false
set_option linter.unusedSimpArgs false
open Go.RowKit

variable {w : World}

/-- What Put comes to. -/
def PutR (S : List Om) (v k x : Vl) (d : Dv) : Prop := (¬ (fineP S [v, k, x] ∧ (v.k = 5 ∨ (v.k = 4 ∧ k.k = 2))) ∧ d = ⟨S, ⟨0, 0⟩, tKind, 0⟩) ∨ (fineP S [v, k, x] ∧ ∃ (i : Nat) (o : Om) (r : Option Nat), v.n = (i : Int) + 1 ∧ leadO S v = some o ∧ ((v.k = 5 ∧ KeyAt S o.l k r ∧ d = putPairP S i o k x r) ∨ (v.k = 4 ∧ k.k = 2 ∧ d = putItemP S i o k.n x)))

theorem heap_size4 (w : World) (o1 o2 o3 o4 : Obj) : ((((w.alloc o1).alloc o2).alloc o3).alloc o4).heap.size = w.heap.size + 1 + 1 + 1 + 1 := by simp

theorem putItemP_len (S : List Om) (i : Nat) (o : Om) (n : Int) (x : Vl) : (putItemP S i o n x).S.length = S.length := by
  unfold putItemP addedP
  split
  · rfl
  · split
    · simp
    · split
      · rfl
      · split <;> simp

theorem putPairP_len (S : List Om) (i : Nat) (o : Om) (k x : Vl) (r : Option Nat) : (putPairP S i o k x r).S.length = S.length := by
  unfold putPairP addedP
  split
  · simp
  · split
    · rfl
    · split <;> simp

set_option maxRecDepth 20000 in
set_option maxHeartbeats 4000000 in
theorem Put_in {p : Option Addr} {S : List Om} (h : Ask w p S) (c : Nat) (v k x : Vl) (d : Dv) (hd : PutR S v k x d) :
    Calls Try.prog 9 #[.slice p S.length c, .agg #[.int .u8 v.k, .int .i64 v.n], .agg #[.int .u8 k.k, .int .i64 k.n], .agg #[.int .u8 x.k, .int .i64 x.n]] w (DidR w d.S d.v d.t d.n) := by
  have hB := below4' w (.cells #[.int .u8 v.k, .int .i64 v.n] 26) (.cells #[.int .u8 k.k, .int .i64 k.n] 26) (.cells #[.int .u8 x.k, .int .i64 x.n] 26) noD
  have hb0 := heap4_0 w (.cells #[.int .u8 v.k, .int .i64 v.n] 26) (.cells #[.int .u8 k.k, .int .i64 k.n] 26) (.cells #[.int .u8 x.k, .int .i64 x.n] 26) noD
  have hb1 := heap4_1 w (.cells #[.int .u8 v.k, .int .i64 v.n] 26) (.cells #[.int .u8 k.k, .int .i64 k.n] 26) (.cells #[.int .u8 x.k, .int .i64 x.n] 26) noD
  have hb2 := heap4_2 w (.cells #[.int .u8 v.k, .int .i64 v.n] 26) (.cells #[.int .u8 k.k, .int .i64 k.n] 26) (.cells #[.int .u8 x.k, .int .i64 x.n] 26) noD
  have hb3 := heap4_3 w (.cells #[.int .u8 v.k, .int .i64 v.n] 26) (.cells #[.int .u8 k.k, .int .i64 k.n] 26) (.cells #[.int .u8 x.k, .int .i64 x.n] 26) noD
  have hsz := heap_size4 w (.cells #[.int .u8 v.k, .int .i64 v.n] 26) (.cells #[.int .u8 k.k, .int .i64 k.n] 26) (.cells #[.int .u8 x.k, .int .i64 x.n] 26) noD
  unfold noD at hB hb0 hb1 hb2 hb3 hsz
  obtain ⟨x0, x1⟩ := cell_row2 hb0
  obtain ⟨y0, y1⟩ := cell_row2 hb1
  obtain ⟨v0, v1⟩ := cell_row2 hb2
  have HD : Hid _ := hd
  have HZ : Hid _ := hsz
  clear hd hsz
  go_enter Try.func9, Try.ntmps9
  go_wp2_with (first
    | (go_at_call 13; refine halt_here ?_))
  unfold Halted
  generalize hW : (((w.alloc (.cells #[.int .u8 v.k, .int .i64 v.n] 26)).alloc (.cells #[.int .u8 k.k, .int .i64 k.n] 26)).alloc (.cells #[.int .u8 x.k, .int .i64 x.n] 26)).alloc (.cells #[.slice none 0 0, .int .u8 0, .int .i64 0, .string ⟨#[]⟩, .int .i64 0] 28) = W at *
  clear hW
  have hnew := heap_alloc_new W (.cells #[.int .u8 v.k, .int .i64 v.n, .int .u8 k.k, .int .i64 k.n, .int .u8 x.k, .int .i64 x.n] 26)
  rw [HZ.out] at hnew
  have hBY := below1 W (.cells #[.int .u8 v.k, .int .i64 v.n, .int .u8 k.k, .int .i64 k.n, .int .u8 x.k, .int .i64 x.n] 26)
  have hB' := hB.trans (hBY.mono hB.size)
  obtain ⟨bf, hbf⟩ := b_of (fineP S [v, k, x])
  have HM := pmayBe_in (h.below hB') c (l := [v, k, x]) 3 (one_vals3 hnew) (by simp) bf hbf
  refine Calls.mono HM ?_
  clear HM
  rintro e w1 ⟨rfl, hB1⟩
  have hB1' := hBY.trans (hB1.mono hBY.size)
  have hBw := hB.trans (hB1'.mono hB.size)
  have e0 := (hB1'.block _ (Array.getElem?_eq_some_iff.1 hb0).1).trans hb0
  have e1 := (hB1'.block _ (Array.getElem?_eq_some_iff.1 hb1).1).trans hb1
  have e2 := (hB1'.block _ (Array.getElem?_eq_some_iff.1 hb2).1).trans hb2
  have e3 := (hB1'.block _ (Array.getElem?_eq_some_iff.1 hb3).1).trans hb3
  clear x0 x1 y0 y1 v0 v1 hb0 hb1 hb2 hb3 hnew hB1 hB1' hBY hB'
  obtain ⟨x0, x1⟩ := cell_row2 e0
  obtain ⟨y0, y1⟩ := cell_row2 e1
  obtain ⟨v0, v1⟩ := cell_row2 e2
  have l3 := (Array.getElem?_eq_some_iff.1 e3).1
  have HT := throws_in (h.below hBw) c ⟨#[107, 105, 110, 100]⟩
  have kindEnd : d = ⟨S, ⟨0, 0⟩, tKind, 0⟩ → ∀ (p1 : Option Addr) (c1 : Nat) (w2 : World), (∃ ts, ts.map Po.o = S ∧ OwnSt w1.heap.size (.slice p1 S.length c1) ts w2) → Below w1.heap.size w1 w2 → ∀ hr : w2.heap[w.heap.size + 1 + 1 + 1]? = some (.cells #[.slice none 0 0, .int .u8 0, .int .i64 0, .string ⟨#[]⟩, .int .i64 0] 28 (0, 0)), DidR w d.S d.v d.t d.n (.returned (.agg #[.slice p1 S.length c1, .int .u8 0, .int .i64 0, .string ⟨#[107, 105, 110, 100]⟩, .int .i64 0])) (((((w2.setCell ⟨w.heap.size + 1 + 1 + 1, 0, none⟩ (.slice p1 S.length c1)).setCell ⟨w.heap.size + 1 + 1 + 1, 1, none⟩ (.int .u8 0)).setCell ⟨w.heap.size + 1 + 1 + 1, 2, none⟩ (.int .i64 0)).setCell ⟨w.heap.size + 1 + 1 + 1, 3, none⟩ (.string ⟨#[107, 105, 110, 100]⟩)).setCell ⟨w.heap.size + 1 + 1 + 1, 4, none⟩ (.int .i64 0)) := fun hde p1 c1 w2 hts hB2 hr => by
    subst hde
    exact did_fin hr (by omega) (hts_mono hts hBw.size) (hBw.trans (hB2.mono hBw.size)) ⟨0, 0⟩ _ 0
  cases bf with
  | false =>
    have hde : d = ⟨S, ⟨0, 0⟩, tKind, 0⟩ := by
      rcases HD.out with ⟨-, hh⟩ | ⟨hf, -⟩
      · exact hh
      · have := hbf.2 hf; cases this
    clear HD hbf
    go_wp2_with (first
      | (go_at_call 14; (with_reducible refine HT.mono ?_); clear HT; rintro e w2 ⟨p1, c1, rfl, hts, hB2⟩; have hr := (hB2.block _ l3).trans e3; obtain ⟨⟨z0, z1, z2, z3, z4⟩, s0, s1, s2, s3, s4⟩ := cell_row5 hr))
    refine bodyPost_ret (results_cell_row (by rfl) _ _ (w.heap.size + 1 + 1 + 1) 28 _ _ _ (by rfl) (set5_row hr) Try.underlying28 (by rfl) infoDid) (by rfl) ?_
    exact kindEnd hde _ _ _ hts hB2 hr
  | true =>
    have hf := hbf.1 rfl
    clear hbf
    by_cases h5 : v.k = 5
    · obtain ⟨i, o, r, hvn, hle, hka, hde⟩ : ∃ i o r, v.n = ((i : Nat) : Int) + 1 ∧ leadO S v = some o ∧ KeyAt S o.l k r ∧ d = putPairP S i o k x r := by
        rcases HD.out with ⟨hn, -⟩ | ⟨-, i, o, r, h1, h2, h3⟩
        · exact (hn ⟨hf, .inl h5⟩).elim
        · rcases h3 with ⟨-, h4, h6⟩ | ⟨h4, -⟩
          · exact ⟨i, o, r, h1, h2, h4, h6⟩
          · omega
      obtain ⟨o', ho', hobj⟩ := fine_obj hf (v := v) (by simp) (by omega)
      rw [hle] at ho'; cases ho'
      have hok : o.k = 5 := by rw [(leadO_some hle).2.2.1]; exact h5
      have hform := hobj.1.2.2.1 hok
      have hrm := roomP_le hform.2.2.1
      obtain ⟨vk, vn⟩ := v
      simp only at h5 hvn
      subst h5 hvn
      have HP := putPair_in (h.below hBw) c 5 hle hrm.1 hrm.2 (by have := hform.1; omega) (obj_text hobj) k (fine_text hf (by simp)) x r hka d hde
      simp only [show ((5 : Nat) : Int) = 5 from rfl] at x0 x1 HP
      clear hf hle hobj hform hok hka hde kindEnd HT HD
      go_wp2_with (first
        | (go_at_call 20; (with_reducible refine HP.mono ?_); clear HP; rintro e w2 ⟨p1, c1, rfl, hts, hB2⟩; have hr := (hB2.block _ l3).trans e3; obtain ⟨⟨z0, z1, z2, z3, z4⟩, s0, s1, s2, s3, s4⟩ := cell_row5 hr))
      refine bodyPost_ret (results_cell_row (by rfl) _ _ (w.heap.size + 1 + 1 + 1) 28 _ _ _ (by rfl) (set5_row hr) Try.underlying28 (by rfl) infoDid) (by rfl) ?_
      exact did_fin hr (by omega) (hts_mono hts hBw.size) (hBw.trans (hB2.mono hBw.size)) d.v d.t d.n
    · have h5' : ((v.k : Int) == 5) = false := by simp; omega
      have h5n : ¬ ((v.k : Int) = 5) := by omega
      by_cases h4 : v.k = 4
      · by_cases hk : k.k = 2
        · obtain ⟨i, o, hvn, hle, hde⟩ : ∃ i o, v.n = ((i : Nat) : Int) + 1 ∧ leadO S v = some o ∧ d = putItemP S i o k.n x := by
            rcases HD.out with ⟨hn, -⟩ | ⟨-, i, o, r, h1, h2, h3⟩
            · exact (hn ⟨hf, .inr ⟨h4, hk⟩⟩).elim
            · rcases h3 with ⟨h6, -⟩ | ⟨-, -, h6⟩
              · omega
              · exact ⟨i, o, h1, h2, h6⟩
          obtain ⟨o', ho', hobj⟩ := fine_obj hf (v := v) (by simp) (by omega)
          rw [hle] at ho'; cases ho'
          have hok : o.k = 4 := by rw [(leadO_some hle).2.2.1]; exact h4
          have hrm := roomP_le (hobj.1.2.1 hok).2.1
          obtain ⟨vk, vn⟩ := v
          obtain ⟨kk, kn⟩ := k
          simp only at h4 hvn hk
          subst h4 hvn hk
          have HP := putItem_in (h.below hBw) c 4 hle hrm.1 hrm.2 kn x d hde
          simp only [show ((4 : Nat) : Int) = 4 from rfl, show ((2 : Nat) : Int) = 2 from rfl] at x0 x1 y0 y1 HP
          clear hf hle hobj hok hde kindEnd HT HD h5' h5n h5
          go_wp2_with (first
            | (go_at_call 21; (with_reducible refine HP.mono ?_); clear HP; rintro e w2 ⟨p1, c1, rfl, hts, hB2⟩; have hr := (hB2.block _ l3).trans e3; obtain ⟨⟨z0, z1, z2, z3, z4⟩, s0, s1, s2, s3, s4⟩ := cell_row5 hr))
          refine bodyPost_ret (results_cell_row (by rfl) _ _ (w.heap.size + 1 + 1 + 1) 28 _ _ _ (by rfl) (set5_row hr) Try.underlying28 (by rfl) infoDid) (by rfl) ?_
          exact did_fin hr (by omega) (hts_mono hts hBw.size) (hBw.trans (hB2.mono hBw.size)) d.v d.t d.n
        · have hde : d = ⟨S, ⟨0, 0⟩, tKind, 0⟩ := by
            rcases HD.out with ⟨-, hh⟩ | ⟨-, i, o, r, -, -, h3⟩
            · exact hh
            · rcases h3 with ⟨h6, -⟩ | ⟨-, h6, -⟩
              · omega
              · exact (hk h6).elim
          have hk2 : ((k.k : Int) == 2) = false := by simp; omega
          have hk2n : ¬ ((k.k : Int) = 2) := by omega
          rw [h4] at x0
          simp only [show ((4 : Nat) : Int) = 4 from rfl] at x0
          clear h5' h5n HD hk h4 h5
          go_wp2_with (first
            | (go_at_call 14; (with_reducible refine HT.mono ?_); clear HT; rintro e w2 ⟨p1, c1, rfl, hts, hB2⟩; have hr := (hB2.block _ l3).trans e3; obtain ⟨⟨z0, z1, z2, z3, z4⟩, s0, s1, s2, s3, s4⟩ := cell_row5 hr))
          refine bodyPost_ret (results_cell_row (by rfl) _ _ (w.heap.size + 1 + 1 + 1) 28 _ _ _ (by rfl) (set5_row hr) Try.underlying28 (by rfl) infoDid) (by rfl) ?_
          exact kindEnd hde _ _ _ hts hB2 hr
      · have hde : d = ⟨S, ⟨0, 0⟩, tKind, 0⟩ := by
          rcases HD.out with ⟨-, hh⟩ | ⟨-, i, o, r, -, -, h3⟩
          · exact hh
          · rcases h3 with ⟨h6, -⟩ | ⟨h6, -⟩
            · omega
            · exact (h4 h6).elim
        have h4' : ((v.k : Int) == 4) = false := by simp; omega
        have h4n : ¬ ((v.k : Int) = 4) := by omega
        clear HD h4 h5
        go_wp2_with (first
          | (go_at_call 14; (with_reducible refine HT.mono ?_); clear HT; rintro e w2 ⟨p1, c1, rfl, hts, hB2⟩; have hr := (hB2.block _ l3).trans e3; obtain ⟨⟨z0, z1, z2, z3, z4⟩, s0, s1, s2, s3, s4⟩ := cell_row5 hr))
        refine bodyPost_ret (results_cell_row (by rfl) _ _ (w.heap.size + 1 + 1 + 1) 28 _ _ _ (by rfl) (set5_row hr) Try.underlying28 (by rfl) infoDid) (by rfl) ?_
        exact kindEnd hde _ _ _ hts hB2 hr

end Go.Proofs.Ytlghciglofbkaaa
