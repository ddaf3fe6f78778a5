/- Show of both sides; law11's words and same. -/
import Derived.Test.YtgokofomoachaaaGreatDoorPoText
import Derived.Test.YtgokofomoachaaaGreatDoorShText
import Derived.Test.YtgokofomoachaaaGreatDoorShTextsLaw
namespace Go.Proofs.YtgokofomoachaaaGreatDoor
set_option linter.unusedVariables false
set_option linter.unusedSimpArgs false
open Go.RowKit

variable {w : World}

theorem Ask.given {p : Option Addr} {S : List Om} (h : Ask w p S) (ht : Tab w) : Given w p S := ⟨h.st, Nat.le_trans h.len (by unfold maxLen; decide), h.str, h.fit, ht⟩

theorem Ask.wide {p : Option Addr} {S : List Om} (h : Ask w p S) : ∀ o ∈ S, o.l.length ≤ 1048576 := fun o ho => by have := h.vals o ho; omega

/-- A value's text, as a string. -/
def txV (S : List Om) (v : Vl) : ByteArray := ⟨(textB S v).toArray⟩

theorem txV_size (S : List Om) (v : Vl) : (txV S v).size = (textB S v).length := by
  show (textB S v).toArray.size = _
  simp

set_option maxRecDepth 20000 in
set_option maxHeartbeats 1000000 in
theorem Told_in {p : Option Addr} {S : List Om} (h : Ask w p S) (ht : Tab w) (c : Nat) (v : Vl) (hf : v.fits) (tx th : ByteArray)
    (hr : (v.k = 7 ∧ tx = ⟨#[]⟩ ∧ th = tKind) ∨ (v.k ≠ 7 ∧ 4096 < (textB S v).length ∧ tx = ⟨#[]⟩ ∧ th = tGreat) ∨ (v.k ≠ 7 ∧ (textB S v).length ≤ 4096 ∧ tx = txV S v ∧ th = ⟨#[]⟩)) :
    Calls Tryz.prog 178 #[.slice p S.length c, .agg #[.int .u8 v.k, .int .i64 v.n]] w fun e w' => e = .returned (.tuple #[.string tx, .string th]) ∧ Below w.heap.size w w' := by
  have hB := below1 w (.cells #[.int .u8 v.k, .int .i64 v.n] 27)
  obtain ⟨x0, x1⟩ := cell_row2 (heap_alloc_new w (.cells #[.int .u8 v.k, .int .i64 v.n] 27))
  rcases hr with ⟨h7, rfl, rfl⟩ | ⟨h7, hl, rfl, rfl⟩ | ⟨h7, hl, htx, rfl⟩
  · unfold tKind
    obtain ⟨vk, vn⟩ := v
    simp only at h7
    subst h7
    simp only [show ((7 : Nat) : Int) = 7 from rfl] at hB x0 x1 ⊢
    go_enter Tryz.func178, Tryz.ntmps178
    go_wp2
    go_ret2
    exact ⟨rfl, hB⟩
  · have HT := Text_long c ((h.below hB).given (ht.below hB)) h.wide v hf hl
    have h7' : ¬ ((v.k : Int) = 7) := by omega
    unfold tGreat
    clear hl h7
    go_enter Tryz.func178, Tryz.ntmps178
    go_wp2_with (first
      | (go_at_call 249; (with_reducible refine HT.mono ?_); clear HT; rintro e w1 ⟨rfl, hB1⟩))
    go_ret2
    exact ⟨rfl, hB.trans (hB1.mono hB.size)⟩
  · have HT := Text_fits c ((h.below hB).given (ht.below hB)) h.wide v hf hl
    have h7' : ¬ ((v.k : Int) = 7) := by omega
    unfold txV at htx
    rw [← htx] at HT
    clear hl h7 htx
    go_enter Tryz.func178, Tryz.ntmps178
    go_wp2_with (first
      | (go_at_call 249; (with_reducible refine HT.mono ?_); clear HT; rintro e w1 ⟨rfl, hB1⟩))
    go_ret2
    exact ⟨rfl, hB.trans (hB1.mono hB.size)⟩

/-- What Show works out. -/
def showD (S : List Om) (v : Vl) : Dd := if v.k = 7 then thrD tKind else if 4096 < (textB S v).length then thrD tGreat else makesD (txtO (txV S v))

def showP (S : List Om) (v : Vl) : Dv := if v.k = 7 then refD S else if 4096 < (textB S v).length then ⟨S, ⟨0, 0⟩, tGreat, 0⟩ else ⟨S ++ [txtO (txV S v)], ⟨3, (S.length : Int) + 1⟩, ⟨#[]⟩, (wordsO (txtO (txV S v)) : Nat)⟩

theorem showD_done (S : List Om) (v : Vl) : DoneR S (showD S v) (showP S v) := by
  unfold showD showP
  by_cases h7 : v.k = 7
  · rw [if_pos h7, if_pos h7]; exact DoneR.old (d := thrD tKind) rfl rfl
  · rw [if_neg h7, if_neg h7]
    by_cases hl : 4096 < (textB S v).length
    · rw [if_pos hl, if_pos hl]; exact DoneR.old (d := thrD tGreat) rfl rfl
    · rw [if_neg hl, if_neg hl]
      exact DoneR.new (d := makesD (txtO (txV S v))) (by simp [makesD, txtO]) rfl (by simp [makesD, txtO]) (by simp only [makesD, txtO]; rw [txV_size]; omega)

set_option maxRecDepth 20000 in
set_option maxHeartbeats 1000000 in
theorem Show_pl {p : Option Addr} {S : List Om} (h : Ask w p S) (ht : Tab w) (c : Nat) (v : Vl) (hf : v.fits) {d : Dd} (hd : d = showD S v) :
    Calls Tryz.prog 67 #[.slice p S.length c, .agg #[.int .u8 v.k, .int .i64 v.n]] w (DeedR w d) := by
  have hB := below2' w (.cells #[.int .u8 v.k, .int .i64 v.n] 27) (.cells #[.string ⟨#[]⟩, .int .i64 0, .int .u8 0, .int .i64 0, .int .u8 0, .string ⟨#[]⟩, .slice none 0 0, .int .i64 0, .int .i64 0, .int .i64 0, .int .i64 0, .slice none 0 0, .int .i64 0] 100)
  have hb0 := (Below.heap_alloc _ (.cells #[.string ⟨#[]⟩, .int .i64 0, .int .u8 0, .int .i64 0, .int .u8 0, .string ⟨#[]⟩, .slice none 0 0, .int .i64 0, .int .i64 0, .int .i64 0, .int .i64 0, .slice none 0 0, .int .i64 0] 100) w.heap.size (by simp)).trans (heap_alloc_new w (.cells #[.int .u8 v.k, .int .i64 v.n] 27))
  have hb := heap_two w (.cells #[.int .u8 v.k, .int .i64 v.n] 27) (.cells #[.string ⟨#[]⟩, .int .i64 0, .int .u8 0, .int .i64 0, .int .u8 0, .string ⟨#[]⟩, .slice none 0 0, .int .i64 0, .int .i64 0, .int .i64 0, .int .i64 0, .slice none 0 0, .int .i64 0] 100)
  obtain ⟨x0, x1⟩ := cell_row2 hb0
  unfold showD at hd
  by_cases h7 : v.k = 7
  · rw [if_pos h7] at hd
    have HT := Told_in (h.below hB) (ht.below hB) c v hf _ _ (.inl ⟨h7, rfl, rfl⟩)
    have HW := fun (W : World) => throwsD hd W
    unfold tKind at HT HW
    clear hd h7
    go_enter Tryz.func67, Tryz.ntmps67
    go_wp2_with (first
      | (go_at_call 178; (with_reducible refine HT.mono ?_); clear HT; rintro e w2 ⟨rfl, hB2⟩; have hb' := (hB2.block _ (Array.getElem?_eq_some_iff.1 hb).1).trans hb; have hB3 := hB.trans (hB2.mono hB.size); have H1 := HW w2)
      | (go_at_call 154; (with_reducible refine H1.mono ?_); clear H1; rintro e w1 ⟨q, c_, q2, rfl, h1, h2, hB1⟩; have hr := (hB1.block _ (Array.getElem?_eq_some_iff.1 hb').1).trans hb'; obtain ⟨⟨z0, z1, z2, z3, z4, z5, z6, z7, z8, z9, z10, z11, z12⟩, y0, y1, y2, y3, y4, y5, y6, y7, y8, y9, y10, y11, y12⟩ := cell_row13 hr))
    refine bodyPost_ret (results_cell_row (by rfl) _ _ (w.heap.size + 1) 100 _ _ _ (by rfl) (set13_row hr) Tryz.underlying100 (by rfl) infoDeed) (by rfl) ?_
    exact deed_fin hr (by omega) d h1 h2 (hB3.trans (hB1.mono hB3.size))
  · rw [if_neg h7] at hd
    by_cases hl : 4096 < (textB S v).length
    · rw [if_pos hl] at hd
      have HT := Told_in (h.below hB) (ht.below hB) c v hf _ _ (.inr (.inl ⟨h7, hl, rfl, rfl⟩))
      have HW := fun (W : World) => throwsD hd W
      unfold tGreat at HT HW
      clear hd h7 hl
      go_enter Tryz.func67, Tryz.ntmps67
      go_wp2_with (first
        | (go_at_call 178; (with_reducible refine HT.mono ?_); clear HT; rintro e w2 ⟨rfl, hB2⟩; have hb' := (hB2.block _ (Array.getElem?_eq_some_iff.1 hb).1).trans hb; have hB3 := hB.trans (hB2.mono hB.size); have H1 := HW w2)
        | (go_at_call 154; (with_reducible refine H1.mono ?_); clear H1; rintro e w1 ⟨q, c_, q2, rfl, h1, h2, hB1⟩; have hr := (hB1.block _ (Array.getElem?_eq_some_iff.1 hb').1).trans hb'; obtain ⟨⟨z0, z1, z2, z3, z4, z5, z6, z7, z8, z9, z10, z11, z12⟩, y0, y1, y2, y3, y4, y5, y6, y7, y8, y9, y10, y11, y12⟩ := cell_row13 hr))
      refine bodyPost_ret (results_cell_row (by rfl) _ _ (w.heap.size + 1) 100 _ _ _ (by rfl) (set13_row hr) Tryz.underlying100 (by rfl) infoDeed) (by rfl) ?_
      exact deed_fin hr (by omega) d h1 h2 (hB3.trans (hB1.mono hB3.size))
    · rw [if_neg hl] at hd
      have HT := Told_in (h.below hB) (ht.below hB) c v hf _ _ (.inr (.inr ⟨h7, by omega, rfl, rfl⟩))
      have HW := fun (W : World) => Text_ok (txV S v) W (by rw [txV_size]; omega) hd
      generalize txV S v = tx at HT HW
      clear hd h7 hl
      go_enter Tryz.func67, Tryz.ntmps67
      go_wp2_with (first
        | (go_at_call 178; (with_reducible refine HT.mono ?_); clear HT; rintro e w2 ⟨rfl, hB2⟩; have hb' := (hB2.block _ (Array.getElem?_eq_some_iff.1 hb).1).trans hb; have hB3 := hB.trans (hB2.mono hB.size); have H1 := HW w2)
        | (go_at_call 70; (with_reducible refine H1.mono ?_); clear H1; rintro e w1 ⟨q, c_, q2, rfl, h1, h2, hB1⟩; have hr := (hB1.block _ (Array.getElem?_eq_some_iff.1 hb').1).trans hb'; obtain ⟨⟨z0, z1, z2, z3, z4, z5, z6, z7, z8, z9, z10, z11, z12⟩, y0, y1, y2, y3, y4, y5, y6, y7, y8, y9, y10, y11, y12⟩ := cell_row13 hr))
      refine bodyPost_ret (results_cell_row (by rfl) _ _ (w.heap.size + 1) 100 _ _ _ (by rfl) (set13_row hr) Tryz.underlying100 (by rfl) infoDeed) (by rfl) ?_
      exact deed_fin hr (by omega) d h1 h2 (hB3.trans (hB1.mono hB3.size))

/-- What the document's Show comes to. -/
def showR (S : List Om) (v : Vl) (d : Rd) (S' : List Om) : Prop := (¬ fineP S [v] ∧ d = { t := tKind } ∧ S' = S) ∨ (fineP S [v] ∧ 4096 < (textB S v).length ∧ d = { t := tGreat } ∧ S' = S) ∨ (fineP S [v] ∧ (textB S v).length ≤ 4096 ∧ d = { v := ⟨3, (S.length : Int) + 1⟩, n := (wordsO (txtO (txV S v)) : Nat) } ∧ S' = S ++ [txtO (txV S v)])

set_option maxRecDepth 20000 in
set_option maxHeartbeats 4000000 in
theorem rShow_in {base H : Nat} {S : List Om} {p : Option Addr} {c : Nat} {ts : List Po} (hR : Rh base w H S p c ts) (hbw : base ≤ w.heap.size) (h : Ask w p S) (v : Vl) (hf : v.fits) {d : Rd} {S' : List Om} (hd : showR S v d S') :
    Calls Tryz.prog 22 #[.pointer (some ⟨H, 0, none⟩), .agg #[.int .u8 v.k, .int .i64 v.n], .bool false] w fun e w' => e = .returned (.agg #[.int .u8 d.v.k, .int .i64 d.v.n, .string d.t, .int .i64 d.n]) ∧ (∃ p' c' ts', Rh base w' H S' p' c' ts') ∧ Below base w w' := by
  have hB := below2' w (.cells #[.int .u8 v.k, .int .i64 v.n] 27) (.cells #[.int .u8 0, .int .i64 0, .string ⟨#[]⟩, .int .i64 0] 38)
  have e0 := (Below.heap_alloc _ (.cells #[.int .u8 0, .int .i64 0, .string ⟨#[]⟩, .int .i64 0] 38) w.heap.size (by simp)).trans (heap_alloc_new w (.cells #[.int .u8 v.k, .int .i64 v.n] 27))
  have e1 := heap_two w (.cells #[.int .u8 v.k, .int .i64 v.n] 27) (.cells #[.int .u8 0, .int .i64 0, .string ⟨#[]⟩, .int .i64 0] 38)
  obtain ⟨x0, x1⟩ := cell_row2 e0
  have HD : Hid _ := hd
  clear hd
  go_enter Tryz.func22, Tryz.ntmps22
  go_wp2_with (first
    | (go_at_call 54; refine halt_here ?_))
  unfold Halted
  have hsz : ((w.alloc (.cells #[.int .u8 v.k, .int .i64 v.n] 27)).alloc (.cells #[.int .u8 0, .int .i64 0, .string ⟨#[]⟩, .int .i64 0] 38)).heap.size = w.heap.size + 1 + 1 := by simp
  generalize hW : (w.alloc (.cells #[.int .u8 v.k, .int .i64 v.n] 27)).alloc (.cells #[.int .u8 0, .int .i64 0, .string ⟨#[]⟩, .int .i64 0] 38) = W at *
  clear hW
  have hnew := heap_alloc_new W (.cells #[.int .u8 v.k, .int .i64 v.n] 27)
  have hBY := below1 W (.cells #[.int .u8 v.k, .int .i64 v.n] 27)
  rw [hsz] at hnew
  clear hsz
  have hB' := hB.trans (hBY.mono hB.size)
  obtain ⟨bf, hbf⟩ := b_of (fineP S [v])
  have HM := Fine_in (h.below hB') c (hR.at_.below hB') (l := [v]) 1 (one_val hnew) (by simp) bf hbf
  refine Calls.mono HM ?_
  clear HM
  rintro e w1 ⟨rfl, hB1⟩
  have hB1' := hBY.trans (hB1.mono hBY.size)
  have hBw := hB.trans (hB1'.mono hB.size)
  have f0 := (hB1'.block _ (Array.getElem?_eq_some_iff.1 e0).1).trans e0
  have f1 := (hB1'.block _ (Array.getElem?_eq_some_iff.1 e1).1).trans e1
  clear x0 x1 e0 e1 hnew hB1 hB1' hBY hB'
  obtain ⟨x0, x1⟩ := cell_row2 f0
  have l0 := (Array.getElem?_eq_some_iff.1 f0).1
  have l1 := (Array.getElem?_eq_some_iff.1 f1).1
  have hR1 := hR.below hBw
  have hbs : base ≤ w1.heap.size := Nat.le_trans hbw hBw.size
  cases bf with
  | false =>
    have hd : d = { t := tKind } ∧ S' = S := by
      rcases HD.out with ⟨-, hh⟩ | ⟨hf, -⟩ | ⟨hf, -⟩
      · exact hh
      · have := hbf.2 hf; cases this
      · have := hbf.2 hf; cases this
    obtain ⟨hd, rfl⟩ := hd
    clear HD hbf
    have H1 := thrown_in tKind w1 hd
    unfold tKind at H1
    clear hd
    go_wp2_with (first
      | (go_at_call 55; (with_reducible refine H1.mono ?_); clear H1; rintro e w2 ⟨rfl, hB2⟩; have hr := (hB2.block _ l1).trans f1; obtain ⟨⟨z0, z1, z2, z3⟩, y0, y1, y2, y3⟩ := cell_row4D hr))
    refine bodyPost_ret (results_cell_row (by rfl) _ _ (w.heap.size + 1) 38 _ _ _ (by rfl) (set4_rowD hr) Tryz.underlying38 (by rfl) infoRd) (by rfl) ?_
    exact ⟨rfl, ⟨p, c, ts, (hR1.below hB2).set4 hr _ _ _ _⟩, below_set4 ((hBw.mono hbw).trans (hB2.mono hbs)) (by omega) _ _ _ _⟩
  | true =>
    have hfi := hbf.1 rfl
    obtain ⟨tx, tb, hx1, hx2⟩ : ∃ (tx : ByteArray) (tb : Bool), ((textB S v).length ≤ 4096 → tx = txV S v ∧ tb = true) ∧ (4096 < (textB S v).length → tx = ⟨#[]⟩ ∧ tb = false) := by
      by_cases hl : (textB S v).length ≤ 4096
      · exact ⟨txV S v, true, fun _ => ⟨rfl, rfl⟩, fun h => by omega⟩
      · exact ⟨⟨#[]⟩, false, fun h => by omega, fun _ => ⟨rfl, rfl⟩⟩
    have hcH := hR1.at_.cell
    have HT := fun (W : World) (hb : Below w.heap.size w W) => rText_in c (h.st.below hb) h.len h.str h.fit h.wide v hf tx tb hx1 hx2
    have FCS : ∀ W', Below w1.heap.size w1 W' → (W'.cell? ⟨w.heap.size, 0, none⟩ = some (.int .u8 v.k) ∧ W'.cell? ⟨w.heap.size, 1, none⟩ = some (.int .i64 v.n)) ∧ W'.cell? ⟨H, 0, none⟩ = some (.slice p S.length c) := fun W' hb => ⟨cell_row2 ((hb.block _ l0).trans f0), (hR1.at_.below hb).cell⟩
    have hD := below_drew (Below.refl w1.heap.size w1)
    have S0 := FCS _ hD
    have SW := FCS _ (Below.refl _ _)
    have HTd := HT w1.drew (hBw.trans (hD.mono hBw.size))
    have HX : Hid _ := And.intro hx1 (And.intro hx2 hfi)
    clear HT hx1 hx2 hfi hbf
    go_wp2_with fail
    go_cut [7, 8] from 15 (fun s7 s8 W2 => s7 = .string tx ∧ s8 = .bool tb ∧ Below w1.heap.size w1 W2)
    case first =>
      go_region_held3 (fun W => (W.cell? ⟨w.heap.size, 0, none⟩ = some (.int .u8 v.k) ∧ W.cell? ⟨w.heap.size, 1, none⟩ = some (.int .i64 v.n)) ∧ W.cell? ⟨H, 0, none⟩ = some (.slice p S.length c)) (first | with_reducible exact S0 | with_reducible exact SW | with_reducible exact S1 | go_keep)
        (first
          | (go_at_call 66; (with_reducible refine HTd.mono ?_); clear HTd; rintro e w2 ⟨rfl, hB2⟩; have hD2 := hD.trans (hB2.mono hD.size); have S1 := FCS _ hD2))
      all_goals
        go_wp2_with fail
        go_meet
        case rel => exact ⟨rfl, rfl, hD2⟩
    case rest =>
      obtain ⟨rfl, rfl, hB2⟩ := hcut
      rename World => w2
      obtain ⟨hx1, hx2, hfi⟩ := HX.out
      have hR2 := hR1.below hB2
      have hBw2 := hBw.trans (hB2.mono hBw.size)
      have g1 := (hB2.block _ l1).trans f1
      have lg1 := (Array.getElem?_eq_some_iff.1 g1).1
      have hbs2 : base ≤ w2.heap.size := Nat.le_trans hbs hB2.size
      clear x0 x1 f0 f1 l0 l1 S0 SW FCS HTd HX
      by_cases hl : (textB S v).length ≤ 4096
      · obtain ⟨rfl, rfl⟩ := hx1 hl
        have hd : d = { v := ⟨3, (S.length : Int) + 1⟩, n := (wordsO (txtO (txV S v)) : Nat) } ∧ S' = S ++ [txtO (txV S v)] := by
          rcases HD.out with ⟨hn, -⟩ | ⟨-, hh, -⟩ | ⟨-, -, hh⟩
          · exact (hn hfi).elim
          · omega
          · exact hh
        obtain ⟨rfl, rfl⟩ := hd
        have H1 := rText_ok hR2 hbs2 h.len (txV S v) (by rw [txV_size]; omega)
        clear HD hx1 hx2 hfi hl
        go_wp2_with (first
          | (go_at_call 25; (with_reducible refine H1.mono ?_); clear H1; rintro e w3 ⟨rfl, hR3, hB3, hfr⟩; have hr := (hfr _ _ lg1 g1).trans g1; obtain ⟨⟨z0, z1, z2, z3⟩, y0, y1, y2, y3⟩ := cell_row4D hr))
        refine bodyPost_ret (results_cell_row (by rfl) _ _ (w.heap.size + 1) 38 _ _ _ (by rfl) (set4_rowD hr) Tryz.underlying38 (by rfl) infoRd) (by rfl) ?_
        obtain ⟨p', c', ts', hR3⟩ := hR3
        exact ⟨rfl, ⟨p', c', ts', hR3.set4 hr _ _ _ _⟩, below_set4 ((hBw2.mono hbw).trans hB3) (by omega) _ _ _ _⟩
      · obtain ⟨rfl, rfl⟩ := hx2 (by omega)
        have hd : d = { t := tGreat } ∧ S' = S := by
          rcases HD.out with ⟨hn, -⟩ | ⟨-, -, hh⟩ | ⟨-, hh, -⟩
          · exact (hn hfi).elim
          · exact hh
          · omega
        obtain ⟨hd, rfl⟩ := hd
        have H1 := thrown_in tGreat w2 hd
        unfold tGreat at H1
        clear HD hx1 hx2 hfi hl hd
        go_wp2_with (first
          | (go_at_call 55; (with_reducible refine H1.mono ?_); clear H1; rintro e w3 ⟨rfl, hB3⟩; have hr := (hB3.block _ lg1).trans g1; obtain ⟨⟨z0, z1, z2, z3⟩, y0, y1, y2, y3⟩ := cell_row4D hr))
        refine bodyPost_ret (results_cell_row (by rfl) _ _ (w.heap.size + 1) 38 _ _ _ (by rfl) (set4_rowD hr) Tryz.underlying38 (by rfl) infoRd) (by rfl) ?_
        exact ⟨rfl, ⟨p, c, ts, (hR2.below hB3).set4 hr _ _ _ _⟩, below_set4 ((hBw2.mono hbw).trans (hB3.mono hbs2)) (by omega) _ _ _ _⟩


end Go.Proofs.YtgokofomoachaaaGreatDoor
