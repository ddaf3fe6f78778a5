/- Functions are made: plain, prim and the document. -/
import Derived.Test.YtgokofomoachaaaGreatDoorPwRef
namespace Go.Proofs.YtgokofomoachaaaGreatDoor
set_option linter.unusedVariables false
set_option linter.unusedSimpArgs false
open Go.RowKit

variable {w : World}

/-- A function as an object. -/
def fnO (f : Int) (l : List Vl) : Om := ⟨6, ⟨#[]⟩, l, 0, f⟩

/-- All are cells that may be. -/
def cellsP (S : List Om) (l : List Vl) : Prop := ∀ v ∈ l, v.k = 7 ∧ checkP S v

theorem cells_iff {S : List Om} {l : List Vl} : cellsP S l ↔ (∀ v ∈ l, valP S v ∧ v.k = 7) ∧ Cl S l := by
  constructor
  · intro h
    refine ⟨fun v hv => ⟨(h v hv).2.1, (h v hv).1⟩, fun x y hx hy => ?_⟩
    obtain ⟨v, hv, hr⟩ := reach_any hx
    exact (h v hv).2.2 x y hr hy
  · rintro ⟨h1, h2⟩ v hv
    exact ⟨(h1 v hv).2, (h1 v hv).1, fun x y hx hy => h2 x y (reach_sub hv hx) hy⟩

theorem obj_fn {S : List Om} {l : List Vl} : objP S (fnO 0 l) ↔ ∀ v ∈ l, valP S v ∧ v.k = 7 := by
  have hform : formP (fnO 0 l) := by
    refine ⟨fun e => by simp [fnO] at e, fun e => by simp [fnO] at e, fun e => by simp [fnO] at e, fun _ => ⟨by simp [fnO], by simp [fnO], rfl, rfl⟩, fun e => by simp [fnO] at e⟩
  unfold objP heldP
  constructor
  · rintro ⟨-, h2, -⟩ v hv
    exact ⟨(h2 v hv).1, (h2 v hv).2.2 rfl⟩
  · intro h
    exact ⟨hform, fun v hv => ⟨(h v hv).1, fun _ => rfl, fun _ => (h v hv).2⟩, fun e => by simp [fnO] at e⟩

theorem hold_fn {S : List Om} {l : List Vl} {n : Nat} (hf : FreeP S (fnO 0 l) n) : checkP (wideS S (fnO 0 l) n) ⟨6, n⟩ ↔ cellsP S l := by
  rw [show (⟨6, n⟩ : Vl) = ⟨(fnO 0 l).k, n⟩ from rfl, check_wide hf (by simp [fnO]) (by simp [fnO]), obj_fn, cells_iff]
  exact Iff.rfl

set_option maxRecDepth 20000 in
set_option maxHeartbeats 2000000 in
theorem Fn_pl {l : List Vl} {q : Option Addr} (cq : Nat) (hv : Vals w q l) (hq : q = none → cq = 0) (hl : l.length ≤ 65536) (h7 : ∀ v ∈ l, v.k = 7) (f : Int) {d : Dd} (hd : d = makesD (fnO f l)) :
    Calls Tryz.prog 76 #[.int .i64 f, .slice q l.length cq] w (DeedV w d) := by
  have hB0 := below1 w (.cells #[.string ⟨#[]⟩, .int .i64 0, .int .u8 0, .int .i64 0, .int .u8 0, .string ⟨#[]⟩, .slice none 0 0, .int .i64 0, .int .i64 0, .int .i64 0, .int .i64 0, .slice none 0 0, .int .i64 0] 100)
  have hb := heap_alloc_new w (.cells #[.string ⟨#[]⟩, .int .i64 0, .int .u8 0, .int .i64 0, .int .u8 0, .string ⟨#[]⟩, .slice none 0 0, .int .i64 0, .int .i64 0, .int .i64 0, .int .i64 0, .slice none 0 0, .int .i64 0] 100)
  have HK := fun (W : World) (hBw : Below w.heap.size w W) => mk_in (w := W) (fnO f l) (q := q) cq (hv.below hBw) hq (by show l.length ≤ 100000; omega) (by show (0 : Nat) ≤ 1048576; omega) (by show (0 : Int) ≤ 1099511627776; omega) (by simp [fnO]) (by simp [fnO])
  simp only [show (fnO f l).k = 6 from rfl, show (fnO f l).s = ⟨#[]⟩ from rfl, show (fnO f l).l = l from rfl, show (fnO f l).room = 0 from rfl, show (fnO f l).fn = f from rfl, show ((6 : Nat) : Int) = 6 from rfl] at HK
  have HD : Hid _ := And.intro hd hv
  have H7 : Hid _ := h7
  clear hd h7
  go_enter Tryz.func76, Tryz.ntmps76
  go_wp2_with fail
  go_loopw [9] (fun k wr => ∃ j : Nat, k = .int .i64 j ∧ j ≤ l.length ∧ Below (w.heap.size + 1) (w.alloc (.cells #[.string ⟨#[]⟩, .int .i64 0, .int .u8 0, .int .i64 0, .int .u8 0, .string ⟨#[]⟩, .slice none 0 0, .int .i64 0, .int .i64 0, .int .i64 0, .int .i64 0, .slice none 0 0, .int .i64 0] 100)) wr) (fun k _ => l.length - (intOf k).toNat)
  case atStart => exact ⟨0, rfl, by omega, Below.refl _ _⟩
  case round =>
    obtain ⟨j, rfl, hj, hBr⟩ := hrel
    have hsz := hBr.size
    have hB : Below w.heap.size w wr := hB0.trans (hBr.mono (by omega))
    have hbr := (hBr.block w.heap.size (by omega)).trans hb
    by_cases hjn : j < l.length
    · have hjn' : (j : Int) < (l.length : Int) := by omega
      obtain ⟨v, hvj⟩ : ∃ v, l[j]? = some v := ⟨l[j], by simp⟩
      obtain ⟨b0, off, rfl, c0, c1⟩ := (hv.below hB) j v hvj
      have h7 : v.k = 7 := H7.out v (List.mem_of_getElem? hvj)
      have hB1 : Below (w.heap.size + 1) (w.alloc (.cells #[.string ⟨#[]⟩, .int .i64 0, .int .u8 0, .int .i64 0, .int .u8 0, .string ⟨#[]⟩, .slice none 0 0, .int .i64 0, .int .i64 0, .int .i64 0, .int .i64 0, .slice none 0 0, .int .i64 0] 100)) (wr.alloc (.cells #[.int .u8 v.k, .int .i64 v.n] 27)) := hBr.alloc (by simpa using hsz) _
      obtain ⟨x0, x1⟩ := cell_row2 (heap_alloc_new wr (.cells #[.int .u8 v.k, .int .i64 v.n] 27))
      obtain ⟨vk, vn⟩ := v
      simp only at h7
      subst h7
      simp only [show ((7 : Nat) : Int) = 7 from rfl] at c0 c1 x0 x1 hB1
      clear HK hvj hB hB0 hBr hb hbr
      go_wp2
      go_roundw
      case rel => exact ⟨j + 1, by simp, by omega, hB1⟩
      case measure => simp [intOf]; omega
    · have hjn' : ¬ ((j : Int) < (l.length : Int)) := by omega
      have HK1 := HK wr hB
      clear HK hv H7
      go_wp2_with (first
        | (go_at_call 180; (with_reducible refine HK1.mono ?_); clear HK1; rintro e w1 ⟨rfl, hB1⟩; have hr := (hB1.block _ (Array.getElem?_eq_some_iff.1 hbr).1).trans hbr; obtain ⟨⟨z0, z1, z2, z3, z4, z5, z6, z7, z8, z9, z10, z11, z12⟩, y0, y1, y2, y3, y4, y5, y6, y7, y8, y9, y10, y11, y12⟩ := cell_row13 hr))
      refine bodyPost_ret (results_cell_row (by rfl) _ _ w.heap.size 100 _ _ _ (by rfl) (set13_row hr) Tryz.underlying100 (by rfl) infoDeed) (by rfl) ?_
      have hBB : Below w.heap.size w w1 := hB.trans (hB1.mono hB.size)
      have hBF := below_set13 hBB (g := w.heap.size) (Nat.le_refl _) (.string ⟨#[]⟩) (.int .i64 (wordsO (fnO f l) : Nat)) (.int .u8 0) (.int .i64 0) (.int .u8 6) (.string ⟨#[]⟩) (.slice q l.length cq) (.int .i64 0) (.int .i64 f) (.int .i64 0) (.int .i64 0) (.slice none 0 0) (.int .i64 0)
      rw [HD.out.1]
      exact ⟨q, cq, none, rfl, HD.out.2.below hBF, (fun j v hj => by simp [makesD] at hj), hBF⟩

theorem mayHoldF_in {p : Option Addr} {S : List Om} (h : Ask w p S) (c : Nat) {l : List Vl} {q : Option Addr} (co : Nat) (hv : Vals w q l) (hq : q = none → co = 0) (hfit : ∀ v ∈ l, v.fits) (hl : l.length ≤ 65536) (hsum : S.length + 1 + sumL S + l.length ≤ 1048576) (b : Bool) (hb : b = true ↔ cellsP S l) :
    Calls Tryz.prog 75 #[.slice p S.length c, .agg #[.int .u8 6, .string ⟨#[]⟩, .slice q l.length co, .int .i64 0, .int .i64 0]] w fun e w' => e = .returned (.bool b) ∧ Below w.heap.size w w' := by
  have H := mayHold_in h c (fnO 0 l) co hv hq ⟨by simp [fnO], hfit, ⟨by simp [fnO], by simp [fnO]⟩, by simp [fnO], by simp [fnO]⟩ (by show l.length ≤ 100000; omega) (by show (0 : Nat) ≤ 1048576; omega) hsum
  refine Calls.mono H ?_
  rintro e w' ⟨n, b', hf, hb', rfl, hB⟩
  have e1 : b' = b := by
    have h1 := hold_fn hf
    have : b' = true ↔ b = true := hb'.trans (h1.trans hb.symm)
    cases b' <;> cases b <;> simp at this <;> rfl
  subst e1
  exact ⟨rfl, hB⟩

/-- What Fn comes to. -/
def FnR (S : List Om) (f : Int) (l : List Vl) (d : Dv) : Prop := (¬ cellsP S l ∧ d = refD S) ∨ (cellsP S l ∧ d = ⟨S ++ [fnO f l], ⟨6, (S.length : Int) + 1⟩, ⟨#[]⟩, (wordsO (fnO f l) : Nat)⟩)

set_option maxRecDepth 20000 in
set_option maxHeartbeats 2000000 in
theorem Fn_in {p : Option Addr} {S : List Om} (h : Ask w p S) (c : Nat) {l : List Vl} {q : Option Addr} (cq : Nat) (hv : Vals w q l) (hq : q = none → cq = 0) (hfit : ∀ v ∈ l, v.fits) (hl : l.length ≤ 65536) (hsum : S.length + 1 + sumL S + l.length ≤ 1048576) (f : Int) (D : Dv) (hD : FnR S f l D) :
    Calls Tryz.prog 32 #[.slice p S.length c, .int .i64 f, .slice q l.length cq] w (DidR w D.S D.v D.t D.n) := by
  have hB := below1 w (.cells #[.slice none 0 0, .int .u8 0, .int .i64 0, .string ⟨#[]⟩, .int .i64 0] 33)
  have hb := heap_alloc_new w (.cells #[.slice none 0 0, .int .u8 0, .int .i64 0, .string ⟨#[]⟩, .int .i64 0] 33)
  obtain ⟨bf, hbf⟩ := b_of (cellsP S l)
  have HM := mayHoldF_in (h.below hB) c cq (hv.below hB) hq hfit hl hsum bf hbf
  have HD : Hid _ := hD
  clear hD
  go_enter Tryz.func32, Tryz.ntmps32
  go_wp2_with (first
    | (go_at_call 75; (with_reducible refine HM.mono ?_); clear HM; rintro e w1 ⟨rfl, hB1⟩; refine halt_here ?_))
  unfold Halted
  have hBw := hB.trans (hB1.mono hB.size)
  have e0 := (hB1.block _ (Array.getElem?_eq_some_iff.1 hb).1).trans hb
  have l0 := (Array.getElem?_eq_some_iff.1 e0).1
  cases bf with
  | false =>
    have hde : D = refD S := by
      rcases HD.out with ⟨-, hh⟩ | ⟨hf, -⟩
      · exact hh
      · have := hbf.2 hf; cases this
    clear HD hbf
    have HT := refused_in (h.below hBw) c hde
    clear hde
    go_wp2_with (first
      | (go_at_call 50; (with_reducible refine HT.mono ?_); clear HT; rintro e w2 ⟨p1, c1, rfl, hts, hB2⟩; have hr := (hB2.block _ l0).trans e0; obtain ⟨⟨z0, z1, z2, z3, z4⟩, s0, s1, s2, s3, s4⟩ := cell_row5 hr))
    refine bodyPost_ret (results_cell_row (by rfl) _ _ w.heap.size 33 _ _ _ (by rfl) (set5_row hr) Tryz.underlying33 (by rfl) infoDid) (by rfl) ?_
    exact did_fin hr (by omega) (hts_mono hts hBw.size) (hBw.trans (hB2.mono hBw.size)) D.v D.t D.n
  | true =>
    have hde : D = ⟨S ++ [fnO f l], ⟨6, (S.length : Int) + 1⟩, ⟨#[]⟩, (wordsO (fnO f l) : Nat)⟩ := by
      rcases HD.out with ⟨hn, -⟩ | ⟨-, hh⟩
      · exact (hn (hbf.1 rfl)).elim
      · exact hh
    have hdone : DoneR S (makesD (fnO f l)) D := by
      rw [hde]
      exact DoneR.new (d := makesD (fnO f l)) (by simp [makesD, fnO]) rfl (by show l.length ≤ 1000000; omega) (by show (0 : Nat) ≤ 1048576; omega)
    have HP1 := Fn_pl (w := w1) cq (hv.below hBw) hq hl (fun v hm => (hbf.1 rfl v hm).1) f (d := makesD (fnO f l)) rfl
    clear HD hbf hde
    have HDN : Hid _ := hdone
    clear hdone
    generalize hgd : makesD (fnO f l) = d at HP1 HDN
    clear hgd
    go_wp2_with (first
      | (go_at_call 76; (with_reducible refine HP1.mono ?_); clear HP1; rintro e w2 ⟨q9, c_, q2, rfl, hv1, hv2, hB2⟩; refine halt_here ?_))
    unfold Halted
    have hBw2 := hBw.trans (hB2.mono hBw.size)
    have HE := did_in (h.below hBw2) c d HDN.out (cq := c_) hv1 hv2
    have f0 := (hB2.block _ l0).trans e0
    clear hv1 hv2
    go_wp2_with (first
      | (go_at_call 51; (with_reducible refine HE.mono ?_); clear HE; rintro e w3 ⟨p1, c1, rfl, hts, hB3⟩; have hr := (hB3.block _ (Array.getElem?_eq_some_iff.1 f0).1).trans f0; obtain ⟨⟨z0, z1, z2, z3, z4⟩, s0, s1, s2, s3, s4⟩ := cell_row5 hr))
    refine bodyPost_ret (results_cell_row (by rfl) _ _ w.heap.size 33 _ _ _ (by rfl) (set5_row hr) Tryz.underlying33 (by rfl) infoDid) (by rfl) ?_
    exact did_fin hr (by omega) (hts_mono hts hBw2.size) (hBw2.trans (hB3.mono hBw2.size)) D.v D.t D.n

end Go.Proofs.YtgokofomoachaaaGreatDoor

namespace Go.Proofs.YtgokofomoachaaaGreatDoor
set_option linter.unusedVariables false
set_option linter.unusedSimpArgs false
open Go.RowKit

variable {w : World}

set_option maxRecDepth 20000 in
set_option maxHeartbeats 4000000 in
theorem rFn_bad {base H : Nat} {S : List Om} {p : Option Addr} {c : Nat} {ts : List Po} (hR : Rh base w H S p c ts) (hbw : base ≤ w.heap.size) (h : Ask w p S) {l : List Vl} {q : Option Addr} (cq : Nat) (hv : Vals w q l) (hl : l.length ≤ 65536) (hf : ¬ cellsP S l) (f : Int) {D : Dv} (hD : D = refD S) :
    Calls Tryz.prog 31 #[.pointer (some ⟨H, 0, none⟩), .int .i64 f, .slice q l.length cq, .bool false] w fun e w' => e = .returned (.agg #[.int .u8 D.v.k, .int .i64 D.v.n, .string D.t, .int .i64 D.n]) ∧ (∃ p' c' ts', Rh base w' H D.S p' c' ts') ∧ Below base w w' := by
  have hB0 := below1 w (.cells #[.int .u8 0, .int .i64 0, .string ⟨#[]⟩, .int .i64 0] 38)
  have hb := heap_alloc_new w (.cells #[.int .u8 0, .int .i64 0, .string ⟨#[]⟩, .int .i64 0] 38)
  have HDq : Hid _ := hD
  have HF0 : Hid _ := hf
  clear hD hf
  go_enter Tryz.func31, Tryz.ntmps31
  go_wp2_with fail
  go_loopw [9] (fun k wr => ∃ j : Nat, k = .int .i64 j ∧ j ≤ l.length ∧ Hid (cellsP S (l.take j)) ∧ Below (w.heap.size + 1) (w.alloc (.cells #[.int .u8 0, .int .i64 0, .string ⟨#[]⟩, .int .i64 0] 38)) wr) (fun k _ => l.length - (intOf k).toNat)
  case atStart => exact ⟨0, rfl, by omega, (fun v hv => by simp at hv), Below.refl _ _⟩
  case round =>
    obtain ⟨j, rfl, hj, HF, hBr⟩ := hrel
    have hsz := hBr.size
    have hsz1 : w.heap.size + 1 ≤ wr.heap.size := by simpa using hsz
    have hB : Below w.heap.size w wr := hB0.trans (hBr.mono (by omega))
    have hbr := (hBr.block w.heap.size (by omega)).trans hb
    by_cases hjn : j < l.length
    · have hjn' : (j : Int) < (l.length : Int) := by omega
      obtain ⟨v, hvj⟩ : ∃ v, l[j]? = some v := ⟨l[j], by simp⟩
      obtain ⟨b0, off, rfl, c0, c1⟩ := (hv.below hB) j v hvj
      have HV : Hid _ := hvj
      clear hvj
      have hmem : v ∈ l := List.mem_of_getElem? HV.out
      have hc := (hR.at_.below hB).cell
      have H1 := fun (W : World) => thrown_in tKind W (d := { t := tKind }) rfl
      unfold tKind at H1
      by_cases h7 : v.k = 7
      · have HB1 : Hid _ := And.intro hB hBr
        obtain ⟨bc, hbc⟩ := b_of (checkP S v)
        have hBd := below_drew hB
        have HC := rCheck_in c (h.st.below hBd) h.small v bc hbc
        have hne7 : ((v.k : Int) == 7) = true := by simp; omega
        have h7i : (v.k : Int) = 7 := by omega
        obtain ⟨vk, vn⟩ := v
        simp only at h7 h7i
        subst h7
        simp only [show ((7 : Nat) : Int) = 7 from rfl] at c0 c1 HC
        have FCS : ∀ W', Below wr.heap.size wr W' → (W'.cell? ⟨b0, off + j * 2, none⟩ = some (.int .u8 7) ∧ W'.cell? ⟨b0, off + j * 2 + 1, none⟩ = some (.int .i64 vn)) ∧ W'.cell? ⟨H, 0, none⟩ = some (.slice p S.length c) := fun W' hb => by
          have l0 := World.block_lt_of_cell? wr _ c0
          have l1 := World.block_lt_of_cell? wr _ hc
          exact ⟨⟨(hb.cell (p := ⟨b0, off + j * 2, none⟩) l0).trans c0, (hb.cell (p := ⟨b0, off + j * 2 + 1, none⟩) l0).trans c1⟩, (hb.cell (p := ⟨H, 0, none⟩) l1).trans hc⟩
        have hD := below_drew (Below.refl wr.heap.size wr)
        have S0 := FCS _ hD
        have SW := FCS _ (Below.refl _ _)
        have HK : Hid _ := hbc
        have HBR : Hid _ := hbr
        clear hbc h7i hne7 hbr
        go_wp2_with fail
        go_region_held3 (fun W => (W.cell? ⟨b0, off + j * 2, none⟩ = some (.int .u8 7) ∧ W.cell? ⟨b0, off + j * 2 + 1, none⟩ = some (.int .i64 vn)) ∧ W.cell? ⟨H, 0, none⟩ = some (.slice p S.length c)) (first | with_reducible exact S0 | with_reducible exact SW | with_reducible exact S1 | go_keep)
          (first
            | (go_at_call 74; (with_reducible refine HC.mono ?_); clear HC; rintro e w1 ⟨rfl, hB1⟩; have hD1 := hD.trans (hB1.mono hD.size); have S1 := FCS _ hD1))
        have hB1' := hB.trans (hD1.mono hB.size)
        have hBr1 := hBr.trans (hD1.mono hsz1)
        have fx := (hD1.block _ (Array.getElem?_eq_some_iff.1 HBR.out).1).trans HBR.out
        have lx := (Array.getElem?_eq_some_iff.1 fx).1
        cases bc with
        | false =>
          clear FCS HF HV HF0
          go_wp2_with (first
            | (go_at_call 55; (with_reducible refine (H1 _).mono ?_); rintro e w2 ⟨rfl, hB2⟩; have hr := (hB2.block _ lx).trans fx; obtain ⟨⟨z0, z1, z2, z3⟩, y0, y1, y2, y3⟩ := cell_row4D hr))
          refine bodyPost_ret (results_cell_row (by rfl) _ _ (w.heap.size) 38 _ _ _ (by rfl) (set4_rowD hr) Tryz.underlying38 (by rfl) infoRd) (by rfl) ?_
          obtain rfl := HDq.out
          have hBx := hB1'.trans (hB2.mono hB1'.size)
          exact ⟨rfl, ⟨p, c, ts, (hR.below hBx).set4 hr _ _ _ _⟩, below_set4 (hBx.mono hbw) (by omega) _ _ _ _⟩
        | true =>
          have HK2 : Hid _ := HK.out.1 rfl
          clear FCS HK fx lx
          go_wp2
          go_roundw
          case rel =>
            refine ⟨j + 1, by simp, by omega, ?_, hBr1⟩
            rw [List.take_add_one, HV.out]
            intro x hx
            simp at hx
            rcases hx with hx | rfl
            · exact HF.out x hx
            · exact ⟨rfl, HK2.out⟩
          case measure => simp [intOf]; omega
      · have h7b : ((v.k : Int) == 7) = false := by simp; omega
        have h7n : ¬ ((v.k : Int) = 7) := by omega
        have HX : Hid _ := And.intro h7 hmem
        clear h7 hmem HF HV HF0
        go_wp2
        go_quiet (fail)
        go_wp2_with (first
          | (go_at_call 55; (with_reducible refine (H1 _).mono ?_); rintro e w2 ⟨rfl, hB2⟩; have hr := (hB2.block w.heap.size (show w.heap.size < wr.heap.size by omega)).trans hbr; obtain ⟨⟨z0, z1, z2, z3⟩, y0, y1, y2, y3⟩ := cell_row4D hr))
        refine bodyPost_ret (results_cell_row (by rfl) _ _ (w.heap.size) 38 _ _ _ (by rfl) (set4_rowD hr) Tryz.underlying38 (by rfl) infoRd) (by rfl) ?_
        obtain rfl := HDq.out
        have hBx := (below_drewN' hB _).trans (hB2.mono hB.size)
        exact ⟨rfl, ⟨p, c, ts, (hR.below hBx).set4 hr _ _ _ _⟩, below_set4 (hBx.mono hbw) (by omega) _ _ _ _⟩
    · have hjn' : ¬ ((j : Int) < (l.length : Int)) := by omega
      exact (HF0.out (by have := HF.out; rw [List.take_of_length_le (by omega)] at this; exact this)).elim

set_option maxRecDepth 20000 in
set_option maxHeartbeats 4000000 in
theorem rFn_ok {base H : Nat} {S : List Om} {p : Option Addr} {c : Nat} {ts : List Po} (hR : Rh base w H S p c ts) (hbw : base ≤ w.heap.size) (h : Ask w p S) {l : List Vl} {q : Option Addr} (cq : Nat) (hv : Vals w q l) (hl : l.length ≤ 65536) (hf : cellsP S l) (f : Int) {D : Dv} (hD : D = ⟨S ++ [fnO f l], ⟨6, (S.length : Int) + 1⟩, ⟨#[]⟩, (wordsO (fnO f l) : Nat)⟩) :
    Calls Tryz.prog 31 #[.pointer (some ⟨H, 0, none⟩), .int .i64 f, .slice q l.length cq, .bool false] w fun e w' => e = .returned (.agg #[.int .u8 D.v.k, .int .i64 D.v.n, .string D.t, .int .i64 D.n]) ∧ (∃ p' c' ts', Rh base w' H D.S p' c' ts') ∧ Below base w w' := by
  have hB0 := below1 w (.cells #[.int .u8 0, .int .i64 0, .string ⟨#[]⟩, .int .i64 0] 38)
  have hb := heap_alloc_new w (.cells #[.int .u8 0, .int .i64 0, .string ⟨#[]⟩, .int .i64 0] 38)
  have HDq : Hid _ := hD
  have HF0 : Hid _ := hf
  clear hD hf
  go_enter Tryz.func31, Tryz.ntmps31
  go_wp2_with fail
  go_loopw [9] (fun k wr => ∃ j : Nat, k = .int .i64 j ∧ j ≤ l.length ∧ Hid (cellsP S (l.take j)) ∧ Below (w.heap.size + 1) (w.alloc (.cells #[.int .u8 0, .int .i64 0, .string ⟨#[]⟩, .int .i64 0] 38)) wr) (fun k _ => l.length - (intOf k).toNat)
  case atStart => exact ⟨0, rfl, by omega, (fun v hv => by simp at hv), Below.refl _ _⟩
  case round =>
    obtain ⟨j, rfl, hj, HF, hBr⟩ := hrel
    have hsz := hBr.size
    have hsz1 : w.heap.size + 1 ≤ wr.heap.size := by simpa using hsz
    have hB : Below w.heap.size w wr := hB0.trans (hBr.mono (by omega))
    have hbr := (hBr.block w.heap.size (by omega)).trans hb
    by_cases hjn : j < l.length
    · have hjn' : (j : Int) < (l.length : Int) := by omega
      obtain ⟨v, hvj⟩ : ∃ v, l[j]? = some v := ⟨l[j], by simp⟩
      obtain ⟨b0, off, rfl, c0, c1⟩ := (hv.below hB) j v hvj
      have HV : Hid _ := hvj
      clear hvj
      have hmem : v ∈ l := List.mem_of_getElem? HV.out
      have hc := (hR.at_.below hB).cell
      have h7 := (HF0.out v hmem).1
      have hck := (HF0.out v hmem).2
      have HKC : Hid _ := hck
      clear hck
      obtain ⟨bc, hbc⟩ := b_of (checkP S v)
      have hBd := below_drew hB
      have HC := rCheck_in c (h.st.below hBd) h.small v bc hbc
      have hne7 : ((v.k : Int) == 7) = true := by simp; omega
      have h7i : (v.k : Int) = 7 := by omega
      obtain ⟨vk, vn⟩ := v
      simp only at h7 h7i
      subst h7
      simp only [show ((7 : Nat) : Int) = 7 from rfl] at c0 c1 HC
      have FCS : ∀ W', Below wr.heap.size wr W' → (W'.cell? ⟨b0, off + j * 2, none⟩ = some (.int .u8 7) ∧ W'.cell? ⟨b0, off + j * 2 + 1, none⟩ = some (.int .i64 vn)) ∧ W'.cell? ⟨H, 0, none⟩ = some (.slice p S.length c) := fun W' hb => by
        have l0 := World.block_lt_of_cell? wr _ c0
        have l1 := World.block_lt_of_cell? wr _ hc
        exact ⟨⟨(hb.cell (p := ⟨b0, off + j * 2, none⟩) l0).trans c0, (hb.cell (p := ⟨b0, off + j * 2 + 1, none⟩) l0).trans c1⟩, (hb.cell (p := ⟨H, 0, none⟩) l1).trans hc⟩
      have hD := below_drew (Below.refl wr.heap.size wr)
      have S0 := FCS _ hD
      have SW := FCS _ (Below.refl _ _)
      have HK : Hid _ := hbc
      have HBR : Hid _ := hbr
      clear hbc h7i hne7 hbr
      go_wp2_with fail
      go_region_held3 (fun W => (W.cell? ⟨b0, off + j * 2, none⟩ = some (.int .u8 7) ∧ W.cell? ⟨b0, off + j * 2 + 1, none⟩ = some (.int .i64 vn)) ∧ W.cell? ⟨H, 0, none⟩ = some (.slice p S.length c)) (first | with_reducible exact S0 | with_reducible exact SW | with_reducible exact S1 | go_keep)
        (first
          | (go_at_call 74; (with_reducible refine HC.mono ?_); clear HC; rintro e w1 ⟨rfl, hB1⟩; have hD1 := hD.trans (hB1.mono hD.size); have S1 := FCS _ hD1))
      have hB1' := hB.trans (hD1.mono hB.size)
      have hBr1 := hBr.trans (hD1.mono hsz1)
      have hbt : bc = true := HK.out.2 HKC.out
      subst hbt
      have HK2 : Hid _ := HKC.out
      clear FCS HK
      go_wp2
      go_roundw
      case rel =>
        refine ⟨j + 1, by simp, by omega, ?_, hBr1⟩
        rw [List.take_add_one, HV.out]
        intro x hx
        simp at hx
        rcases hx with hx | rfl
        · exact HF.out x hx
        · exact ⟨rfl, HK2.out⟩
      case measure => simp [intOf]; omega
    · have hjn' : ¬ ((j : Int) < (l.length : Int)) := by omega
      obtain ⟨v4, w4, hrun, hown, hB4⟩ := app1 (co := cq) (hv.below hB) (by omega)
      obtain ⟨p4, c4, hv4, hpn, -, -⟩ := own_slice hown
      subst hv4
      have hBw4 := hB.trans (hB4.mono hB.size)
      have f4 := (hB4.block _ (Array.getElem?_eq_some_iff.1 hbr).1).trans hbr
      have l4 := (Array.getElem?_eq_some_iff.1 f4).1
      have hvt : VT w4 p4 l := by
        cases p4 with
        | none =>
          have h0 : l = [] := by
            cases l with
            | nil => rfl
            | cons y r => rcases hown.2 with ⟨-, e⟩ | ⟨g, cap, cur, e, -⟩
                          · simp at e
                          · cases e
          subst h0
          exact VT.none _
        | some ad =>
          rcases hown.2 with ⟨e, -⟩ | ⟨g, cap, cur, e, -⟩
          · cases e
          · cases e
            exact vt_of_row hown
      have HMD := rmade_in (hR.below hBw4) (Nat.le_trans hbw hBw4.size) h.len (fnO f l) hpn hvt (Size_fn (fnO f l) rfl (by show l.length ≤ 1000000; omega))
      simp only [show (fnO f l).k = 6 from rfl, show (fnO f l).s = ⟨#[]⟩ from rfl, show (fnO f l).l = l from rfl, show (fnO f l).room = 0 from rfl, show (fnO f l).fn = f from rfl, show ((6 : Nat) : Int) = 6 from rfl] at HMD
      clear hv hown hvt hl HF HF0
      go_wp2_with (first
        | (at_builtin; refine wpList_append_run rfl (.const (.slice none 0 0)) (.tmp 36) 47 rfl _ _ (.slice p4 l.length c4) w4 rfl rfl hrun ?_)
        | (go_at_call 68; (with_reducible refine HMD.mono ?_); clear HMD; rintro e w5 ⟨rfl, hR5, hB5, hfr⟩; have hr := (hfr _ _ l4 f4).trans f4; obtain ⟨⟨z0, z1, z2, z3⟩, y0, y1, y2, y3⟩ := cell_row4D hr))
      refine bodyPost_ret (results_cell_row (by rfl) _ _ (w.heap.size) 38 _ _ _ (by rfl) (set4_rowD hr) Tryz.underlying38 (by rfl) infoRd) (by rfl) ?_
      obtain ⟨p', c', ts', hR5⟩ := hR5
      obtain rfl := HDq.out
      exact ⟨rfl, ⟨p', c', ts', hR5.set4 hr _ _ _ _⟩, below_set4 ((hBw4.mono hbw).trans hB5) (by omega) _ _ _ _⟩

end Go.Proofs.YtgokofomoachaaaGreatDoor
