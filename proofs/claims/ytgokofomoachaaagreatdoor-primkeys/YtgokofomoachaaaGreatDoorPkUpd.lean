/- Values that may be: what Same asks of them. -/
import Derived.Test.YtgokofomoachaaaGreatDoorPkAt
import Derived.Test.YtgokofomoachaaaGreatDoorPnPut2
import Derived.Test.YtgokofomoachaaaGreatDoorPoText
namespace Go.Proofs.YtgokofomoachaaaGreatDoor
set_option linter.unusedVariables false
set_option linter.unusedSimpArgs false
open Go.RowKit

variable {w : World}

theorem sameOk_of {S : List Om} {v : Vl} (h : valP S v) : SameOk S v := ⟨fun h3 => h.2.2 (by omega), h.1⟩

theorem may_same {S : List Om} {l : List Vl} (h : mayL S l) {v : Vl} (hv : v ∈ l) : SameOk S v := sameOk_of (h v hv).1

theorem obj_same {S : List Om} {o : Om} (h : objP S o) : ∀ x ∈ o.l, SameOk S x := fun x hx => sameOk_of (h.2.1 x hx).1

theorem fine_may {S : List Om} {l : List Vl} (h : fineP S l) : mayL S l := fun v hv => (h v hv).2

end Go.Proofs.YtgokofomoachaaaGreatDoor

namespace Go.Proofs.YtgokofomoachaaaGreatDoor
set_option linter.unusedVariables false
set_option linter.unusedSimpArgs false
open Go.RowKit

variable {w : World}

theorem get_ref {S : List Om} {v k : Vl} {D : Dv} (hD : GetR S v k D) (h : ¬ fineP S [v, k]) : D = refD S := by
  rcases hD with ⟨-, e⟩ | ⟨hm, o, r, -, -, e⟩
  · exact e
  · have h7 : v.k = 7 ∨ k.k = 7 := by
      by_cases h1 : v.k = 7
      · exact .inl h1
      · by_cases h2 : k.k = 7
        · exact .inr h2
        · refine (h ?_).elim
          intro x hx
          refine ⟨?_, hm x hx⟩
          simp at hx
          rcases hx with rfl | rfl
          · exact h1
          · exact h2
    rw [e]
    unfold getP
    rw [if_neg (by omega), if_neg (by omega), if_neg (by omega)]

set_option maxRecDepth 20000 in
set_option maxHeartbeats 8000000 in
theorem rGet_in {base H : Nat} {S : List Om} {p : Option Addr} {c : Nat} {ts : List Po} (hR : Rh base w H S p c ts) (hbw : base ≤ w.heap.size) (h : Ask w p S) (v k : Vl) {D : Dv} (hD : GetR S v k D) :
    Calls Tryz.prog 39 #[.pointer (some ⟨H, 0, none⟩), .agg #[.int .u8 v.k, .int .i64 v.n], .agg #[.int .u8 k.k, .int .i64 k.n], .bool false] w fun e w' => e = .returned (.agg #[.int .u8 D.v.k, .int .i64 D.v.n, .string D.t, .int .i64 D.n]) ∧ (∃ p' c' ts', Rh base w' H D.S p' c' ts') ∧ Below base w w' := by
  have hB := below3' w (.cells #[.int .u8 v.k, .int .i64 v.n] 27) (.cells #[.int .u8 k.k, .int .i64 k.n] 27) (.cells #[.int .u8 0, .int .i64 0, .string ⟨#[]⟩, .int .i64 0] 38)
  have e0 := heap3_0 w (.cells #[.int .u8 v.k, .int .i64 v.n] 27) (.cells #[.int .u8 k.k, .int .i64 k.n] 27) (.cells #[.int .u8 0, .int .i64 0, .string ⟨#[]⟩, .int .i64 0] 38)
  have e1 := heap3_1 w (.cells #[.int .u8 v.k, .int .i64 v.n] 27) (.cells #[.int .u8 k.k, .int .i64 k.n] 27) (.cells #[.int .u8 0, .int .i64 0, .string ⟨#[]⟩, .int .i64 0] 38)
  have e2 := heap3_2 w (.cells #[.int .u8 v.k, .int .i64 v.n] 27) (.cells #[.int .u8 k.k, .int .i64 k.n] 27) (.cells #[.int .u8 0, .int .i64 0, .string ⟨#[]⟩, .int .i64 0] 38)
  obtain ⟨x0, x1⟩ := cell_row2 e0
  obtain ⟨u0, u1⟩ := cell_row2 e1
  have HD : Hid _ := hD
  clear hD
  go_enter Tryz.func39, Tryz.ntmps39
  go_wp2_with (first
    | (go_at_call 54; refine halt_here ?_))
  unfold Halted
  have hsz : (((w.alloc (.cells #[.int .u8 v.k, .int .i64 v.n] 27)).alloc (.cells #[.int .u8 k.k, .int .i64 k.n] 27)).alloc (.cells #[.int .u8 0, .int .i64 0, .string ⟨#[]⟩, .int .i64 0] 38)).heap.size = w.heap.size + 1 + 1 + 1 := by simp
  generalize hW : ((w.alloc (.cells #[.int .u8 v.k, .int .i64 v.n] 27)).alloc (.cells #[.int .u8 k.k, .int .i64 k.n] 27)).alloc (.cells #[.int .u8 0, .int .i64 0, .string ⟨#[]⟩, .int .i64 0] 38) = W at *
  clear hW
  have hnew := heap_alloc_new W (.cells #[.int .u8 v.k, .int .i64 v.n, .int .u8 k.k, .int .i64 k.n] 27)
  have hBY := below1 W (.cells #[.int .u8 v.k, .int .i64 v.n, .int .u8 k.k, .int .i64 k.n] 27)
  rw [hsz] at hnew
  clear hsz
  have hB' := hB.trans (hBY.mono hB.size)
  obtain ⟨bf, hbf⟩ := b_of (fineP S [v, k])
  have HM := Fine_in (h.below hB') c (hR.at_.below hB') (l := [v, k]) 2 (one_vals2 hnew) (by simp) bf hbf
  refine Calls.mono HM ?_
  clear HM
  rintro e w1 ⟨rfl, hB1⟩
  have hB1' := hBY.trans (hB1.mono hBY.size)
  have hBw := hB.trans (hB1'.mono hB.size)
  have f0 := (hB1'.block _ (Array.getElem?_eq_some_iff.1 e0).1).trans e0
  have f2 := (hB1'.block _ (Array.getElem?_eq_some_iff.1 e1).1).trans e1
  have f1 := (hB1'.block _ (Array.getElem?_eq_some_iff.1 e2).1).trans e2
  clear x0 x1 u0 u1 e0 e1 e2 hnew hB1 hB1' hBY hB'
  obtain ⟨x0, x1⟩ := cell_row2 f0
  obtain ⟨u0, u1⟩ := cell_row2 f2
  have l0 := (Array.getElem?_eq_some_iff.1 f0).1
  have l2 := (Array.getElem?_eq_some_iff.1 f2).1
  have l1 := (Array.getElem?_eq_some_iff.1 f1).1
  have hR1 := hR.below hBw
  have hbs : base ≤ w1.heap.size := Nat.le_trans hbw hBw.size
  cases bf with
  | false =>
    have hd : D = refD S := get_ref HD.out (fun hf => by have := hbf.2 hf; cases this)
    subst hd
    clear HD hbf
    have H1 := thrown_in tKind w1 (d := { t := tKind }) rfl
    unfold tKind at H1
    go_wp2_with (first
      | (go_at_call 55; (with_reducible refine H1.mono ?_); clear H1; rintro e w9 ⟨rfl, hB9⟩; have hr := (hB9.block _ (Array.getElem?_eq_some_iff.1 f1).1).trans f1; obtain ⟨⟨z0, z1, z2, z3⟩, y0, y1, y2, y3⟩ := cell_row4D hr))
    refine bodyPost_ret (results_cell_row (by rfl) _ _ (w.heap.size + 1 + 1) 38 _ _ _ (by rfl) (set4_rowD hr) Tryz.underlying38 (by rfl) infoRd) (by rfl) ?_
    exact ⟨rfl, ⟨p, c, ts, (hR1.below hB9).set4 hr _ _ _ _⟩, below_set4 ((hBw.mono hbw).trans (hB9.mono hbs)) (by omega) _ _ _ _⟩

  | true =>
    have hf := hbf.1 rfl
    have hm := fine_may hf
    obtain ⟨o, r, hlo, hka, hD⟩ : ∃ o r, (3 ≤ v.k → leadO S v = some o) ∧ (v.k = 5 → KeyAt S o.l k r) ∧ D = getP S v k o r := by
      rcases HD.out with ⟨hn, -⟩ | ⟨-, o, r, q1, q2, q3⟩
      · exact (hn hm).elim
      · exact ⟨o, r, q1, q2, q3⟩
    have hk7 : k.k ≠ 7 := (hf k (by simp)).1
    clear HD hbf
    by_cases h5 : v.k = 5
    · have ho := hlo (by omega)
      have hkk := hka h5
      obtain ⟨o', ho', hobj⟩ := may_obj hm (v := v) (by simp) (by omega)
      rw [ho] at ho'; cases ho'
      have hev : o.l.length % 2 = 0 := by have := hobj.1.2.2.1 ((leadO_some ho).2.2.1.trans h5 |> fun e => e); omega
      have hlen := h.vals o (leadO_mem ho)
      have hsk := may_same hm (v := k) (by simp)
      have hss := obj_same hobj
      have e5 : getP S v k o r = ⟨S, mval o.l r, ⟨#[]⟩, 0⟩ := by unfold getP; rw [if_pos ⟨h5, hk7⟩]
      rw [e5] at hD
      have HDq : Hid _ := hD
      clear hD
      obtain ⟨vk, vn⟩ := v
      simp only at h5
      subst h5
      have HO := robj_in (h.below hBw) c hR1.at_ ⟨5, vn⟩ ho
      simp only [show ((5 : Nat) : Int) = 5 from rfl] at x0 x1 HO
      have HF := fldO2
      clear hf hm hlo hka hobj ho e5
      go_wp2_with (first
        | (go_at_call 59; (with_reducible refine HO.mono ?_); clear HO; rintro e w3 ⟨qo, co, rfl, hvo, -, hB3⟩; refine halt_here ?_))
      unfold Halted
      have hBw3 := hBw.trans (hB3.mono hBw.size)
      have f3 := (hB3.block _ l1).trans f1
      obtain ⟨v0, v1⟩ := cell_row2 ((hB3.block _ l2).trans f2)
      have HA := rAt_in (h.below hBw3) c (hR1.at_.below hB3) co (hvo.below hB3) (by omega) hss k hsk r hkk
      go_wp2_with (first
        | (go_at_call 69; (with_reducible refine HA.mono ?_); clear HA; rintro e w4 ⟨rfl, hB4⟩; refine halt_here ?_))
      unfold Halted
      have hBw4 := hBw3.trans (hB4.mono hBw3.size)
      have f4 := (hB4.block _ (Array.getElem?_eq_some_iff.1 f3).1).trans f3
      have hR4 := (hR1.below hB3).below hB4
      cases r with
      | none =>
        have hq : atI none = -1 := rfl
        rw [hq]
        have hD : D = ⟨S, ⟨0, 0⟩, ⟨#[]⟩, 0⟩ := HDq.out
        clear HDq
        subst hD
        clear hkk
        obtain ⟨⟨z0, z1, z2, z3⟩, y0, y1, y2, y3⟩ := cell_row4D f4
        go_wp2
        have hr := f4
        refine bodyPost_ret (results_cell_row (by rfl) _ _ (w.heap.size + 1 + 1) 38 _ _ _ (by rfl) (set4_rowD hr) Tryz.underlying38 (by rfl) infoRd) (by rfl) ?_
        exact ⟨rfl, ⟨p, c, ts, hR4.set4 hr _ _ _ _⟩, below_set4 (hBw4.mono hbw) (by omega) _ _ _ _⟩

      | some i =>
        obtain ⟨hi2, ⟨y, hy, -⟩, -⟩ := hkk
        have hil := (List.getElem?_eq_some_iff.1 hy).1
        have hi1 : i + 1 < o.l.length := by omega
        obtain ⟨x, hx⟩ : ∃ x, o.l[i + 1]? = some x := ⟨o.l[i + 1], by simp⟩
        have hmv : mval o.l (some i) = x := by show o.l.getD (i + 1) ⟨0, 0⟩ = x; rw [List.getD_eq_getElem?_getD, hx]; rfl
        have hD := HDq.out
        rw [hmv] at hD
        clear HDq
        subst hD
        obtain ⟨b0, off, rfl, c0, c1⟩ := ((hvo.below hB3).below hB4) (i + 1) x hx
        have hq : atI (some i) = (i : Int) := rfl
        rw [hq]
        clear hy hmv hi2
        obtain ⟨⟨z0, z1, z2, z3⟩, y0, y1, y2, y3⟩ := cell_row4D f4
        go_wp2
        have hr := f4
        refine bodyPost_ret (results_cell_row (by rfl) _ _ (w.heap.size + 1 + 1) 38 _ _ _ (by rfl) (set4_rowD hr) Tryz.underlying38 (by rfl) infoRd) (by rfl) ?_
        exact ⟨rfl, ⟨p, c, ts, hR4.set4 hr _ _ _ _⟩, below_set4 (hBw4.mono hbw) (by omega) _ _ _ _⟩

    · have h5n : ¬ ((v.k : Int) = 5) := by omega
      have h5b : ((v.k : Int) == 5) = false := by simp; omega
      by_cases h34 : v.k = 4 ∨ v.k = 3
      · by_cases hk2 : k.k = 2
        · have ho := hlo (by omega)
          obtain ⟨o', ho', hobj⟩ := may_obj hm (v := v) (by simp) (by omega)
          rw [ho] at ho'; cases ho'
          have hlen := h.vals o (leadO_mem ho)
          have hslen := h.str o (leadO_mem ho)
          obtain ⟨vk, vn⟩ := v
          obtain ⟨kk, kn⟩ := k
          simp only at h34 hk2
          subst hk2
          simp only [show ((2 : Nat) : Int) = 2 from rfl] at u0 u1
          have hok : o.k = vk := (leadO_some ho).2.2.1
          rcases h34 with rfl | rfl
          · have hs0 : o.s = ⟨#[]⟩ := (hobj.1.2.1 hok).2.2.1
            have HO := robj_in (h.below hBw) c hR1.at_ ⟨4, vn⟩ ho
            rw [hs0] at HO
            simp only [show ((4 : Nat) : Int) = 4 from rfl] at x0 x1 HO
            have e4 : getP S ⟨4, vn⟩ ⟨2, kn⟩ o r = (if kn < 0 ∨ (o.l.length : Int) ≤ kn then ⟨S, ⟨0, 0⟩, tBounds, 0⟩ else ⟨S, o.l.getD kn.toNat ⟨0, 0⟩, ⟨#[]⟩, 0⟩) := rfl
            rw [e4] at hD
            have HDq : Hid _ := hD
            clear hD e4 hf hm hlo hka hobj ho hok hs0 h5n h5b
            go_wp2_with (first
              | (go_at_call 59; (with_reducible refine HO.mono ?_); clear HO; rintro e w3 ⟨qo, co, rfl, hvo, -, hB3⟩; refine halt_here ?_))
            unfold Halted
            have hBw3 := hBw.trans (hB3.mono hBw.size)
            have f3 := (hB3.block _ l1).trans f1
            have hR3 := hR1.below hB3
            have hvo3 := hvo.below hB3
            have n0 := (hB3.block _ l2).trans f2
            have m0 := (hB3.block _ l0).trans f0
            have hA5 := below1 w3 (.cells #[.int .u8 o.k, .string ⟨#[]⟩, .slice qo o.l.length co, .int .i64 o.room, .int .i64 o.fn] 96)
            have f5 := (hA5.block _ (Array.getElem?_eq_some_iff.1 f3).1).trans f3
            have hR5 := hR3.below hA5
            have hBw5 := hBw3.trans (hA5.mono hBw3.size)
            obtain ⟨⟨p0, p1, p2, p3, p4⟩, -⟩ := cell_row5 (heap_alloc_new w3 (.cells #[.int .u8 o.k, .string ⟨#[]⟩, .slice qo o.l.length co, .int .i64 o.room, .int .i64 o.fn] 96))
            obtain ⟨v0, v1⟩ := cell_row2 ((hA5.block _ (Array.getElem?_eq_some_iff.1 n0).1).trans n0)
            obtain ⟨v2, v3⟩ := cell_row2 ((hA5.block _ (Array.getElem?_eq_some_iff.1 m0).1).trans m0)
            have hvo5 := hvo3.below hA5
            have hbs5 : base ≤ (w3.alloc (.cells #[.int .u8 o.k, .string ⟨#[]⟩, .slice qo o.l.length co, .int .i64 o.room, .int .i64 o.fn] 96)).heap.size := Nat.le_trans hbw hBw5.size
            clear x0 x1 u0 u1 f0 f1 f2 n0 m0 f3 hvo hvo3 hR3 hA5 hB3
            by_cases hq : kn < 0
            · have hd : D = ⟨S, ⟨0, 0⟩, tBounds, 0⟩ := by rw [HDq.out, if_pos (.inl hq)]
              subst hd
              clear HDq
              have H1 := thrown_in tBounds (w3.alloc (.cells #[.int .u8 o.k, .string ⟨#[]⟩, .slice qo o.l.length co, .int .i64 o.room, .int .i64 o.fn] 96)) (d := { t := tBounds }) rfl
              unfold tBounds at H1
              go_wp2_with (first
                | (go_at_call 55; (with_reducible refine H1.mono ?_); clear H1; rintro e w9 ⟨rfl, hB9⟩; have hr := (hB9.block _ (Array.getElem?_eq_some_iff.1 f5).1).trans f5; obtain ⟨⟨z0, z1, z2, z3⟩, y0, y1, y2, y3⟩ := cell_row4D hr))
              refine bodyPost_ret (results_cell_row (by rfl) _ _ (w.heap.size + 1 + 1) 38 _ _ _ (by rfl) (set4_rowD hr) Tryz.underlying38 (by rfl) infoRd) (by rfl) ?_
              exact ⟨rfl, ⟨p, c, ts, (hR5.below hB9).set4 hr _ _ _ _⟩, below_set4 ((hBw5.mono hbw).trans (hB9.mono hbs5)) (by omega) _ _ _ _⟩
            · by_cases hq2 : (o.l.length : Int) ≤ kn
              · have hd : D = ⟨S, ⟨0, 0⟩, tBounds, 0⟩ := by rw [HDq.out, if_pos (.inr hq2)]
                subst hd
                clear HDq
                have H1 := thrown_in tBounds (w3.alloc (.cells #[.int .u8 o.k, .string ⟨#[]⟩, .slice qo o.l.length co, .int .i64 o.room, .int .i64 o.fn] 96)) (d := { t := tBounds }) rfl
                unfold tBounds at H1
                go_wp2_with (first
                  | (go_at_call 55; (with_reducible refine H1.mono ?_); clear H1; rintro e w9 ⟨rfl, hB9⟩; have hr := (hB9.block _ (Array.getElem?_eq_some_iff.1 f5).1).trans f5; obtain ⟨⟨z0, z1, z2, z3⟩, y0, y1, y2, y3⟩ := cell_row4D hr))
                refine bodyPost_ret (results_cell_row (by rfl) _ _ (w.heap.size + 1 + 1) 38 _ _ _ (by rfl) (set4_rowD hr) Tryz.underlying38 (by rfl) infoRd) (by rfl) ?_
                exact ⟨rfl, ⟨p, c, ts, (hR5.below hB9).set4 hr _ _ _ _⟩, below_set4 ((hBw5.mono hbw).trans (hB9.mono hbs5)) (by omega) _ _ _ _⟩
              · obtain ⟨j, rfl⟩ : ∃ j : Nat, kn = (j : Int) := ⟨kn.toNat, by omega⟩
                have hjl : j < o.l.length := by omega
                have hd := HDq.out
                rw [if_neg (by omega), Int.toNat_natCast] at hd
                clear HDq
                obtain ⟨x, hx⟩ : ∃ x, o.l[j]? = some x := ⟨o.l[j], by simp⟩
                rw [List.getD_eq_getElem?_getD, hx] at hd
                simp only [Option.getD_some] at hd
                subst hd
                obtain ⟨b0, off, rfl, c0, c1⟩ := hvo5 j x hx
                clear hvo5 hx
                obtain ⟨⟨z0, z1, z2, z3⟩, y0, y1, y2, y3⟩ := cell_row4D f5
                go_wp2
                have hr := f5
                refine bodyPost_ret (results_cell_row (by rfl) _ _ (w.heap.size + 1 + 1) 38 _ _ _ (by rfl) (set4_rowD hr) Tryz.underlying38 (by rfl) infoRd) (by rfl) ?_
                exact ⟨rfl, ⟨p, c, ts, hR5.set4 hr _ _ _ _⟩, below_set4 (hBw5.mono hbw) (by omega) _ _ _ _⟩
          · have hs0 : o.l.length = 0 := by have := (hobj.1.1 hok).2.1; omega
            have HO := robj_in (h.below hBw) c hR1.at_ ⟨3, vn⟩ ho
            rw [hs0] at HO
            simp only [show ((3 : Nat) : Int) = 3 from rfl] at x0 x1 HO
            have e4 : getP S ⟨3, vn⟩ ⟨2, kn⟩ o r = (if kn < 0 ∨ (o.s.size : Int) ≤ kn then ⟨S, ⟨0, 0⟩, tBounds, 0⟩ else ⟨S ++ [txtO (o.s.extract kn.toNat (kn.toNat + 1))], ⟨3, (S.length : Int) + 1⟩, ⟨#[]⟩, (wordsO (txtO (o.s.extract kn.toNat (kn.toNat + 1))) : Nat)⟩) := rfl
            rw [e4] at hD
            have HDq : Hid _ := hD
            clear hD e4 hf hm hlo hka hobj ho hok hs0 h5n h5b
            go_wp2_with (first
              | (go_at_call 59; (with_reducible refine HO.mono ?_); clear HO; rintro e w3 ⟨qo, co, rfl, hvo, -, hB3⟩; refine halt_here ?_))
            unfold Halted
            have hBw3 := hBw.trans (hB3.mono hBw.size)
            have f3 := (hB3.block _ l1).trans f1
            have hR3 := hR1.below hB3
            have hvo3 := hvo.below hB3
            have n0 := (hB3.block _ l2).trans f2
            have m0 := (hB3.block _ l0).trans f0
            have hA5 := below1 w3 (.cells #[.int .u8 o.k, .string o.s, .slice qo 0 co, .int .i64 o.room, .int .i64 o.fn] 96)
            have f5 := (hA5.block _ (Array.getElem?_eq_some_iff.1 f3).1).trans f3
            have hR5 := hR3.below hA5
            have hBw5 := hBw3.trans (hA5.mono hBw3.size)
            obtain ⟨⟨p0, p1, p2, p3, p4⟩, -⟩ := cell_row5 (heap_alloc_new w3 (.cells #[.int .u8 o.k, .string o.s, .slice qo 0 co, .int .i64 o.room, .int .i64 o.fn] 96))
            obtain ⟨v0, v1⟩ := cell_row2 ((hA5.block _ (Array.getElem?_eq_some_iff.1 n0).1).trans n0)
            obtain ⟨v2, v3⟩ := cell_row2 ((hA5.block _ (Array.getElem?_eq_some_iff.1 m0).1).trans m0)
            have hvo5 := hvo3.below hA5
            have hbs5 : base ≤ (w3.alloc (.cells #[.int .u8 o.k, .string o.s, .slice qo 0 co, .int .i64 o.room, .int .i64 o.fn] 96)).heap.size := Nat.le_trans hbw hBw5.size
            clear x0 x1 u0 u1 f0 f1 f2 n0 m0 f3 hvo hvo3 hR3 hA5 hB3
            by_cases hq : kn < 0
            · have hd : D = ⟨S, ⟨0, 0⟩, tBounds, 0⟩ := by rw [HDq.out, if_pos (.inl hq)]
              subst hd
              clear HDq
              have H1 := thrown_in tBounds (w3.alloc (.cells #[.int .u8 o.k, .string o.s, .slice qo 0 co, .int .i64 o.room, .int .i64 o.fn] 96)) (d := { t := tBounds }) rfl
              unfold tBounds at H1
              go_wp2_with (first
                | (go_at_call 55; (with_reducible refine H1.mono ?_); clear H1; rintro e w9 ⟨rfl, hB9⟩; have hr := (hB9.block _ (Array.getElem?_eq_some_iff.1 f5).1).trans f5; obtain ⟨⟨z0, z1, z2, z3⟩, y0, y1, y2, y3⟩ := cell_row4D hr))
              refine bodyPost_ret (results_cell_row (by rfl) _ _ (w.heap.size + 1 + 1) 38 _ _ _ (by rfl) (set4_rowD hr) Tryz.underlying38 (by rfl) infoRd) (by rfl) ?_
              exact ⟨rfl, ⟨p, c, ts, (hR5.below hB9).set4 hr _ _ _ _⟩, below_set4 ((hBw5.mono hbw).trans (hB9.mono hbs5)) (by omega) _ _ _ _⟩
            · by_cases hq2 : (o.s.size : Int) ≤ kn
              · have hd : D = ⟨S, ⟨0, 0⟩, tBounds, 0⟩ := by rw [HDq.out, if_pos (.inr hq2)]
                subst hd
                clear HDq
                have H1 := thrown_in tBounds (w3.alloc (.cells #[.int .u8 o.k, .string o.s, .slice qo 0 co, .int .i64 o.room, .int .i64 o.fn] 96)) (d := { t := tBounds }) rfl
                unfold tBounds at H1
                go_wp2_with (first
                  | (go_at_call 55; (with_reducible refine H1.mono ?_); clear H1; rintro e w9 ⟨rfl, hB9⟩; have hr := (hB9.block _ (Array.getElem?_eq_some_iff.1 f5).1).trans f5; obtain ⟨⟨z0, z1, z2, z3⟩, y0, y1, y2, y3⟩ := cell_row4D hr))
                refine bodyPost_ret (results_cell_row (by rfl) _ _ (w.heap.size + 1 + 1) 38 _ _ _ (by rfl) (set4_rowD hr) Tryz.underlying38 (by rfl) infoRd) (by rfl) ?_
                exact ⟨rfl, ⟨p, c, ts, (hR5.below hB9).set4 hr _ _ _ _⟩, below_set4 ((hBw5.mono hbw).trans (hB9.mono hbs5)) (by omega) _ _ _ _⟩
              · obtain ⟨j, rfl⟩ : ∃ j : Nat, kn = (j : Int) := ⟨kn.toNat, by omega⟩
                have hjl : j < o.s.size := by omega
                have hd := HDq.out
                rw [if_neg (by omega), Int.toNat_natCast] at hd
                clear HDq
                subst hd
                have hsz : (o.s.extract j (j + 1)).size = 1 := by rw [ByteArray.size_extract]; omega
                have hj' : (j : Int) < (o.s.size : Int) := by omega
                have hj2 : (j : Int) + 1 ≤ (o.s.size : Int) := by omega
                have H1 := rText_ok hR5 hbs5 h.len (o.s.extract j (j + 1)) (by omega)
                have l5 := (Array.getElem?_eq_some_iff.1 f5).1
                clear hvo5 hsz
                go_wp2_with (first
                  | (go_at_call 25; (with_reducible refine H1.mono ?_); clear H1; rintro e w6 ⟨rfl, hR6, hB6, hfr⟩; have hr := (hfr _ _ l5 f5).trans f5; obtain ⟨⟨z0, z1, z2, z3⟩, y0, y1, y2, y3⟩ := cell_row4D hr))
                refine bodyPost_ret (results_cell_row (by rfl) _ _ (w.heap.size + 1 + 1) 38 _ _ _ (by rfl) (set4_rowD hr) Tryz.underlying38 (by rfl) infoRd) (by rfl) ?_
                obtain ⟨p', c', ts', hR6⟩ := hR6
                exact ⟨rfl, ⟨p', c', ts', hR6.set4 hr _ _ _ _⟩, below_set4 ((hBw5.mono hbw).trans hB6) (by omega) _ _ _ _⟩
        · rcases h34 with h4 | h4
          · have hd : D = refD S := by rw [hD]; unfold getP; rw [if_neg (by omega), if_neg (by omega), if_neg (by omega)]
            subst hd
            obtain ⟨vk, vn⟩ := v
            simp only at h4
            subst h4
            simp only [show ((4 : Nat) : Int) = 4 from rfl] at x0 x1
            have hk2n : ¬ ((k.k : Int) = 2) := by omega
            have hk2b : ((k.k : Int) == 2) = false := by simp; omega
            clear hf hm hlo hka h5n h5b hD
            have H1 := thrown_in tKind w1 (d := { t := tKind }) rfl
            unfold tKind at H1
            go_wp2_with (first
              | (go_at_call 55; (with_reducible refine H1.mono ?_); clear H1; rintro e w9 ⟨rfl, hB9⟩; have hr := (hB9.block _ (Array.getElem?_eq_some_iff.1 f1).1).trans f1; obtain ⟨⟨z0, z1, z2, z3⟩, y0, y1, y2, y3⟩ := cell_row4D hr))
            refine bodyPost_ret (results_cell_row (by rfl) _ _ (w.heap.size + 1 + 1) 38 _ _ _ (by rfl) (set4_rowD hr) Tryz.underlying38 (by rfl) infoRd) (by rfl) ?_
            exact ⟨rfl, ⟨p, c, ts, (hR1.below hB9).set4 hr _ _ _ _⟩, below_set4 ((hBw.mono hbw).trans (hB9.mono hbs)) (by omega) _ _ _ _⟩
          · have hd : D = refD S := by rw [hD]; unfold getP; rw [if_neg (by omega), if_neg (by omega), if_neg (by omega)]
            subst hd
            obtain ⟨vk, vn⟩ := v
            simp only at h4
            subst h4
            simp only [show ((3 : Nat) : Int) = 3 from rfl] at x0 x1
            have hk2n : ¬ ((k.k : Int) = 2) := by omega
            have hk2b : ((k.k : Int) == 2) = false := by simp; omega
            clear hf hm hlo hka h5n h5b hD
            have H1 := thrown_in tKind w1 (d := { t := tKind }) rfl
            unfold tKind at H1
            go_wp2_with (first
              | (go_at_call 55; (with_reducible refine H1.mono ?_); clear H1; rintro e w9 ⟨rfl, hB9⟩; have hr := (hB9.block _ (Array.getElem?_eq_some_iff.1 f1).1).trans f1; obtain ⟨⟨z0, z1, z2, z3⟩, y0, y1, y2, y3⟩ := cell_row4D hr))
            refine bodyPost_ret (results_cell_row (by rfl) _ _ (w.heap.size + 1 + 1) 38 _ _ _ (by rfl) (set4_rowD hr) Tryz.underlying38 (by rfl) infoRd) (by rfl) ?_
            exact ⟨rfl, ⟨p, c, ts, (hR1.below hB9).set4 hr _ _ _ _⟩, below_set4 ((hBw.mono hbw).trans (hB9.mono hbs)) (by omega) _ _ _ _⟩
      · have hd : D = refD S := by rw [hD]; unfold getP; rw [if_neg (by omega), if_neg (by omega), if_neg (by omega)]
        subst hd
        have h3n : ¬ ((v.k : Int) = 3) := by omega
        have h3b : ((v.k : Int) == 3) = false := by simp; omega
        have h4n : ¬ ((v.k : Int) = 4) := by omega
        have h4b : ((v.k : Int) == 4) = false := by simp; omega
        clear hf hm hlo hka hD
        have H1 := thrown_in tKind w1 (d := { t := tKind }) rfl
        unfold tKind at H1
        go_wp2_with (first
          | (go_at_call 55; (with_reducible refine H1.mono ?_); clear H1; rintro e w9 ⟨rfl, hB9⟩; have hr := (hB9.block _ (Array.getElem?_eq_some_iff.1 f1).1).trans f1; obtain ⟨⟨z0, z1, z2, z3⟩, y0, y1, y2, y3⟩ := cell_row4D hr))
        refine bodyPost_ret (results_cell_row (by rfl) _ _ (w.heap.size + 1 + 1) 38 _ _ _ (by rfl) (set4_rowD hr) Tryz.underlying38 (by rfl) infoRd) (by rfl) ?_
        exact ⟨rfl, ⟨p, c, ts, (hR1.below hB9).set4 hr _ _ _ _⟩, below_set4 ((hBw.mono hbw).trans (hB9.mono hbs)) (by omega) _ _ _ _⟩

end Go.Proofs.YtgokofomoachaaaGreatDoor

namespace Go.Proofs.YtgokofomoachaaaGreatDoor
set_option linter.unusedVariables false
set_option linter.unusedSimpArgs false
open Go.RowKit

variable {w : World}

theorem pcells_set {d : Nat} (hd : d < 5) (u : Value) : ∀ (ts : List Po) (i : Nat) (x y : Po), ts[i]? = some x → pcell y = (pcell x).set d u → (pcells ts).set (i * 5 + d) u = pcells (ts.set i y)
  | [], i, x, y, h, _ => by simp at h
  | z :: r, 0, x, y, h, e => by
    simp at h; subst h
    simp only [pcells, List.set_cons_zero, e]
    rw [List.set_append_left _ _ (by simp [pcell]; omega)]
    congr 2; omega
  | z :: r, i + 1, x, y, h, e => by
    have ih := pcells_set hd u r i x y (by simpa using h) e
    simp only [pcells, List.set_cons_succ]
    rw [List.set_append_right _ _ (by simp [pcell]; omega), ← ih]
    congr 2
    simp [pcell]; omega

theorem Rh.len {base H : Nat} {S : List Om} {p : Option Addr} {c : Nat} {ts : List Po} (h : Rh base w H S p c ts) : ts.length = S.length := by rw [← h.mp]; simp

theorem Rh.at_i {base H : Nat} {S : List Om} {p : Option Addr} {c : Nat} {ts : List Po} (h : Rh base w H S p c ts) {i : Nat} {o : Om} (ho : S[i]? = some o) : ∃ x g, ts[i]? = some x ∧ x.o = o ∧ p = some ⟨g, 0, none⟩ ∧ g < w.heap.size ∧ base ≤ g ∧ (∀ k, w.frozen? ⟨g, k, none⟩ = false) ∧ w.cell? ⟨g, i * 5 + 2, none⟩ = some x.lv ∧ w.cell? ⟨g, i * 5 + 3, none⟩ = some (.int .i64 o.room) ∧ ∃ cur, w.heap[g]? = some (.cells cur 96 (0, 0)) := by
  have hl := h.len
  have hi := (List.getElem?_eq_some_iff.1 ho).1
  rw [← h.mp, List.getElem?_map] at ho
  cases hx : ts[i]? with
  | none => rw [hx] at ho; simp at ho
  | some x =>
    rw [hx] at ho; simp at ho
    obtain ⟨p', c', hv, -, hg, -⟩ := own_slice h.row
    cases hv
    obtain ⟨g, rfl⟩ := hg (by omega)
    obtain ⟨cur, hc⟩ := row_obj h.row (k := g) rfl
    have hgt := pcells_get ts i x hx
    refine ⟨x, g, rfl, ho, rfl, (h.row.lt g rfl).2, (h.row.lt g rfl).1, fun k => frozen_of_row w g k _ _ hc, ?_, ?_, cur, hc⟩
    · rw [h.row.cellAt _ (by omega), hgt 2 (by omega)]; rfl
    · rw [h.row.cellAt _ (by omega), hgt 3 (by omega), ← ho]; rfl

theorem Rh.set {base H g : Nat} {S : List Om} {c : Nat} {ts : List Po} (h : Rh base w H S (some ⟨g, 0, none⟩) c ts) {i d : Nat} (hd : d < 5) {x y : Po} (hx : ts[i]? = some x) (u : Value) (he : pcell y = (pcell x).set d u) (hy : ∃ q cq, y.lv = .slice q y.o.l.length cq ∧ (q = none → cq = 0) ∧ VT w q y.o.l) :
    Rh base (w.setCell ⟨g, i * 5 + d, none⟩ u) H (S.set i y.o) (some ⟨g, 0, none⟩) c (ts.set i y) := by
  have hl := h.len
  obtain ⟨cur, hc⟩ := row_obj h.row (k := g) rfl
  have hso : ∀ k, k ≠ g → (w.setCell ⟨g, i * 5 + d, none⟩ u).heap[k]? = w.heap[k]? := fun k hk => heap_setCell_other w ⟨g, i * 5 + d, none⟩ k u hk
  have hvt : ∀ {q : Option Addr} {l : List Vl}, VT w q l → VT (w.setCell ⟨g, i * 5 + d, none⟩ u) q l := fun {q l} hv => by
    have hb : ∀ ad, q = some ad → (w.setCell ⟨g, i * 5 + d, none⟩ u).heap[ad.block]? = w.heap[ad.block]? := fun ad ea => by
      obtain ⟨cs, hcs⟩ := hv.2 ad ea
      refine hso _ (fun e => ?_)
      rw [e, hc] at hcs
      cases hcs
    exact ⟨hv.1.kept_at hb, fun ad ea => by rw [hb ad ea]; exact hv.2 ad ea⟩
  refine ⟨?_, h.low, ?_, ?_, ?_⟩
  · have hH : H ≠ g := fun e => by
      have := h.at_
      unfold RhAt at this
      rw [e, hc] at this
      cases this
    unfold RhAt
    rw [List.length_set]
    exact (hso H hH).trans h.at_
  · rw [List.map_set, h.mp]
  · have hst := (h.row.stored (i * 5 + d) u).1
    rw [pcells_set hd u ts i x y hx he] at hst
    rw [List.length_set]
    exact hst
  · intro z hz
    rcases List.mem_or_eq_of_mem_set hz with hz | rfl
    · obtain ⟨q, cq, e1, e2, e3⟩ := h.lst z hz
      exact ⟨q, cq, e1, e2, hvt e3⟩
    · obtain ⟨q, cq, e1, e2, e3⟩ := hy
      exact ⟨q, cq, e1, e2, hvt e3⟩

/-- The room that is wanted, and its words. -/
def grownP (o : Om) (n least : Int) : Int × Int := if o.room < n then (max least (2 * o.room), 1 + 2 * max least (2 * o.room)) else (o.room, 0)

set_option maxHeartbeats 1000000 in
theorem rGrown_in (o : Om) (q : Option Addr) (n0 co : Nat) (n least : Int) (w : World) (h0 : 0 ≤ o.room) (h1 : o.room ≤ 1099511627776) (hl0 : 0 ≤ least) (hl : least ≤ 8) : Calls Tryz.prog 141 #[.agg #[.int .u8 o.k, .string o.s, .slice q n0 co, .int .i64 o.room, .int .i64 o.fn], .int .i64 n, .int .i64 least] w fun e w' => e = .returned (.tuple #[.int .i64 (grownP o n least).1, .int .i64 (grownP o n least).2]) ∧ Below w.heap.size w w' := by
  have hA := below1 w (.cells #[.int .u8 o.k, .string o.s, .slice q n0 co, .int .i64 o.room, .int .i64 o.fn] 96)
  obtain ⟨⟨c0, c1, c2, c3, c4⟩, -⟩ := cell_row5 (heap_alloc_new w (.cells #[.int .u8 o.k, .string o.s, .slice q n0 co, .int .i64 o.room, .int .i64 o.fn] 96))
  by_cases hn : o.room < n
  · have hn' : ¬ (n ≤ o.room) := by omega
    by_cases hm : 2 * o.room < least
    · have e : grownP o n least = (least, 1 + 2 * least) := by unfold grownP; rw [if_pos hn, show max least (2 * o.room) = least by omega]
      rw [e]
      clear e
      go_enter Tryz.func141, Tryz.ntmps141
      go_wp2
      go_ret2
      exact ⟨rfl, hA⟩
    · have e : grownP o n least = (2 * o.room, 1 + 2 * (2 * o.room)) := by unfold grownP; rw [if_pos hn, show max least (2 * o.room) = 2 * o.room by omega]
      rw [e]
      clear e
      go_enter Tryz.func141, Tryz.ntmps141
      go_wp2
      go_ret2
      exact ⟨rfl, hA⟩
  · have hn' : n ≤ o.room := by omega
    have e : grownP o n least = (o.room, 0) := by unfold grownP; rw [if_neg hn]
    rw [e]
    clear e
    go_enter Tryz.func141, Tryz.ntmps141
    go_wp2
    go_ret2
    exact ⟨rfl, hA⟩


end Go.Proofs.YtgokofomoachaaaGreatDoor
