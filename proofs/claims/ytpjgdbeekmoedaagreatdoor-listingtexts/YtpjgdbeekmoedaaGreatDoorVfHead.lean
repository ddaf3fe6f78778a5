/- The document's head (gearboxref09). -/
import Derived.Test.YtpjgdbeekmoedaaGreatDoorVfRef2
import Derived.Test.YtpjgdbeekmoedaaGreatDoorVfFn
namespace Go.Proofs.YtpjgdbeekmoedaaGreatDoor
set_option linter.unusedVariables false
set_option linter.unusedSimpArgs false
open Go.RowKit

variable {w : World}

theorem all_pre {α : Type} {l pre rest : List α} {x : α} {q : α → Bool} (h : l = pre ++ x :: rest) (hx : q x = false) : l.all q = false := by rw [h]; simp [hx]


set_option maxRecDepth 20000 in
set_option maxHeartbeats 8000000 in
theorem head_true (f : Fm) (s : Fs) (hv : FnAt w f s) (hk : ∀ c ∈ f.consts, c.k < 256) (hp : ¬ (4096 < f.name.size) ∧ ¬ (f.params < 0) ∧ ¬ (f.locals < f.params) ∧ ¬ (64 < f.locals) ∧ ¬ (0 < f.params) ∧ ¬ (0 < f.caps.length) ∧ ¬ (4096 < f.caps.length) ∧ ¬ (16384 < f.consts.length) ∧ ¬ (16384 < f.hs.length) ∧ ¬ (f.code.length < 1) ∧ ¬ (16384 < f.code.length) ∧ f.lines.length = f.code.length) :
    Calls Tryz.prog 110 #[fnA f s, .bool true] w fun e w' => e = .returned (.bool (headP f true)) ∧ Below w.heap.size w w' := by
  have EQ : Hid (headP f true = (f.consts.all constP && f.lines.all (fun n => decide (0 ≤ n)) && f.hs.all (handP f.code.length))) := by
    show headP f true = _
    unfold headP
    rw [decide_eq_true ⟨by omega, by omega, by omega, by omega, fun _ => ⟨by omega, by omega⟩, by omega, by omega, by omega, by omega, by omega, by omega⟩, Bool.true_and]
  obtain ⟨q0, q1, q2, q3, q4, q5, q6, q7, q8, q9, q10, hlen⟩ := hp
  have f0 : ¬ ((4096 : Int) < (f.name.size : Int)) := by omega
  have f1 : ¬ (f.params < 0) := by omega
  have f2 : ¬ (f.locals < f.params) := by omega
  have f3 : ¬ (64 < f.locals) := by omega
  have m0 : ¬ (0 < f.params) := by omega
  have m1 : ¬ ((0 : Int) < (f.caps.length : Int)) := by omega
  have d0 : ¬ ((4096 : Int) < (f.caps.length : Int)) := by omega
  have d1 : ¬ ((16384 : Int) < (f.consts.length : Int)) := by omega
  have d2 : ¬ ((16384 : Int) < (f.hs.length : Int)) := by omega
  have d3 : ¬ ((f.code.length : Int) < 1) := by omega
  have d4 : ¬ ((16384 : Int) < (f.code.length : Int)) := by omega
  have dl : ((f.lines.length : Int) == (f.code.length : Int)) = true := by simp; omega
  unfold fnA
  have hB1 := below1 w (.cells #[.string f.name, .int .i64 f.params, .int .i64 f.locals, .slice s.qc f.caps.length s.cc, .slice s.qk f.consts.length s.ck, .slice s.qi f.code.length s.ci, .slice s.ql f.lines.length s.cl, .slice s.qh f.hs.length s.ch] 68)
  have hb0 := heap_alloc_new w (.cells #[.string f.name, .int .i64 f.params, .int .i64 f.locals, .slice s.qc f.caps.length s.cc, .slice s.qk f.consts.length s.ck, .slice s.qi f.code.length s.ci, .slice s.ql f.lines.length s.cl, .slice s.qh f.hs.length s.ch] 68)
  have hvk := hv.consts.below hB1
  have hvl := hv.lines.below hB1
  have hvh := hv.hs.below hB1
  have hsz : (w.alloc (.cells #[.string f.name, .int .i64 f.params, .int .i64 f.locals, .slice s.qc f.caps.length s.cc, .slice s.qk f.consts.length s.ck, .slice s.qi f.code.length s.ci, .slice s.ql f.lines.length s.cl, .slice s.qh f.hs.length s.ch] 68)).heap.size = w.heap.size + 1 := by simp
  have HF : Hid (∀ W, Below (w.alloc (.cells #[.string f.name, .int .i64 f.params, .int .i64 f.locals, .slice s.qc f.caps.length s.cc, .slice s.qk f.consts.length s.ck, .slice s.qi f.code.length s.ci, .slice s.ql f.lines.length s.cl, .slice s.qh f.hs.length s.ch] 68)).heap.size (w.alloc (.cells #[.string f.name, .int .i64 f.params, .int .i64 f.locals, .slice s.qc f.caps.length s.cc, .slice s.qk f.consts.length s.ck, .slice s.qi f.code.length s.ci, .slice s.ql f.lines.length s.cl, .slice s.qh f.hs.length s.ch] 68)) W → Below w.heap.size w W) := fun W h => hB1.trans (h.mono hB1.size)
  obtain ⟨⟨o0, o1, o2, o3, o4, o5, o6, o7⟩, -⟩ := cell_row8 hb0
  have HL : Hid (f.lines.length = f.code.length) := hlen
  clear hv hlen q0 q1 q2 q3 q4 q5 q6 q7 q8 q9 q10
  go_enter Tryz.func110, Tryz.ntmps110
  go_wp2
  generalize hWA : (w.alloc (.cells #[.string f.name, .int .i64 f.params, .int .i64 f.locals, .slice s.qc f.caps.length s.cc, .slice s.qk f.consts.length s.ck, .slice s.qi f.code.length s.ci, .slice s.ql f.lines.length s.cl, .slice s.qh f.hs.length s.ch] 68)) = WA at *
  clear f0 f1 f2 f3 m0 m1 dl
  go_loopw [6] (fun k wr => ∃ (pre rest : List Ck), k = .int .i64 pre.length ∧ f.consts = pre ++ rest ∧ pre.all constP = true ∧ Below WA.heap.size WA wr) (fun k _ => f.consts.length - (intOf k).toNat)
  case atStart => exact ⟨[], f.consts, rfl, rfl, rfl, Below.refl _ _⟩
  case round =>
    obtain ⟨pre, rest, rfl, hR, hA, hB⟩ := hrel
    obtain ⟨⟨r0, r1, r2, r3, r4, r5, r6, r7⟩, -⟩ := cell_row8 ((hB.block w.heap.size (by omega)).trans hb0)
    cases rest with
    | cons x rest =>
      have hlR : pre.length < f.consts.length := by rw [hR]; simp
      have hlR' : (pre.length : Int) < (f.consts.length : Int) := by omega
      obtain ⟨b0, off, hq, c0, c1, c2⟩ := hvk.lookK hB (j := pre.length) (x := x) (by rw [hR]; simp)
      rw [hq] at r4
      have H1 := constant_in x (hk x (by rw [hR]; simp)) wr
      have HR : Hid _ := And.intro hR hA
      have e1 : (((pre ++ [x]).length : Nat) : Int) = pre.length + 1 := by simp
      obtain ⟨cb, hcb⟩ : ∃ cb, constP x = cb := ⟨_, rfl⟩
      have HC : Hid _ := hcb
      rw [hcb] at H1
      clear hR hA hq hcb hk
      cases cb with
      | true =>
        go_wp2_with (first
          | (go_at_call 194; refine H1.mono ?_; clear H1; rintro e w2 ⟨rfl, hB2⟩))
        go_roundw
        case rel => exact ⟨pre ++ [x], rest, by rw [e1], by rw [HR.out.1]; simp, by simp [HR.out.2, HC.out], hB.trans (hB2.mono hB.size)⟩
        case measure => simp [intOf]; omega
      | false =>
        go_wp2_with (first
          | (go_at_call 194; refine H1.mono ?_; clear H1; rintro e w2 ⟨rfl, hB2⟩))
        go_ret
        exact ⟨by rw [EQ.out, all_pre HR.out.1 HC.out]; rfl, HF.out _ (hB.trans (hB2.mono hB.size))⟩
    | nil =>
      have hR' : f.consts = pre := by simpa using hR
      have hq : ¬ ((pre.length : Int) < (f.consts.length : Int)) := by rw [hR']; omega
      have EK : Hid (f.consts.all constP = true) := by rw [hR']; exact hA
      clear hR hR' hA hk hvk
      go_wp2
      rename World => w1
      clear hq
      go_loopw [7] (fun k wr => ∃ (pre rest : List Int), k = .int .i64 pre.length ∧ f.lines = pre ++ rest ∧ pre.all (fun n => decide (0 ≤ n)) = true ∧ Below WA.heap.size WA wr) (fun k _ => f.lines.length - (intOf k).toNat)
      case atStart => exact ⟨[], f.lines, rfl, rfl, rfl, hB⟩
      case round =>
        clear hB
        obtain ⟨pre, rest, rfl, hR, hA, hB⟩ := hrel
        obtain ⟨⟨u0, u1, u2, u3, u4, u5, u6, u7⟩, -⟩ := cell_row8 ((hB.block w.heap.size (by omega)).trans hb0)
        cases rest with
        | cons x rest =>
          have hlR : pre.length < f.lines.length := by rw [hR]; simp
          have hlR' : (pre.length : Int) < (f.lines.length : Int) := by omega
          have hlC' : (pre.length : Int) < (f.code.length : Int) := by have := HL.out; omega
          obtain ⟨b0, off, hq, c0⟩ := hvl.lookL hB (j := pre.length) (x := x) (by rw [hR]; simp)
          rw [hq] at u6
          have HR : Hid _ := And.intro hR hA
          have e1 : (((pre ++ [x]).length : Nat) : Int) = pre.length + 1 := by simp
          clear hR hA hq
          by_cases hx : x < 0
          · go_wp2
            go_ret
            exact ⟨by rw [EQ.out, EK.out, all_pre HR.out.1 (by simp; omega)]; rfl, HF.out _ hB⟩
          · go_wp2
            go_roundw
            case rel => exact ⟨pre ++ [x], rest, by rw [e1], by rw [HR.out.1]; simp, by rw [List.all_append, HR.out.2]; simp; omega, hB⟩
            case measure => simp [intOf]; omega
        | nil =>
          have hR' : f.lines = pre := by simpa using hR
          have hq : ¬ ((pre.length : Int) < (f.code.length : Int)) := by have := HL.out; rw [hR'] at this; omega
          have EL : Hid (f.lines.all (fun n => decide (0 ≤ n)) = true) := by rw [hR']; exact hA
          clear hR hR' hA hvl
          go_wp2
          rename World => w2
          clear hq
          go_loopw [8] (fun k wr => ∃ (pre rest : List Hn), k = .int .i64 pre.length ∧ f.hs = pre ++ rest ∧ pre.all (handP f.code.length) = true ∧ Below WA.heap.size WA wr) (fun k _ => f.hs.length - (intOf k).toNat)
          case atStart => exact ⟨[], f.hs, rfl, rfl, rfl, hB⟩
          case round =>
            clear hB
            obtain ⟨pre, rest, rfl, hR, hA, hB⟩ := hrel
            obtain ⟨⟨v0, v1, v2, v3, v4, v5, v6, v7⟩, -⟩ := cell_row8 ((hB.block w.heap.size (by omega)).trans hb0)
            cases rest with
            | cons x rest =>
              have hlR : pre.length < f.hs.length := by rw [hR]; simp
              have hlR' : (pre.length : Int) < (f.hs.length : Int) := by omega
              obtain ⟨b0, off, hq, c0, c1, c2, c3⟩ := hvh.lookH hB (j := pre.length) (x := x) (by rw [hR]; simp)
              rw [hq] at v7
              obtain ⟨fr, to, at_, deep⟩ := x
              simp only at c0 c1 c2 c3
              have HR : Hid _ := And.intro hR hA
              have e1 : (((pre ++ [(⟨fr, to, at_, deep⟩ : Hn)]).length : Nat) : Int) = pre.length + 1 := by simp
              have HB : Hid (Below WA.heap.size WA (wr.alloc (.cells #[.int .i64 fr, .int .i64 to, .int .i64 at_, .int .i64 deep] 123))) := hB.alloc hB.size _
              clear hR hA hq
              by_cases x0 : fr < 0
              · go_wp2
                go_ret
                exact ⟨by rw [EQ.out, EK.out, EL.out, all_pre HR.out.1 (by unfold handP; simp; omega)]; rfl, HF.out _ HB.out⟩
              · by_cases x1 : to ≤ fr
                · go_wp2
                  go_ret
                  exact ⟨by rw [EQ.out, EK.out, EL.out, all_pre HR.out.1 (by unfold handP; simp; omega)]; rfl, HF.out _ HB.out⟩
                · by_cases x2 : at_ < to
                  · go_wp2
                    go_ret
                    exact ⟨by rw [EQ.out, EK.out, EL.out, all_pre HR.out.1 (by unfold handP; simp; omega)]; rfl, HF.out _ HB.out⟩
                  · by_cases x3 : (f.code.length : Int) ≤ at_
                    · go_wp2
                      go_ret
                      exact ⟨by rw [EQ.out, EK.out, EL.out, all_pre HR.out.1 (by unfold handP; simp; omega)]; rfl, HF.out _ HB.out⟩
                    · by_cases x4 : deep < 0
                      · go_wp2
                        go_ret
                        exact ⟨by rw [EQ.out, EK.out, EL.out, all_pre HR.out.1 (by unfold handP; simp; omega)]; rfl, HF.out _ HB.out⟩
                      · by_cases x5 : 256 ≤ deep
                        · go_wp2
                          go_ret
                          exact ⟨by rw [EQ.out, EK.out, EL.out, all_pre HR.out.1 (by unfold handP; simp; omega)]; rfl, HF.out _ HB.out⟩
                        · go_wp2
                          go_roundw
                          case rel => exact ⟨pre ++ [⟨fr, to, at_, deep⟩], rest, by rw [e1], by rw [HR.out.1]; simp, by rw [List.all_append, HR.out.2]; simp [handP]; omega, HB.out⟩
                          case measure => simp [intOf]; omega
            | nil =>
              have hR' : f.hs = pre := by simpa using hR
              have hq : ¬ ((pre.length : Int) < (f.hs.length : Int)) := by rw [hR']; omega
              have EH : Hid (f.hs.all (handP f.code.length) = true) := by rw [hR']; exact hA
              clear hR hR' hA hvh
              go_wp2
              go_ret
              exact ⟨by rw [EQ.out, EK.out, EL.out, EH.out]; rfl, HF.out _ hB⟩

set_option maxRecDepth 20000 in
set_option maxHeartbeats 8000000 in
theorem head_false (f : Fm) (s : Fs) (hv : FnAt w f s) (hk : ∀ c ∈ f.consts, c.k < 256) (hp : ¬ (4096 < f.name.size) ∧ ¬ (f.params < 0) ∧ ¬ (f.locals < f.params) ∧ ¬ (64 < f.locals) ∧ ¬ (4096 < f.caps.length) ∧ ¬ (16384 < f.consts.length) ∧ ¬ (16384 < f.hs.length) ∧ ¬ (f.code.length < 1) ∧ ¬ (16384 < f.code.length) ∧ f.lines.length = f.code.length) :
    Calls Tryz.prog 110 #[fnA f s, .bool false] w fun e w' => e = .returned (.bool (headP f false)) ∧ Below w.heap.size w w' := by
  have EQ : Hid (headP f false = (f.consts.all constP && f.lines.all (fun n => decide (0 ≤ n)) && f.hs.all (handP f.code.length))) := by
    show headP f false = _
    unfold headP
    rw [decide_eq_true ⟨by omega, by omega, by omega, by omega, (fun h => by cases h), by omega, by omega, by omega, by omega, by omega, by omega⟩, Bool.true_and]
  obtain ⟨q0, q1, q2, q3, q4, q5, q6, q7, q8, hlen⟩ := hp
  have f0 : ¬ ((4096 : Int) < (f.name.size : Int)) := by omega
  have f1 : ¬ (f.params < 0) := by omega
  have f2 : ¬ (f.locals < f.params) := by omega
  have f3 : ¬ (64 < f.locals) := by omega
  have d0 : ¬ ((4096 : Int) < (f.caps.length : Int)) := by omega
  have d1 : ¬ ((16384 : Int) < (f.consts.length : Int)) := by omega
  have d2 : ¬ ((16384 : Int) < (f.hs.length : Int)) := by omega
  have d3 : ¬ ((f.code.length : Int) < 1) := by omega
  have d4 : ¬ ((16384 : Int) < (f.code.length : Int)) := by omega
  have dl : ((f.lines.length : Int) == (f.code.length : Int)) = true := by simp; omega
  unfold fnA
  have hB1 := below1 w (.cells #[.string f.name, .int .i64 f.params, .int .i64 f.locals, .slice s.qc f.caps.length s.cc, .slice s.qk f.consts.length s.ck, .slice s.qi f.code.length s.ci, .slice s.ql f.lines.length s.cl, .slice s.qh f.hs.length s.ch] 68)
  have hb0 := heap_alloc_new w (.cells #[.string f.name, .int .i64 f.params, .int .i64 f.locals, .slice s.qc f.caps.length s.cc, .slice s.qk f.consts.length s.ck, .slice s.qi f.code.length s.ci, .slice s.ql f.lines.length s.cl, .slice s.qh f.hs.length s.ch] 68)
  have hvk := hv.consts.below hB1
  have hvl := hv.lines.below hB1
  have hvh := hv.hs.below hB1
  have hsz : (w.alloc (.cells #[.string f.name, .int .i64 f.params, .int .i64 f.locals, .slice s.qc f.caps.length s.cc, .slice s.qk f.consts.length s.ck, .slice s.qi f.code.length s.ci, .slice s.ql f.lines.length s.cl, .slice s.qh f.hs.length s.ch] 68)).heap.size = w.heap.size + 1 := by simp
  have HF : Hid (∀ W, Below (w.alloc (.cells #[.string f.name, .int .i64 f.params, .int .i64 f.locals, .slice s.qc f.caps.length s.cc, .slice s.qk f.consts.length s.ck, .slice s.qi f.code.length s.ci, .slice s.ql f.lines.length s.cl, .slice s.qh f.hs.length s.ch] 68)).heap.size (w.alloc (.cells #[.string f.name, .int .i64 f.params, .int .i64 f.locals, .slice s.qc f.caps.length s.cc, .slice s.qk f.consts.length s.ck, .slice s.qi f.code.length s.ci, .slice s.ql f.lines.length s.cl, .slice s.qh f.hs.length s.ch] 68)) W → Below w.heap.size w W) := fun W h => hB1.trans (h.mono hB1.size)
  obtain ⟨⟨o0, o1, o2, o3, o4, o5, o6, o7⟩, -⟩ := cell_row8 hb0
  have HL : Hid (f.lines.length = f.code.length) := hlen
  clear hv hlen q0 q1 q2 q3 q4 q5 q6 q7 q8
  go_enter Tryz.func110, Tryz.ntmps110
  go_wp2
  generalize hWA : (w.alloc (.cells #[.string f.name, .int .i64 f.params, .int .i64 f.locals, .slice s.qc f.caps.length s.cc, .slice s.qk f.consts.length s.ck, .slice s.qi f.code.length s.ci, .slice s.ql f.lines.length s.cl, .slice s.qh f.hs.length s.ch] 68)) = WA at *
  clear f0 f1 f2 f3 dl
  go_loopw [6] (fun k wr => ∃ (pre rest : List Ck), k = .int .i64 pre.length ∧ f.consts = pre ++ rest ∧ pre.all constP = true ∧ Below WA.heap.size WA wr) (fun k _ => f.consts.length - (intOf k).toNat)
  case atStart => exact ⟨[], f.consts, rfl, rfl, rfl, Below.refl _ _⟩
  case round =>
    obtain ⟨pre, rest, rfl, hR, hA, hB⟩ := hrel
    obtain ⟨⟨r0, r1, r2, r3, r4, r5, r6, r7⟩, -⟩ := cell_row8 ((hB.block w.heap.size (by omega)).trans hb0)
    cases rest with
    | cons x rest =>
      have hlR : pre.length < f.consts.length := by rw [hR]; simp
      have hlR' : (pre.length : Int) < (f.consts.length : Int) := by omega
      obtain ⟨b0, off, hq, c0, c1, c2⟩ := hvk.lookK hB (j := pre.length) (x := x) (by rw [hR]; simp)
      rw [hq] at r4
      have H1 := constant_in x (hk x (by rw [hR]; simp)) wr
      have HR : Hid _ := And.intro hR hA
      have e1 : (((pre ++ [x]).length : Nat) : Int) = pre.length + 1 := by simp
      obtain ⟨cb, hcb⟩ : ∃ cb, constP x = cb := ⟨_, rfl⟩
      have HC : Hid _ := hcb
      rw [hcb] at H1
      clear hR hA hq hcb hk
      cases cb with
      | true =>
        go_wp2_with (first
          | (go_at_call 194; refine H1.mono ?_; clear H1; rintro e w2 ⟨rfl, hB2⟩))
        go_roundw
        case rel => exact ⟨pre ++ [x], rest, by rw [e1], by rw [HR.out.1]; simp, by simp [HR.out.2, HC.out], hB.trans (hB2.mono hB.size)⟩
        case measure => simp [intOf]; omega
      | false =>
        go_wp2_with (first
          | (go_at_call 194; refine H1.mono ?_; clear H1; rintro e w2 ⟨rfl, hB2⟩))
        go_ret
        exact ⟨by rw [EQ.out, all_pre HR.out.1 HC.out]; rfl, HF.out _ (hB.trans (hB2.mono hB.size))⟩
    | nil =>
      have hR' : f.consts = pre := by simpa using hR
      have hq : ¬ ((pre.length : Int) < (f.consts.length : Int)) := by rw [hR']; omega
      have EK : Hid (f.consts.all constP = true) := by rw [hR']; exact hA
      clear hR hR' hA hk hvk
      go_wp2
      rename World => w1
      clear hq
      go_loopw [7] (fun k wr => ∃ (pre rest : List Int), k = .int .i64 pre.length ∧ f.lines = pre ++ rest ∧ pre.all (fun n => decide (0 ≤ n)) = true ∧ Below WA.heap.size WA wr) (fun k _ => f.lines.length - (intOf k).toNat)
      case atStart => exact ⟨[], f.lines, rfl, rfl, rfl, hB⟩
      case round =>
        clear hB
        obtain ⟨pre, rest, rfl, hR, hA, hB⟩ := hrel
        obtain ⟨⟨u0, u1, u2, u3, u4, u5, u6, u7⟩, -⟩ := cell_row8 ((hB.block w.heap.size (by omega)).trans hb0)
        cases rest with
        | cons x rest =>
          have hlR : pre.length < f.lines.length := by rw [hR]; simp
          have hlR' : (pre.length : Int) < (f.lines.length : Int) := by omega
          have hlC' : (pre.length : Int) < (f.code.length : Int) := by have := HL.out; omega
          obtain ⟨b0, off, hq, c0⟩ := hvl.lookL hB (j := pre.length) (x := x) (by rw [hR]; simp)
          rw [hq] at u6
          have HR : Hid _ := And.intro hR hA
          have e1 : (((pre ++ [x]).length : Nat) : Int) = pre.length + 1 := by simp
          clear hR hA hq
          by_cases hx : x < 0
          · go_wp2
            go_ret
            exact ⟨by rw [EQ.out, EK.out, all_pre HR.out.1 (by simp; omega)]; rfl, HF.out _ hB⟩
          · go_wp2
            go_roundw
            case rel => exact ⟨pre ++ [x], rest, by rw [e1], by rw [HR.out.1]; simp, by rw [List.all_append, HR.out.2]; simp; omega, hB⟩
            case measure => simp [intOf]; omega
        | nil =>
          have hR' : f.lines = pre := by simpa using hR
          have hq : ¬ ((pre.length : Int) < (f.code.length : Int)) := by have := HL.out; rw [hR'] at this; omega
          have EL : Hid (f.lines.all (fun n => decide (0 ≤ n)) = true) := by rw [hR']; exact hA
          clear hR hR' hA hvl
          go_wp2
          rename World => w2
          clear hq
          go_loopw [8] (fun k wr => ∃ (pre rest : List Hn), k = .int .i64 pre.length ∧ f.hs = pre ++ rest ∧ pre.all (handP f.code.length) = true ∧ Below WA.heap.size WA wr) (fun k _ => f.hs.length - (intOf k).toNat)
          case atStart => exact ⟨[], f.hs, rfl, rfl, rfl, hB⟩
          case round =>
            clear hB
            obtain ⟨pre, rest, rfl, hR, hA, hB⟩ := hrel
            obtain ⟨⟨v0, v1, v2, v3, v4, v5, v6, v7⟩, -⟩ := cell_row8 ((hB.block w.heap.size (by omega)).trans hb0)
            cases rest with
            | cons x rest =>
              have hlR : pre.length < f.hs.length := by rw [hR]; simp
              have hlR' : (pre.length : Int) < (f.hs.length : Int) := by omega
              obtain ⟨b0, off, hq, c0, c1, c2, c3⟩ := hvh.lookH hB (j := pre.length) (x := x) (by rw [hR]; simp)
              rw [hq] at v7
              obtain ⟨fr, to, at_, deep⟩ := x
              simp only at c0 c1 c2 c3
              have HR : Hid _ := And.intro hR hA
              have e1 : (((pre ++ [(⟨fr, to, at_, deep⟩ : Hn)]).length : Nat) : Int) = pre.length + 1 := by simp
              have HB : Hid (Below WA.heap.size WA (wr.alloc (.cells #[.int .i64 fr, .int .i64 to, .int .i64 at_, .int .i64 deep] 123))) := hB.alloc hB.size _
              clear hR hA hq
              by_cases x0 : fr < 0
              · go_wp2
                go_ret
                exact ⟨by rw [EQ.out, EK.out, EL.out, all_pre HR.out.1 (by unfold handP; simp; omega)]; rfl, HF.out _ HB.out⟩
              · by_cases x1 : to ≤ fr
                · go_wp2
                  go_ret
                  exact ⟨by rw [EQ.out, EK.out, EL.out, all_pre HR.out.1 (by unfold handP; simp; omega)]; rfl, HF.out _ HB.out⟩
                · by_cases x2 : at_ < to
                  · go_wp2
                    go_ret
                    exact ⟨by rw [EQ.out, EK.out, EL.out, all_pre HR.out.1 (by unfold handP; simp; omega)]; rfl, HF.out _ HB.out⟩
                  · by_cases x3 : (f.code.length : Int) ≤ at_
                    · go_wp2
                      go_ret
                      exact ⟨by rw [EQ.out, EK.out, EL.out, all_pre HR.out.1 (by unfold handP; simp; omega)]; rfl, HF.out _ HB.out⟩
                    · by_cases x4 : deep < 0
                      · go_wp2
                        go_ret
                        exact ⟨by rw [EQ.out, EK.out, EL.out, all_pre HR.out.1 (by unfold handP; simp; omega)]; rfl, HF.out _ HB.out⟩
                      · by_cases x5 : 256 ≤ deep
                        · go_wp2
                          go_ret
                          exact ⟨by rw [EQ.out, EK.out, EL.out, all_pre HR.out.1 (by unfold handP; simp; omega)]; rfl, HF.out _ HB.out⟩
                        · go_wp2
                          go_roundw
                          case rel => exact ⟨pre ++ [⟨fr, to, at_, deep⟩], rest, by rw [e1], by rw [HR.out.1]; simp, by rw [List.all_append, HR.out.2]; simp [handP]; omega, HB.out⟩
                          case measure => simp [intOf]; omega
            | nil =>
              have hR' : f.hs = pre := by simpa using hR
              have hq : ¬ ((pre.length : Int) < (f.hs.length : Int)) := by rw [hR']; omega
              have EH : Hid (f.hs.all (handP f.code.length) = true) := by rw [hR']; exact hA
              clear hR hR' hA hvh
              go_wp2
              go_ret
              exact ⟨by rw [EQ.out, EK.out, EL.out, EH.out]; rfl, HF.out _ hB⟩

set_option maxRecDepth 20000 in
set_option maxHeartbeats 8000000 in
theorem head_any_true (f : Fm) (s : Fs) (hv : FnAt w f s) (hk : ∀ c ∈ f.consts, c.k < 256) (hl : Small f) (hn : f.name.size ≤ 140737488355328) :
    Calls Tryz.prog 110 #[fnA f s, .bool true] w fun e w' => e = .returned (.bool (headP f true)) ∧ Below w.heap.size w w' := by
  obtain ⟨b, hb⟩ : ∃ b, headP f true = b := ⟨_, rfl⟩
  have hB1 := below1 w (.cells #[.string f.name, .int .i64 f.params, .int .i64 f.locals, .slice s.qc f.caps.length s.cc, .slice s.qk f.consts.length s.ck, .slice s.qi f.code.length s.ci, .slice s.ql f.lines.length s.cl, .slice s.qh f.hs.length s.ch] 68)
  have hb0 := heap_alloc_new w (.cells #[.string f.name, .int .i64 f.params, .int .i64 f.locals, .slice s.qc f.caps.length s.cc, .slice s.qk f.consts.length s.ck, .slice s.qi f.code.length s.ci, .slice s.ql f.lines.length s.cl, .slice s.qh f.hs.length s.ch] 68)
  obtain ⟨⟨o0, o1, o2, o3, o4, o5, o6, o7⟩, -⟩ := cell_row8 hb0
  obtain ⟨l0, l1, l2, l3, l4⟩ := hl
  by_cases c12m : 4096 < f.name.size
  · have c12m' : (4096 : Int) < (f.name.size : Int) := by omega
    have hbf : b = false := by rw [← hb]; unfold headP; rw [decide_eq_false (by rintro ⟨a1, a2, a3, a4, a5, a6, a7, a8, a9, a10, a11⟩; have := a5 rfl; omega)]; rfl
    rw [hb, hbf]
    clear hb hbf hv hk
    unfold fnA
    go_enter Tryz.func110, Tryz.ntmps110
    go_wp2
    go_ret
    exact ⟨rfl, hB1⟩
  · have c12m' : ¬ ((4096 : Int) < (f.name.size : Int)) := by omega
    by_cases c11m : f.params < 0
    · have c11m' : f.params < 0 := by omega
      have hbf : b = false := by rw [← hb]; unfold headP; rw [decide_eq_false (by rintro ⟨a1, a2, a3, a4, a5, a6, a7, a8, a9, a10, a11⟩; have := a5 rfl; omega)]; rfl
      rw [hb, hbf]
      clear hb hbf hv hk
      unfold fnA
      go_enter Tryz.func110, Tryz.ntmps110
      go_wp2
      go_ret
      exact ⟨rfl, hB1⟩
    · have c11m' : ¬ (f.params < 0) := by omega
      by_cases c10m : f.locals < f.params
      · have c10m' : f.locals < f.params := by omega
        have hbf : b = false := by rw [← hb]; unfold headP; rw [decide_eq_false (by rintro ⟨a1, a2, a3, a4, a5, a6, a7, a8, a9, a10, a11⟩; have := a5 rfl; omega)]; rfl
        rw [hb, hbf]
        clear hb hbf hv hk
        unfold fnA
        go_enter Tryz.func110, Tryz.ntmps110
        go_wp2
        go_ret
        exact ⟨rfl, hB1⟩
      · have c10m' : ¬ (f.locals < f.params) := by omega
        by_cases c9m : 64 < f.locals
        · have c9m' : 64 < f.locals := by omega
          have hbf : b = false := by rw [← hb]; unfold headP; rw [decide_eq_false (by rintro ⟨a1, a2, a3, a4, a5, a6, a7, a8, a9, a10, a11⟩; have := a5 rfl; omega)]; rfl
          rw [hb, hbf]
          clear hb hbf hv hk
          unfold fnA
          go_enter Tryz.func110, Tryz.ntmps110
          go_wp2
          go_ret
          exact ⟨rfl, hB1⟩
        · have c9m' : ¬ (64 < f.locals) := by omega
          by_cases c8m : 0 < f.params
          · have c8m' : 0 < f.params := by omega
            have hbf : b = false := by rw [← hb]; unfold headP; rw [decide_eq_false (by rintro ⟨a1, a2, a3, a4, a5, a6, a7, a8, a9, a10, a11⟩; have := a5 rfl; omega)]; rfl
            rw [hb, hbf]
            clear hb hbf hv hk
            unfold fnA
            go_enter Tryz.func110, Tryz.ntmps110
            go_wp2
            go_ret
            exact ⟨rfl, hB1⟩
          · have c8m' : ¬ (0 < f.params) := by omega
            by_cases c7m : 0 < f.caps.length
            · have c7m' : (0 : Int) < (f.caps.length : Int) := by omega
              have hbf : b = false := by rw [← hb]; unfold headP; rw [decide_eq_false (by rintro ⟨a1, a2, a3, a4, a5, a6, a7, a8, a9, a10, a11⟩; have := a5 rfl; omega)]; rfl
              rw [hb, hbf]
              clear hb hbf hv hk
              unfold fnA
              go_enter Tryz.func110, Tryz.ntmps110
              go_wp2
              go_ret
              exact ⟨rfl, hB1⟩
            · have c7m' : ¬ ((0 : Int) < (f.caps.length : Int)) := by omega
              by_cases c6m : 4096 < f.caps.length
              · have c6m' : (4096 : Int) < (f.caps.length : Int) := by omega
                exfalso; omega
              · have c6m' : ¬ ((4096 : Int) < (f.caps.length : Int)) := by omega
                by_cases c5m : 16384 < f.consts.length
                · have c5m' : (16384 : Int) < (f.consts.length : Int) := by omega
                  have hbf : b = false := by rw [← hb]; unfold headP; rw [decide_eq_false (by rintro ⟨a1, a2, a3, a4, a5, a6, a7, a8, a9, a10, a11⟩; have := a5 rfl; omega)]; rfl
                  rw [hb, hbf]
                  clear hb hbf hv hk
                  unfold fnA
                  go_enter Tryz.func110, Tryz.ntmps110
                  go_wp2
                  go_ret
                  exact ⟨rfl, hB1⟩
                · have c5m' : ¬ ((16384 : Int) < (f.consts.length : Int)) := by omega
                  by_cases c4m : 16384 < f.hs.length
                  · have c4m' : (16384 : Int) < (f.hs.length : Int) := by omega
                    have hbf : b = false := by rw [← hb]; unfold headP; rw [decide_eq_false (by rintro ⟨a1, a2, a3, a4, a5, a6, a7, a8, a9, a10, a11⟩; have := a5 rfl; omega)]; rfl
                    rw [hb, hbf]
                    clear hb hbf hv hk
                    unfold fnA
                    go_enter Tryz.func110, Tryz.ntmps110
                    go_wp2
                    go_ret
                    exact ⟨rfl, hB1⟩
                  · have c4m' : ¬ ((16384 : Int) < (f.hs.length : Int)) := by omega
                    by_cases c3m : f.code.length < 1
                    · have c3m' : (f.code.length : Int) < 1 := by omega
                      have hbf : b = false := by rw [← hb]; unfold headP; rw [decide_eq_false (by rintro ⟨a1, a2, a3, a4, a5, a6, a7, a8, a9, a10, a11⟩; have := a5 rfl; omega)]; rfl
                      rw [hb, hbf]
                      clear hb hbf hv hk
                      unfold fnA
                      go_enter Tryz.func110, Tryz.ntmps110
                      go_wp2
                      go_ret
                      exact ⟨rfl, hB1⟩
                    · have c3m' : ¬ ((f.code.length : Int) < 1) := by omega
                      by_cases c2m : 16384 < f.code.length
                      · have c2m' : (16384 : Int) < (f.code.length : Int) := by omega
                        have hbf : b = false := by rw [← hb]; unfold headP; rw [decide_eq_false (by rintro ⟨a1, a2, a3, a4, a5, a6, a7, a8, a9, a10, a11⟩; have := a5 rfl; omega)]; rfl
                        rw [hb, hbf]
                        clear hb hbf hv hk
                        unfold fnA
                        go_enter Tryz.func110, Tryz.ntmps110
                        go_wp2
                        go_ret
                        exact ⟨rfl, hB1⟩
                      · have c2m' : ¬ ((16384 : Int) < (f.code.length : Int)) := by omega
                        by_cases c1m : f.lines.length ≠ f.code.length
                        · have c1m' : ((f.lines.length : Int) == (f.code.length : Int)) = false := by simp; omega
                          have hbf : b = false := by rw [← hb]; unfold headP; rw [decide_eq_false (by rintro ⟨a1, a2, a3, a4, a5, a6, a7, a8, a9, a10, a11⟩; have := a5 rfl; omega)]; rfl
                          rw [hb, hbf]
                          clear hb hbf hv hk
                          unfold fnA
                          go_enter Tryz.func110, Tryz.ntmps110
                          go_wp2
                          go_ret
                          exact ⟨rfl, hB1⟩
                        · have c1m' : f.lines.length = f.code.length := by omega
                          have c1mb : ((f.lines.length : Int) == (f.code.length : Int)) = true := by simp; omega
                          subst hb
                          exact head_true f s hv hk ⟨by assumption, by assumption, by assumption, by assumption, by assumption, by assumption, by assumption, by assumption, by assumption, by assumption, by assumption, by omega⟩

set_option maxRecDepth 20000 in
set_option maxHeartbeats 8000000 in
theorem head_any_false (f : Fm) (s : Fs) (hv : FnAt w f s) (hk : ∀ c ∈ f.consts, c.k < 256) (hl : Small f) (hn : f.name.size ≤ 140737488355328) :
    Calls Tryz.prog 110 #[fnA f s, .bool false] w fun e w' => e = .returned (.bool (headP f false)) ∧ Below w.heap.size w w' := by
  obtain ⟨b, hb⟩ : ∃ b, headP f false = b := ⟨_, rfl⟩
  have hB1 := below1 w (.cells #[.string f.name, .int .i64 f.params, .int .i64 f.locals, .slice s.qc f.caps.length s.cc, .slice s.qk f.consts.length s.ck, .slice s.qi f.code.length s.ci, .slice s.ql f.lines.length s.cl, .slice s.qh f.hs.length s.ch] 68)
  have hb0 := heap_alloc_new w (.cells #[.string f.name, .int .i64 f.params, .int .i64 f.locals, .slice s.qc f.caps.length s.cc, .slice s.qk f.consts.length s.ck, .slice s.qi f.code.length s.ci, .slice s.ql f.lines.length s.cl, .slice s.qh f.hs.length s.ch] 68)
  obtain ⟨⟨o0, o1, o2, o3, o4, o5, o6, o7⟩, -⟩ := cell_row8 hb0
  obtain ⟨l0, l1, l2, l3, l4⟩ := hl
  by_cases c10 : 4096 < f.name.size
  · have c10' : (4096 : Int) < (f.name.size : Int) := by omega
    have hbf : b = false := by rw [← hb]; unfold headP; rw [decide_eq_false (by rintro ⟨a1, a2, a3, a4, a5, a6, a7, a8, a9, a10, a11⟩; omega)]; rfl
    rw [hb, hbf]
    clear hb hbf hv hk
    unfold fnA
    go_enter Tryz.func110, Tryz.ntmps110
    go_wp2
    go_ret
    exact ⟨rfl, hB1⟩
  · have c10' : ¬ ((4096 : Int) < (f.name.size : Int)) := by omega
    by_cases c9 : f.params < 0
    · have c9' : f.params < 0 := by omega
      have hbf : b = false := by rw [← hb]; unfold headP; rw [decide_eq_false (by rintro ⟨a1, a2, a3, a4, a5, a6, a7, a8, a9, a10, a11⟩; omega)]; rfl
      rw [hb, hbf]
      clear hb hbf hv hk
      unfold fnA
      go_enter Tryz.func110, Tryz.ntmps110
      go_wp2
      go_ret
      exact ⟨rfl, hB1⟩
    · have c9' : ¬ (f.params < 0) := by omega
      by_cases c8 : f.locals < f.params
      · have c8' : f.locals < f.params := by omega
        have hbf : b = false := by rw [← hb]; unfold headP; rw [decide_eq_false (by rintro ⟨a1, a2, a3, a4, a5, a6, a7, a8, a9, a10, a11⟩; omega)]; rfl
        rw [hb, hbf]
        clear hb hbf hv hk
        unfold fnA
        go_enter Tryz.func110, Tryz.ntmps110
        go_wp2
        go_ret
        exact ⟨rfl, hB1⟩
      · have c8' : ¬ (f.locals < f.params) := by omega
        by_cases c7 : 64 < f.locals
        · have c7' : 64 < f.locals := by omega
          have hbf : b = false := by rw [← hb]; unfold headP; rw [decide_eq_false (by rintro ⟨a1, a2, a3, a4, a5, a6, a7, a8, a9, a10, a11⟩; omega)]; rfl
          rw [hb, hbf]
          clear hb hbf hv hk
          unfold fnA
          go_enter Tryz.func110, Tryz.ntmps110
          go_wp2
          go_ret
          exact ⟨rfl, hB1⟩
        · have c7' : ¬ (64 < f.locals) := by omega
          by_cases c6 : 4096 < f.caps.length
          · have c6' : (4096 : Int) < (f.caps.length : Int) := by omega
            have hbf : b = false := by rw [← hb]; unfold headP; rw [decide_eq_false (by rintro ⟨a1, a2, a3, a4, a5, a6, a7, a8, a9, a10, a11⟩; omega)]; rfl
            rw [hb, hbf]
            clear hb hbf hv hk
            unfold fnA
            go_enter Tryz.func110, Tryz.ntmps110
            go_wp2
            go_ret
            exact ⟨rfl, hB1⟩
          · have c6' : ¬ ((4096 : Int) < (f.caps.length : Int)) := by omega
            by_cases c5 : 16384 < f.consts.length
            · have c5' : (16384 : Int) < (f.consts.length : Int) := by omega
              have hbf : b = false := by rw [← hb]; unfold headP; rw [decide_eq_false (by rintro ⟨a1, a2, a3, a4, a5, a6, a7, a8, a9, a10, a11⟩; omega)]; rfl
              rw [hb, hbf]
              clear hb hbf hv hk
              unfold fnA
              go_enter Tryz.func110, Tryz.ntmps110
              go_wp2
              go_ret
              exact ⟨rfl, hB1⟩
            · have c5' : ¬ ((16384 : Int) < (f.consts.length : Int)) := by omega
              by_cases c4 : 16384 < f.hs.length
              · have c4' : (16384 : Int) < (f.hs.length : Int) := by omega
                have hbf : b = false := by rw [← hb]; unfold headP; rw [decide_eq_false (by rintro ⟨a1, a2, a3, a4, a5, a6, a7, a8, a9, a10, a11⟩; omega)]; rfl
                rw [hb, hbf]
                clear hb hbf hv hk
                unfold fnA
                go_enter Tryz.func110, Tryz.ntmps110
                go_wp2
                go_ret
                exact ⟨rfl, hB1⟩
              · have c4' : ¬ ((16384 : Int) < (f.hs.length : Int)) := by omega
                by_cases c3 : f.code.length < 1
                · have c3' : (f.code.length : Int) < 1 := by omega
                  have hbf : b = false := by rw [← hb]; unfold headP; rw [decide_eq_false (by rintro ⟨a1, a2, a3, a4, a5, a6, a7, a8, a9, a10, a11⟩; omega)]; rfl
                  rw [hb, hbf]
                  clear hb hbf hv hk
                  unfold fnA
                  go_enter Tryz.func110, Tryz.ntmps110
                  go_wp2
                  go_ret
                  exact ⟨rfl, hB1⟩
                · have c3' : ¬ ((f.code.length : Int) < 1) := by omega
                  by_cases c2 : 16384 < f.code.length
                  · have c2' : (16384 : Int) < (f.code.length : Int) := by omega
                    have hbf : b = false := by rw [← hb]; unfold headP; rw [decide_eq_false (by rintro ⟨a1, a2, a3, a4, a5, a6, a7, a8, a9, a10, a11⟩; omega)]; rfl
                    rw [hb, hbf]
                    clear hb hbf hv hk
                    unfold fnA
                    go_enter Tryz.func110, Tryz.ntmps110
                    go_wp2
                    go_ret
                    exact ⟨rfl, hB1⟩
                  · have c2' : ¬ ((16384 : Int) < (f.code.length : Int)) := by omega
                    by_cases c1 : f.lines.length ≠ f.code.length
                    · have c1' : ((f.lines.length : Int) == (f.code.length : Int)) = false := by simp; omega
                      have hbf : b = false := by rw [← hb]; unfold headP; rw [decide_eq_false (by rintro ⟨a1, a2, a3, a4, a5, a6, a7, a8, a9, a10, a11⟩; omega)]; rfl
                      rw [hb, hbf]
                      clear hb hbf hv hk
                      unfold fnA
                      go_enter Tryz.func110, Tryz.ntmps110
                      go_wp2
                      go_ret
                      exact ⟨rfl, hB1⟩
                    · have c1' : f.lines.length = f.code.length := by omega
                      have c1b : ((f.lines.length : Int) == (f.code.length : Int)) = true := by simp; omega
                      subst hb
                      exact head_false f s hv hk ⟨by assumption, by assumption, by assumption, by assumption, by assumption, by assumption, by assumption, by assumption, by assumption, by omega⟩

theorem head_in (f : Fm) (s : Fs) (main : Bool) (hv : FnAt w f s) (hk : ∀ c ∈ f.consts, c.k < 256) (hl : Small f) (hn : f.name.size ≤ 140737488355328) :
    Calls Tryz.prog 110 #[fnA f s, .bool main] w fun e w' => e = .returned (.bool (headP f main)) ∧ Below w.heap.size w w' := by
  cases main with
  | true => exact head_any_true f s hv hk hl hn
  | false => exact head_any_false f s hv hk hl hn

end Go.Proofs.YtpjgdbeekmoedaaGreatDoor
